/- Lexm to Parp: PLAIN MATHEMATICS of layer lex: bytes, blanks, tokens of a text, what is printed of them. No Go in s -/
import Derived.Lib.ItoaNum
import Derived.Lib.ParseIntB
import Derived.Lib.Strings
import Derived.Lib.Bytealg
namespace Go.Proofs.YtcchdlnfeijinaaGreatDoor
set_option linter.unusedSectionVars false
set_option linter.unusedSimpArgs false
set_option linter.unusedVariables false
section
def isL (c:UInt8):Bool:=(decide (97<=c.toNat) && decide (c.toNat<=122)) || decide (c.toNat=95)
def isD (c:UInt8):Bool:=decide (48<=c.toNat) && decide (c.toNat<=57)
def isN (c:UInt8):Bool:=isL c || isD c
def isB (c:UInt8):Bool:=decide (c.toNat=32) || decide (c.toNat=10)
structure Tok where
 k:Int
 p:Int
 n:Int
 s:List UInt8
 deriving DecidableEq
def tk0:Tok:=⟨0,0,0,[]⟩
def sg:List (List UInt8):=[[60,60],[62,62],[60,61],[62,61],[61,61],[33,61],[38,38],[124,124],[43],[45],[42],[47],[37],[38],[124],[94],[126],[33],[60],[62],[61],[40],[41],[123],[125],[91],[93],[59],[44],[58]]
def dg (a:Nat) (c:UInt8):Nat:=a * 10+(c.toNat - 48)
def dv (acc:Nat) (l:List UInt8):Nat:=l.foldl dg acc
theorem Aq (acc:Nat)(c:UInt8)(r:List UInt8):dv acc (c ::r)=dv (acc * 10+(c.toNat - 48)) r:=by rw [dv,List.foldl_cons,dv,dg]
theorem yY (acc:Nat):dv acc []=acc:=by rw [dv,List.foldl_nil]
def hd (f:UInt8->Bool):List UInt8->Bool
 | []=>false
 |c ::_=>f c
def len (f:UInt8->Bool):List UInt8->Nat
 | []=>0
 |c ::r=>if f c then len f r+1 else 0
abbrev Sc:=Tok×Nat×Int
def fK (l:List UInt8):Sc:=if 24<len isN l then (tk0,0,10) else (⟨1,0,0,l.take (len isN l)⟩,len isN l,0)
def lng (l:List UInt8):Bool:=hd (fun c=>decide (c.toNat=76)) (l.drop (len isD l))
def nsz (l:List UInt8):Nat:=if lng l then len isD l+1 else len isD l
def cB (l:List UInt8):Bool:=(decide (1<len isD l) && hd (fun c=>decide (c.toNat=48)) l) || hd isN (l.drop (nsz l))
def jK (l:List UInt8):Nat:=if lng l then 9223372036854775807 else 2147483647
def eP (l:List UInt8):Nat:=dv 0 (l.take (len isD l))
def fD (l:List UInt8):List UInt8:=if lng l then [76] else []
def aT (l:List UInt8):Sc:=
 if cB l then (tk0,0,2) else if jK l<eP l then (tk0,0,11) else (⟨2,0,eP l,fD l⟩,nsz l,0)
def ib (l:List UInt8):Sc:=
 match sg.find? (fun s=>s.isPrefixOf l) with
 |some s=>(⟨3,0,0,s⟩,s.length,0)
 |none=>(tk0,0,1)
def sc (l:List UInt8):Sc:=if hd isL l then fK l else if hd isD l then aT l else ib l
def sk:Bool->List UInt8->Nat
 |_,[]=>0
 |false,c ::r=>if isB c then sk false r+1 else if decide (c.toNat=47) && hd (fun d=>decide (d.toNat=47)) r then sk true r+1 else 0
 |true,c ::r=>if decide (c.toNat=10) then sk false r+1 else sk true r+1
def Tok.to (t:Tok) (p:Int):Tok:=⟨t.k,p,t.n,t.s⟩
def sq:Nat->Nat->List UInt8->List (Tok×Int)
 |0,_,_=>[]
 |n+1,a,l=>
  if l=[] then [(⟨4,a,0,[]⟩,0)]
  else if (sc l).2.2≠0 then [((sc l).1.to a,(sc l).2.2)]
  else ((sc l).1.to a,0) ::sq n (a+(sc l).2.1+sk false (l.drop (sc l).2.1)) (l.drop ((sc l).2.1+sk false (l.drop (sc l).2.1)))
def jY (t:List UInt8) (a:Nat):List (Tok×Int):=sq (t.length+1 - a) a (t.drop a)
def fV (t:List UInt8) (a:Nat):Nat:=a+sk false (t.drop a)
def kW (t:List UInt8):List (Tok×Int):=jY t (fV t 0)
def res (pre:List Tok):List (Tok×Int)->List Tok×Int×Int
 | []=>(pre,0,0)
 | (t,no) ::r=>if no≠0 then ([],no,t.p) else res (pre ++ [t]) r
def gm (t:List UInt8):List Tok×Int×Int:=if 1048576<t.length then ([],10,0) else res [] (kW t)
theorem iL (f:UInt8->Bool)(l:List UInt8):len f l<=l.length:=by
 induction l with
 |nil=>simp [len]
 |cons c r ih=>simp only [len];split <;> simp <;> omega
theorem wH (b:Bool)(l:List UInt8):sk b l<=l.length:=by
 induction l generalizing b with
 |nil=>simp [sk]
 |cons c r ih=>
  cases b
  ·simp only [sk];have:=ih false;have:=ih true;split
   ·simp;omega
   ·split <;> simp <;> omega
  ·simp only [sk];have:=ih false;have:=ih true;split <;> simp <;> omega
theorem rE {f:UInt8->Bool}{l:List UInt8}(h:hd f l=true):1<=len f l:=by
 cases l with
 |nil=>simp [hd] at h
 |cons c r=>simp only [hd] at h;simp [len,h]
theorem rA {c:UInt8}(h:isL c=true):isN c=true:=by simp [isN,h]
theorem Al {f g:UInt8->Bool}(hfg:∀c,f c=true->g c=true){l:List UInt8}(h:hd f l=true):hd g l=true:=by
 cases l with
 |nil=>simp [hd] at h
 |cons c r=>exact hfg c h
theorem qy (f:UInt8->Bool)(l:List UInt8):∀c∈l.take (len f l),f c=true:=by
 induction l with
 |nil=>simp
 |cons c r ih=>
  by_cases h:f c=true
  ·simp only [len,h,if_true,List.take_succ_cons];intro d hd;rcases List.mem_cons.1 hd with rfl|hd
   ·exact h
   ·exact ih d hd
  ·simp [len,h]
theorem wK:∀s∈sg,1<=s.length/\s.length<=2:=by decide
theorem J5 (l:List UInt8):nsz l<=l.length:=by
 unfold nsz;split
 ·rename_i h;unfold lng at h;have h1:=iL isD l;rcases Nat.lt_or_ge (len isD l) l.length with h2|h2
  ·omega
  ·rw [List.drop_of_length_le h2] at h;simp [hd] at h
 ·exact iL isD l
theorem nV {l:List UInt8}(h:(sc l).2.2=0):1<=(sc l).2.1/\(sc l).2.1<=l.length:=by
 revert h
 unfold sc;split
 ·rename_i hl;have h1:=rE (Al (fun c=>rA) hl)
  have h2:=iL isN l;unfold fK;split
  ·intro h;simp at h
  ·intro _;exact ⟨h1,h2⟩
 ·split
  ·rename_i hl;have h1:=rE hl;have h2:=J5 l;unfold aT;split
   ·intro h;simp at h
   ·split
    ·intro h;simp at h
    ·intro _;refine ⟨?_,h2⟩;show 1<=nsz l;unfold nsz;split <;> omega
  ·unfold ib;split
   ·rename_i s hs;intro _;have h1:=List.find?_some hs;have h2:=wK s (List.mem_of_find?_eq_some hs);have h3:=(List.isPrefixOf_iff_prefix.1 h1).length_le;exact ⟨h2.1,h3⟩
   ·intro h;simp at h
theorem uG (n m a:Nat)(l:List UInt8)(hn:l.length<n)(hm:l.length<m):sq n a l=sq m a l:=by
 induction n generalizing m a l with
 |zero=>omega
 |succ n ih=>
  obtain ⟨m,rfl⟩:∃k,m=k+1:=⟨m - 1,by omega⟩
  simp only [sq];split
  ·rfl
  ·rename_i hl;split
   ·rfl
   ·rename_i h0;have h1:=nV (l:=l) (by simpa using h0)
    have:(l.drop ((sc l).2.1+sk false (l.drop (sc l).2.1))).length<l.length:=by rw [List.length_drop];omega
    rw [ih m _ _ (by omega) (by omega)]
theorem sU {t:List UInt8}{a:Nat}(h:a=t.length):jY t a=[(⟨4,a,0,[]⟩,0)]:=by
 subst h;simp [jY,sq]
theorem zH (t:List UInt8){a:Nat}(h:a<=t.length):fV t a<=t.length:=by
 have:=wH false (t.drop a);rw [List.length_drop] at this;unfold fV;omega
theorem FB (t:List UInt8)(a:Nat):a<=fV t a:=by unfold fV;omega
theorem sV {t:List UInt8}{a:Nat}(h:a<t.length)(h0:(sc (t.drop a)).2.2≠0):jY t a=[((sc (t.drop a)).1.to a,(sc (t.drop a)).2.2)]:=by
 have aD:t.drop a≠[]:=fun e=>by have:=congrArg List.length e;rw [List.length_drop] at this;simp at this;omega
 rw [jY,show t.length+1 - a=(t.length - a)+1 by omega,sq,if_neg aD,if_pos h0]
theorem qP {t:List UInt8}{a:Nat}(h:a<t.length)(h0:(sc (t.drop a)).2.2=0) :
  jY t a=((sc (t.drop a)).1.to a,0) ::jY t (fV t (a+(sc (t.drop a)).2.1)):=by
 have aD:t.drop a≠[]:=fun e=>by have:=congrArg List.length e;rw [List.length_drop] at this;simp at this;omega
 have h1:=nV h0;rw [List.length_drop] at h1;rw [jY,show t.length+1 - a=(t.length - a)+1 by omega,sq,if_neg aD,if_neg (by simpa using h0)]
 congr 1
 unfold jY fV;rw [List.drop_drop,List.drop_drop];have e:a+((sc (t.drop a)).2.1+sk false (t.drop (a+(sc (t.drop a)).2.1)))=a+(sc (t.drop a)).2.1+sk false (t.drop (a+(sc (t.drop a)).2.1)):=by omega
 rw [e];apply uG
 ·rw [List.length_drop];have:=wH false (t.drop (a+(sc (t.drop a)).2.1));rw [List.length_drop] at this;omega
 ·rw [List.length_drop];have:=wH false (t.drop (a+(sc (t.drop a)).2.1));rw [List.length_drop] at this;omega
theorem Dq (pre:List Tok)(xs ys:List (Tok×Int))(h:∀x∈xs,x.2=0):res pre (xs ++ ys)=res (pre ++ xs.map (·.1)) ys:=by
 induction xs generalizing pre with
 |nil=>simp
 |cons x xs ih=>
  obtain ⟨t,no⟩:=x;have h0:no=0:=h (t,no) (by simp)
  subst h0;simp only [List.cons_append,res];rw [if_neg (by simp),ih _ fun x hx=>h x (List.mem_cons_of_mem _ hx)]
  simp
end
section
structure Hd where
 op:Int
 p:Int
 n:Int
 s:List UInt8
 to:Int
 ty:Int
 deriving DecidableEq
inductive Fo where
 |nil
 |cons (h:Hd) (kids rest:Fo)
 deriving DecidableEq
structure Nd where
 h:Hd
 kids:List Nat
 deriving DecidableEq
def Fo.size:Fo->Nat
 | .nil=>0
 | .cons _ k r=>k.size+1+r.size
def Fo.app:Fo->Fo->Fo
 | .nil,y=>y
 | .cons h k r,y=>.cons h k (r.app y)
def Fo.roots (c:Nat):Fo->List Nat
 | .nil=>[]
 | .cons _ k r=>(c+k.size) ::r.roots (c+k.size+1)
def Fo.flat (c:Nat):Fo->List Nd
 | .nil=>[]
 | .cons h k r=>k.flat c ++ ⟨h,k.roots c⟩ ::r.flat (c+k.size+1)
def Fo.len:Fo->Nat
 | .nil=>0
 | .cons _ _ r=>r.len+1
def Fo.one (h:Hd) (k:Fo):Fo:=.cons h k .nil
theorem Fo.jH (x y:Fo):(x.app y).size=x.size+y.size:=by
 induction x with
 |nil=>simp [Fo.app,Fo.size]
 |cons h k r _ ih=>simp only [Fo.app,Fo.size,ih];omega
theorem Fo.Ey (x y:Fo):∀c,(x.app y).flat c=x.flat c ++ y.flat (c+x.size):=by
 induction x with
 |nil=>intro c;simp [Fo.app,Fo.flat,Fo.size]
 |cons h k r _ ih=>intro c;simp only [Fo.app,Fo.flat,Fo.size,ih,List.append_assoc,List.cons_append];congr 3;congr 1;omega
theorem Fo.jB (x y:Fo):∀c,(x.app y).roots c=x.roots c ++ y.roots (c+x.size):=by
 induction x with
 |nil=>intro c;simp [Fo.app,Fo.roots,Fo.size]
 |cons h k r _ ih=>intro c;simp only [Fo.app,Fo.roots,Fo.size,ih,List.cons_append];congr 3;omega
theorem Fo.aD (x:Fo):∀c,(x.flat c).length=x.size:=by
 induction x with
 |nil=>intro c;rfl
 |cons h k r ih1 ih2=>intro c;simp only [Fo.flat,Fo.size,List.length_append,List.length_cons,ih1,ih2];omega
theorem Fo.dK (x:Fo):∀c,(x.roots c).length=x.len:=by
 induction x with
 |nil=>intro c;rfl
 |cons h k r ih1 ih2=>intro c;simp only [Fo.roots,Fo.len,List.length_cons,ih2]
theorem Fo.vS (x:Fo):x.app .nil=x:=by
 induction x with
 |nil=>rfl
 |cons h k r _ ih=>simp only [Fo.app,ih]
theorem Fo.ut (x y z:Fo):(x.app y).app z=x.app (y.app z):=by
 induction x with
 |nil=>rfl
 |cons h k r _ ih=>simp only [Fo.app,ih]
def pM:List UInt8:=[99,104,97,114]
def lQ:List UInt8:=[105,110,116]
def iO:List UInt8:=[108,111,110,103]
def pK:List UInt8:=[118,111,105,100]
def wIf:List UInt8:=[105,102]
def jG:List UInt8:=[101,108,115,101]
def gP:List UInt8:=[119,104,105,108,101]
def jF:List UInt8:=[103,111,116,111]
def dS:List UInt8:=[114,101,116,117,114,110]
def wIn:List UInt8:=[105,110]
def mU:List UInt8:=[111,117,116]
def Cn:List (List UInt8):=[pM,lQ,iO,pK,wIf,jG,gP,jF,dS,wIn,mU]
def isW (s:List UInt8):Bool:=decide (s∈Cn)
def q (t:Tok):List UInt8:=if t.k=3∨(t.k=1/\isW t.s=true) then t.s else []
def jX (t:Tok):Bool:=decide (t.k=1) && !isW t.s
def eH (s:List UInt8):Option Int:=
 if s=pK then some 0 else if s=lQ then some 1 else if s=iO then some 2 else if s=pM then some 3 else none
def lvl (s:List UInt8):Nat:=
 if s=[124,124] then 1 else if s=[38,38] then 2 else if s=[124] then 3 else if s=[94] then 4 else if s=[38] then 5
 else if s=[61,61]∨s=[33,61] then 6 else if s=[60]∨s=[60,61]∨s=[62]∨s=[62,61] then 7
 else if s=[60,60]∨s=[62,62] then 8 else if s=[43]∨s=[45] then 9 else if s=[42]∨s=[47]∨s=[37] then 10 else 0
structure St where
 l:List Tok
 c:Nat
inductive Rs (α:Type) where
 |ok (a:α) (s:St)
 |er (no p:Int)
 |out
def Rs.bind {α β:Type} (r:Rs α) (f:α->St->Rs β):Rs β:=
 match r with
 | .ok a s=>f a s
 | .er no p=>.er no p
 | .out=>.out
theorem Rs.bind_ok {α β:Type}(a:α)(s:St)(f:α->St->Rs β):(Rs.ok a s).bind f=f a s:=rfl
theorem Rs.aB {α β:Type}(n p:Int)(f:α->St->Rs β):(Rs.er n p:Rs α).bind f=.er n p:=rfl
theorem zR:(∀{α β:Type}(a:α)(s:St)(f:α->St->Rs β),(Rs.ok a s).bind f=f a s)/\(∀{α β:Type}(n p:Int)(f:α->St->Rs β),(Rs.er n p:Rs α).bind f=.er n p)/\(∀{α:Type}{h:Decidable True}(a b:α),@ite α True h a b=a)/\(∀{α:Type}{h:Decidable False}(a b:α),@ite α False h a b=b)/\((false=true)=False):=⟨fun _ _ _=>rfl,fun _ _ _=>rfl,fun _ _=>if_pos trivial,fun _ _=>if_neg id,by simp⟩
def St.nx (s:St):St:=⟨s.l.tail,s.c⟩
section
variable (e:Tok)
def pk (s:St):Tok:=s.l.headD e
def wr {α:Type} (no:Int) (s:St):Rs α:=.er no (pk e s).p
def isT (x:List UInt8) (s:St):Bool:=decide (q (pk e s)=x)
def must (x:List UInt8) (s:St):Rs Unit:=if isT e x s then .ok () s.nx else wr e 2 s
def gF (s:St):Rs Tok:=if jX (pk e s) then .ok (pk e s) s.nx else wr e 2 s
def gz (ks:List Int) (s:St):Rs Int:=
 match eH (q (pk e s)) with
 |some k=>if k∈ks then .ok k s.nx else wr e 2 s
 |none=>wr e 2 s
def bz (h:Hd) (kids:Fo) (s:St):Rs Fo:=if 4000<=s.c then .er 9 h.p else .ok (.one h kids) ⟨s.l,s.c+1⟩
def fM (d:Nat) (s:St):Rs Unit:=if 40<d then wr e 3 s else .ok () s
inductive Md where
 |bin (d least:Nat)
 |loop (d least:Nat) (left:Fo)
 |opd (d:Nat)
 |args (d:Nat)
 |stm (d:Nat)
 |blk (d:Nat)
variable (rec:Md->St->Rs Fo)
def vR (d least:Nat) (s:St):Rs Fo:=(rec (.opd d) s).bind fun a s=>rec (.loop d least a) s
def l6 (d least:Nat) (left:Fo) (s:St):Rs Fo:=
 if lvl (q (pk e s))<least then .ok left s
 else (rec (.bin d (lvl (q (pk e s))+1)) s.nx).bind fun b s'=>(bz ⟨5,(pk e s).p,0,(pk e s).s,0,0⟩ (left.app b) s').bind fun x s'=>rec (.loop d least x) s'
def dY (f:Tok) (d:Nat) (s:St):Rs Fo:=
 (must e [40] s).bind fun _ s=>
 (if isT e [41] s then Rs.ok .nil s else rec (.args d) s).bind fun a s=>
 (must e [41] s).bind fun _ s=>bz ⟨7,f.p,0,f.s,0,0⟩ a s
def dI (f:Tok) (d:Nat) (s:St):Rs Fo:=
 (must e [91] s).bind fun _ s=>(rec (.bin d 1) s).bind fun a s=>(must e [93] s).bind fun _ s=>bz ⟨3,f.p,0,f.s,0,0⟩ a s
def mK (d:Nat) (s:St):Rs Fo:=
 (gF e s).bind fun t s=>
 if q (pk e s)=[40] then dY e rec t (d+1) s else if q (pk e s)=[91] then dI e rec t (d+1) s else bz ⟨2,t.p,0,t.s,0,0⟩ .nil s
def lC (d:Nat) (s:St):Rs Fo:=(rec (.bin (d+1) 1) s).bind fun a s=>(must e [41] s).bind fun _ s=>.ok a s
def gB (d:Nat) (s:St):Rs Fo:=
 match eH (q (pk e s.nx)) with
 |some k=>if k=0 then lC e rec d s.nx else (must e [41] s.nx.nx).bind fun _ s'=>(rec (.opd (d+1)) s').bind fun a s'=>bz ⟨6,(pk e s).p,0,[],k,0⟩ a s'
 |none=>lC e rec d s.nx
def wX (s:St):Rs Fo:=bz ⟨1,(pk e s).p,(pk e s).n,[],0,if (pk e s).s=[76] then 2 else 1⟩ .nil s.nx
def unB (d:Nat) (s:St):Rs Fo:=(rec (.opd (d+1)) s.nx).bind fun a s'=>bz ⟨4,(pk e s).p,0,(pk e s).s,0,0⟩ a s'
def inB (s:St):Rs Fo:=
 (must e wIn s).bind fun _ s'=>(must e [40] s').bind fun _ s'=>(must e [41] s').bind fun _ s'=>bz ⟨8,(pk e s).p,0,[],0,0⟩ .nil s'
def lZ (d:Nat) (s:St):Rs Fo:=
 (fM e d s).bind fun _ s=>
 if (pk e s).k=2 then wX e s
 else if jX (pk e s) then mK e rec d s
 else if q (pk e s)=[45]∨q (pk e s)=[126]∨q (pk e s)=[33] then unB e rec d s
 else if q (pk e s)=[40] then gB e rec d s
 else if q (pk e s)=wIn then inB e s
 else wr e 2 s
def kT (d:Nat) (s:St):Rs Fo:=
 (rec (.bin d 1) s).bind fun a s=>if isT e [44] s then (rec (.args d) s.nx).bind fun b s=>.ok (a.app b) s else .ok a s
def qw (d:Nat) (s:St):Rs Fo:=
 if isT e [125] s then .ok .nil s.nx else (rec (.stm (d+1)) s).bind fun a s=>(rec (.blk d) s).bind fun b s=>.ok (a.app b) s
def bu (d:Nat) (s:St):Rs Fo:=
 (must e [123] s).bind fun _ s'=>(rec (.blk d) s').bind fun a s'=>bz ⟨11,(pk e s).p,0,[],0,0⟩ a s'
def bH (d:Nat) (s:St):Rs Fo:=
 (gz e [1,2] s).bind fun k s'=>(gF e s').bind fun t s'=>(must e [61] s').bind fun _ s'=>
 (rec (.bin (d+1) 1) s').bind fun a s'=>(must e [59] s').bind fun _ s'=>bz ⟨12,(pk e s).p,0,t.s,k,0⟩ a s'
def cO (d:Nat) (s:St):Rs Fo:=
 (must e [40] s).bind fun _ s=>(rec (.bin (d+1) 1) s).bind fun a s=>(must e [41] s).bind fun _ s=>
 (rec (.stm (d+1)) s).bind fun b s=>.ok (a.app b) s
def ifB (d:Nat) (s:St):Rs Fo:=
 (cO e rec d s.nx).bind fun a s'=>
 if isT e jG s' then (rec (.stm (d+1)) s'.nx).bind fun b s'=>bz ⟨15,(pk e s).p,0,[],0,0⟩ (a.app b) s'
 else bz ⟨15,(pk e s).p,0,[],0,0⟩ a s'
def fI (d:Nat) (s:St):Rs Fo:=(cO e rec d s.nx).bind fun a s'=>bz ⟨16,(pk e s).p,0,[],0,0⟩ a s'
def iB (d:Nat) (s:St):Rs Fo:=(gF e s.nx).bind fun t s'=>(must e [59] s').bind fun _ s'=>bz ⟨17,(pk e s).p,0,t.s,0,0⟩ .nil s'
def iR (d:Nat) (s:St):Rs Fo:=
 (if isT e [59] s.nx then Rs.ok .nil s.nx else rec (.bin (d+1) 1) s.nx).bind fun a s'=>(must e [59] s').bind fun _ s'=>bz ⟨19,(pk e s).p,0,[],0,0⟩ a s'
def jr (d:Nat) (s:St):Rs Fo:=
 (must e [40] s.nx).bind fun _ s'=>(rec (.bin (d+1) 1) s').bind fun a s'=>(must e [41] s').bind fun _ s'=>(must e [59] s').bind fun _ s'=>bz ⟨20,(pk e s).p,0,[],0,0⟩ a s'
def cu (d:Nat) (s:St):Rs Fo:=
 (must e [91] s).bind fun _ s=>(rec (.bin (d+1) 1) s).bind fun a s=>(must e [93] s).bind fun _ s=>(must e [61] s).bind fun _ s=>
 (rec (.bin (d+1) 1) s).bind fun b s=>(must e [59] s).bind fun _ s=>.ok (a.app b) s
def bV (d:Nat) (s:St):Rs Fo:=
 (gF e s).bind fun t s=>
 if q (pk e s)=[61] then (rec (.bin (d+1) 1) s.nx).bind fun a s=>(must e [59] s).bind fun _ s=>bz ⟨13,t.p,0,t.s,0,0⟩ a s
 else if q (pk e s)=[91] then (cu e rec d s).bind fun a s=>bz ⟨14,t.p,0,t.s,0,0⟩ a s
 else if q (pk e s)=[40] then (dY e rec t (d+1) s).bind fun a s=>(must e [59] s).bind fun _ s=>bz ⟨21,t.p,0,[],0,0⟩ a s
 else if q (pk e s)=[58] then (rec (.stm (d+1)) s.nx).bind fun a s=>bz ⟨18,t.p,0,t.s,0,0⟩ a s
 else wr e 2 s
def jm (d:Nat) (s:St):Rs Fo:=
 (fM e d s).bind fun _ s=>
 if jX (pk e s) then bV e rec d s
 else if q (pk e s)=[123] then bu e rec d s
 else if q (pk e s)=lQ then bH e rec d s
 else if q (pk e s)=iO then bH e rec d s
 else if q (pk e s)=wIf then ifB e rec d s
 else if q (pk e s)=gP then fI e rec d s
 else if q (pk e s)=jF then iB e d s
 else if q (pk e s)=dS then iR e rec d s
 else if q (pk e s)=mU then jr e rec d s
 else wr e 2 s
def run:Nat->Md->St->Rs Fo
 |0,_,_=>.out
 |k+1,m,s=>
  match m with
  | .bin d least=>vR (run k) d least s
  | .loop d least left=>l6 e (run k) d least left s
  | .opd d=>lZ e (run k) d s
  | .args d=>kT e (run k) d s
  | .stm d=>jm e (run k) d s
  | .blk d=>qw e (run k) d s
end
structure Gl where
 s:List UInt8
 ty:Int
 n:Int
 p:Int
 deriving DecidableEq
structure Pm where
 s:List UInt8
 ty:Int
 deriving DecidableEq
structure Fn' where
 s:List UInt8
 ty:Int
 ps:List Pm
 b:Nat
 p:Int
 deriving DecidableEq
structure Pg where
 g:List Gl
 f:List Fn'
 t:Fo
 deriving DecidableEq
section
variable (e:Tok)
def lG (s:St):Rs Int:=
 if (pk e s).k≠2 then wr e 2 s else if (pk e s).n<1∨1024< (pk e s).n then wr e 11 s else .ok (pk e s).n s.nx
def dW (kind:Int) (t:Tok) (s:St):Rs Gl:=
 if kind=3∨isT e [91] s then (must e [91] s).bind fun _ s=>(lG e s).bind fun n s=>(must e [93] s).bind fun _ s=>(must e [59] s).bind fun _ s=>.ok ⟨t.s,kind,n,t.p⟩ s
 else (must e [59] s).bind fun _ s=>.ok ⟨t.s,kind,0,t.p⟩ s
def iI (s:St):Rs Pm:=(gz e [1,2] s).bind fun k s=>(gF e s).bind fun t s=>.ok ⟨t.s,k⟩ s
def iW:Nat->List Pm->St->Rs (List Pm)
 |0,_,_=>.out
 |k+1,l,s=>if isT e [44] s then (iI e s.nx).bind fun p s=>iW k (l ++ [p]) s else .ok l s
def iw (k:Nat) (s:St):Rs (List Pm):=(iI e s).bind fun p s=>iW e k [p] s
def bE (k:Nat) (kind:Int) (t:Tok) (s:St):Rs (Fn'×Fo):=
 (must e [40] s).bind fun _ s=>(if isT e [41] s then Rs.ok [] s else iw e k s).bind fun ps s=>
 (must e [41] s).bind fun _ s=>(bu e (run e k) 1 s).bind fun b s=>.ok (⟨t.s,kind,ps,s.c - 1,t.p⟩,b) s
def jM (k:Nat) (p:Pg) (s:St):Rs Pg:=
 (gz e [0,1,2,3] s).bind fun kind s=>(gF e s).bind fun t s=>
 if kind=0∨(kind≠3/\isT e [40] s) then (bE e k kind t s).bind fun x s=>.ok ⟨p.g,p.f ++ [x.1],p.t.app x.2⟩ s
 else (dW e kind t s).bind fun g s=>.ok ⟨p.g ++ [g],p.f,p.t⟩ s
def gD:Nat->Pg->St->Rs Pg
 |0,_,_=>.out
 |k+1,p,s=>if (pk e s).k=4 then .ok p s else (jM e k p s).bind fun p s=>gD k p s
end
def lJ (l:List Tok):List Tok:=l.takeWhile fun t=>decide (t.k≠4)
def lL (l:List Tok):Tok:=(l.find? fun t=>decide (t.k=4)).getD ⟨4,(l.getLast?.map (·.p)).getD 0,0,[]⟩
def oC (l:List Tok):Nat:=4 * l.length+8
def eO (l:List Tok):Rs Pg:=gD (lL l) (oC l) ⟨[],[],.nil⟩ ⟨lJ l,0⟩
end
section
def Rs.Sat {α:Type} (O:Prop) (E:Int->Int->Prop) (P:α->St->Prop):Rs α->Prop
 | .ok a s=>P a s
 | .er n p=>E n p
 | .out=>O
theorem Rs.Sat.bind {α β:Type}{O:Prop}{E:Int->Int->Prop}{P:α->St->Prop}{Q:β->St->Prop}{r:Rs α}{f:α->St->Rs β}
  (h:r.Sat O E P) (hf:∀a s,P a s->(f a s).Sat O E Q):(r.bind f).Sat O E Q:=by
 cases r with
 |ok a s=>exact hf a s h
 |er n p=>exact h
 |out=>exact h
theorem Rs.Sat.mono {α:Type}{O:Prop}{E:Int->Int->Prop}{P Q:α->St->Prop}{r:Rs α}(h:r.Sat O E P)(hf:∀a s,P a s->Q a s):r.Sat O E Q:=by
 cases r with
 |ok a s=>exact hf a s h
 |er n p=>exact h
 |out=>exact h
def Ends {α:Type} (n:Nat) (s:St) (r:Rs α):Prop:=r.Sat False (fun _ _=>True) (fun _ s'=>s'.l.length+n<=s.l.length)
theorem Ends.bind {α β:Type}{n m:Nat}{s:St}{r:Rs α}{f:α->St->Rs β}(h:Ends n s r)(hf:∀a s',s'.l.length+n<=s.l.length->Ends m s' (f a s')):Ends (n+m) s (r.bind f):=
 Rs.Sat.bind h fun a s' hs=>(hf a s' hs).mono fun b s2 h2=>by omega
theorem Ends.le {α:Type}{n m:Nat}{s:St}{r:Rs α}(h:Ends n s r)(hm:m<=n):Ends m s r:=h.mono fun a s' h'=>by omega
theorem Ends.of {α:Type}{n:Nat}{s s0:St}{r:Rs α}(h:Ends n s r)(m:Nat)(hm:s.l.length+m<=s0.l.length+n):Ends m s0 r:=h.mono fun a s' h'=>by omega
theorem Ends.ok {α:Type}(a:α)(s:St):Ends 0 s (Rs.ok a s):=Nat.le_refl _
theorem lY {e:Tok}(he:e.k=4):q e=[]:=by simp [q,he]
theorem yH {e:Tok}(he:e.k=4):jX e=false:=by simp [jX,he]
theorem uQ {e:Tok}{s:St}(h:pk e s≠e∨s.l≠[]):s.nx.l.length+1<=s.l.length:=by
 cases hl:s.l with
 |nil=>simp [pk,hl] at h
 |cons t l=>simp [St.nx,hl]
section
variable {e:Tok} (he:e.k=4)
include he
theorem eG {s:St}(h:q (pk e s)≠[]):s.nx.l.length+1<=s.l.length:=uQ (e:=e) (.inl fun h'=>h (by rw [h'];exact lY he))
theorem aF {x:List UInt8}(hx:x≠[])(s:St):Ends 1 s (must e x s):=by
 unfold must;split
 ·rename_i h;exact eG he (by simp [isT] at h;rw [h];exact hx)
 ·trivial
theorem iJ (s:St):Ends 1 s (gF e s):=by
 unfold gF;split
 ·rename_i h;exact uQ (e:=e) (.inl fun h'=>by rw [h',yH he] at h;cases h)
 ·trivial
theorem kU (ks:List Int)(s:St):Ends 1 s (gz e ks s):=by
 unfold gz;split
 ·rename_i k h;split
  ·refine eG he fun h'=>?_
   rw [h'] at h;simp [eH,pK,lQ,iO,pM] at h
  ·trivial
 ·trivial
theorem bG (h:Hd)(k:Fo)(s:St):Ends 0 s (bz h k s):=by
 unfold bz;split
 ·trivial
 ·exact Nat.le_refl _
theorem rV (d:Nat)(s:St):Ends 0 s (fM e d s):=by
 unfold fM;split
 ·trivial
 ·exact Nat.le_refl _
def rank:Md->Nat
 | .bin .. =>2
 | .loop .. =>1
 | .opd _=>1
 | .args _=>3
 | .stm _=>1
 | .blk _=>2
def least:Md->Nat
 | .loop .. =>0
 |_=>1
def Mr:Md->Nat
 | .bin _ l=>l
 | .loop _ l _=>l
 |_=>1
variable {r:Md->St->Rs Fo} {n:Nat} (hr:∀m s,rank m+4 * s.l.length<=n->1<=Mr m->Ends (least m) s (r m s))
include hr
theorem Ch (d l:Nat)(hl:1<=l)(s:St)(h:2+4 * s.l.length<=n+1):Ends 1 s (vR r d l s):=
 (hr (.opd d) s (by simp only [rank];omega) (by first|exact Nat.le_refl 1|exact Nat.succ_pos _|exact hl)).bind (m:=0) fun a s1 h1=>(hr (.loop d l a) s1 (by simp only [rank,least] at *;omega) (by first|exact Nat.le_refl 1|exact Nat.succ_pos _|exact hl))
theorem yM (d l:Nat)(x:Fo)(hl:1<=l)(s:St)(h:1+4 * s.l.length<=n+1):Ends 0 s (l6 e r d l x s):=by
 unfold l6;split
 ·exact .ok _ _
 ·rename_i hlt;have hn:=eG he (s:=s) (fun h'=>hlt (by rw [h'];simp [lvl];omega))
  refine Ends.of (n:=1) (s:=s.nx) ?_ 0 (by omega)
  exact (hr (.bin d _) s.nx (by simp only [rank];omega) (by first|exact Nat.le_refl 1|exact Nat.succ_pos _|exact hl)).bind (m:=0) fun a s1 h1=>(bG he _ _ _).bind (m:=0) fun a s2 h2=>(hr (.loop d l a) s2 (by simp only [rank,least] at *;omega) (by first|exact Nat.le_refl 1|exact Nat.succ_pos _|exact hl))
theorem r9 (f:Tok)(d:Nat)(s:St)(h:4 * s.l.length<=n):Ends 2 s (dY e r f d s):=by
 refine (aF he (by simp) s).bind (m:=1) fun _ s1 h1=>?_
 refine Ends.bind (n:=0) (m:=1) ?_ fun a s2 h2=>(aF he (by simp) s2).bind (m:=0) fun _ s3 h3=>bG he _ _ _
 split
 ·exact .ok _ _
 ·exact (hr (.args d) s1 (by simp only [rank];omega) (by first|exact Nat.le_refl 1|exact Nat.succ_pos _|exact hl)).le (by simp [least])
theorem yX (f:Tok)(d:Nat)(s:St)(h:4 * s.l.length<=n):Ends 1 s (dI e r f d s):=
 Ends.le ((aF he (by simp) s).bind (m:=2) fun _ s1 h1=>(hr (.bin d 1) s1 (by simp only [rank];omega) (by first|exact Nat.le_refl 1|exact Nat.succ_pos _|exact hl)).bind (m:=1) fun a s2 h2=>(aF he (by simp) s2).bind (m:=0) fun _ s3 h3=>bG he _ _ _) (by omega)
theorem AQ (d:Nat)(s:St)(h:4 * s.l.length<=n+4):Ends 1 s (mK e r d s):=by
 refine (iJ he s).bind (m:=0) fun t s1 h1=>?_
 split
 ·exact (r9 he hr _ _ _ (by omega)).le (by omega)
 ·split
  ·exact (yX he hr _ _ _ (by omega)).le (by omega)
  ·exact bG he _ _ _
theorem BS (d:Nat)(s:St)(h:4 * s.l.length+2<=n):Ends 2 s (lC e r d s):=
 (hr (.bin (d+1) 1) s (by simp only [rank];omega) (by first|exact Nat.le_refl 1|exact Nat.succ_pos _|exact hl)).bind (m:=1) fun a s2 h2=>(aF he (by simp) s2).bind (m:=0) fun _ s3 h3=>.ok _ _
theorem BU (d:Nat)(s:St)(h:1+4 * s.l.length<=n+1)(hq:s.nx.l.length+1<=s.l.length):Ends 1 s (gB e r d s):=by
 unfold gB;have hE:Ends 1 s (lC e r d s.nx):=(BS he hr d s.nx (by omega)).of 1 (by omega)
 split
 ·split
  ·exact hE
  ·rename_i k hk hk0;refine Ends.of (n:=2) (s:=s.nx.nx) ?_ 1 (by simp [St.nx] at *;omega)
   have h3:s.nx.nx.l.length<=s.nx.l.length:=by simp [St.nx]
   exact (aF he (by simp) _).bind (m:=1) fun _ s1 h1=>(hr (.opd (d+1)) s1 (by simp only [rank];omega) (by first|exact Nat.le_refl 1|exact Nat.succ_pos _|exact hl)).bind (m:=0) fun a s2 h2=>bG he _ _ _
 ·exact hE
theorem Br (d:Nat)(s:St)(h:1+4 * s.l.length<=n+1):Ends 1 s (lZ e r d s):=by
 refine Ends.le ((rV he d s).bind (m:=1) fun _ s1 h1=>?_) (by omega)
 split
 ·rename_i h2;have hn:=uQ (e:=e) (s:=s1) (.inl fun h'=>by rw [h',he] at h2;cases h2)
  exact (bG he _ _ _).of 1 (by omega)
 ·split
  ·exact AQ he hr d s1 (by omega)
  ·split
   ·rename_i hq;have hn:=eG he (s:=s1) (fun h'=>by rw [h'] at hq;simp at hq)
    exact ((hr (.opd (d+1)) s1.nx (by simp only [rank];omega) (by first|exact Nat.le_refl 1|exact Nat.succ_pos _|exact hl)).bind (m:=0) fun a s2 h2=>bG he _ _ _).of 1 (by simp only [least];omega)
   ·split
    ·rename_i hq;have hn:=eG he (s:=s1) (fun h'=>by rw [h'] at hq;simp at hq)
     exact BU he hr d s1 (by omega) hn
    ·split
     ·exact Ends.le ((aF he (by simp [wIn]) s1).bind (m:=2) fun _ s2 h2=>(aF he (by simp) s2).bind (m:=1) fun _ s3 h3=>(aF he (by simp) s3).bind (m:=0) fun _ s4 h4=>bG he _ _ _) (by omega)
     ·trivial
theorem zq (d:Nat)(s:St)(h:3+4 * s.l.length<=n+1):Ends 1 s (kT e r d s):=by
 refine (hr (.bin d 1) s (by simp only [rank];omega) (by first|exact Nat.le_refl 1|exact Nat.succ_pos _|exact hl)).bind (m:=0) fun a s1 h1=>?_
 simp only [least] at h1;split
 ·rename_i hq;have hn:=eG he (s:=s1) (fun h'=>by simp [isT,h'] at hq)
  exact ((hr (.args d) s1.nx (by simp only [rank];omega) (by first|exact Nat.le_refl 1|exact Nat.succ_pos _|exact hl)).bind (m:=0) fun a s2 h2=>.ok _ _).of 0 (by simp only [least];omega)
 ·exact .ok _ _
theorem Cg (d:Nat)(s:St)(h:2+4 * s.l.length<=n+1):Ends 1 s (qw e r d s):=by
 unfold qw;split
 ·rename_i hq;have hn:=eG he (s:=s) (fun h'=>by simp [isT,h'] at hq)
  exact hn
 ·exact Ends.le ((hr (.stm (d+1)) s (by simp only [rank];omega) (by first|exact Nat.le_refl 1|exact Nat.succ_pos _|exact hl)).bind (m:=1) fun a s1 h1=>(hr (.blk d) s1 (by simp only [rank,least] at *;omega) (by first|exact Nat.le_refl 1|exact Nat.succ_pos _|exact hl)).bind (m:=0) fun b s2 h2=>.ok _ _) (by simp only [least];omega)
theorem mD (d:Nat)(s:St)(h:4 * s.l.length<=n+2):Ends 1 s (bu e r d s):=
 Ends.le ((aF he (by simp) s).bind (m:=1) fun _ s1 h1=>(hr (.blk d) s1 (by simp only [rank];omega) (by first|exact Nat.le_refl 1|exact Nat.succ_pos _|exact hl)).bind (m:=0) fun a s2 h2=>bG he _ _ _) (by omega)
theorem pU (d:Nat)(s:St)(h:4 * s.l.length<=n):Ends 1 s (bH e r d s):=
 Ends.le ((kU he _ s).bind (m:=4) fun _ s1 h1=>(iJ he s1).bind (m:=3) fun _ s2 h2=>(aF he (by simp) s2).bind (m:=2) fun _ s3 h3=>(hr (.bin (d+1) 1) s3 (by simp only [rank];omega) (by first|exact Nat.le_refl 1|exact Nat.succ_pos _|exact hl)).bind (m:=1) fun a s4 h4=>(aF he (by simp) s4).bind (m:=0) fun _ s5 h5=>bG he _ _ _) (by omega)
theorem mg (d:Nat)(s:St)(h:4 * s.l.length<=n):Ends 1 s (cO e r d s):=
 Ends.le ((aF he (by simp) s).bind (m:=3) fun _ s1 h1=>(hr (.bin (d+1) 1) s1 (by simp only [rank];omega) (by first|exact Nat.le_refl 1|exact Nat.succ_pos _|exact hl)).bind (m:=2) fun a s2 h2=>(aF he (by simp) s2).bind (m:=1) fun _ s3 h3=>(hr (.stm (d+1)) s3 (by simp only [rank,least] at *;omega) (by first|exact Nat.le_refl 1|exact Nat.succ_pos _|exact hl)).bind (m:=0) fun b s4 h4=>.ok _ _) (by omega)
theorem wD (d:Nat)(s:St)(h:4 * s.l.length<=n):Ends 1 s (cu e r d s):=
 Ends.le ((aF he (by simp) s).bind (m:=5) fun _ s1 h1=>(hr (.bin (d+1) 1) s1 (by simp only [rank];omega) (by first|exact Nat.le_refl 1|exact Nat.succ_pos _|exact hl)).bind (m:=4) fun a s2 h2=>(aF he (by simp) s2).bind (m:=3) fun _ s3 h3=>(aF he (by simp) s3).bind (m:=2) fun _ s4 h4=>(hr (.bin (d+1) 1) s4 (by simp only [rank,least] at *;omega) (by first|exact Nat.le_refl 1|exact Nat.succ_pos _|exact hl)).bind (m:=1) fun b s5 h5=>(aF he (by simp) s5).bind (m:=0) fun _ s6 h6=>.ok _ _) (by omega)
theorem wZ (d:Nat)(s:St)(h:4 * s.l.length<=n+4):Ends 1 s (bV e r d s):=by
 refine (iJ he s).bind (m:=0) fun t s1 h1=>?_
 have h3:s1.nx.l.length<=s1.l.length:=by simp [St.nx]
 split
 ·rename_i hq;have hn:=eG he (s:=s1) (fun h'=>by rw [h'] at hq;simp at hq)
  exact ((hr (.bin (d+1) 1) s1.nx (by simp only [rank];omega) (by first|exact Nat.le_refl 1|exact Nat.succ_pos _|exact hl)).bind (m:=1) fun a s2 h2=>(aF he (by simp) s2).bind (m:=0) fun _ s3 h3=>bG he _ _ _).of 0 (by simp only [least];omega)
 ·split
  ·exact Ends.le ((wD he hr d s1 (by omega)).bind (m:=0) fun a s2 h2=>bG he _ _ _) (by omega)
  ·split
   ·exact Ends.le ((r9 he hr t (d+1) s1 (by omega)).bind (m:=1) fun a s2 h2=>(aF he (by simp) s2).bind (m:=0) fun _ s3 h3=>bG he _ _ _) (by omega)
   ·split
    ·rename_i hq;have hn:=eG he (s:=s1) (fun h'=>by rw [h'] at hq;simp at hq)
     exact ((hr (.stm (d+1)) s1.nx (by simp only [rank];omega) (by first|exact Nat.le_refl 1|exact Nat.succ_pos _|exact hl)).bind (m:=0) fun a s2 h2=>bG he _ _ _).of 0 (by simp only [least];omega)
    ·trivial
theorem AZ (d:Nat)(s:St)(h:1+4 * s.l.length<=n+1):Ends 1 s (jm e r d s):=by
 refine Ends.le ((rV he d s).bind (m:=1) fun _ s1 h1=>?_) (by omega)
 have h3:s1.nx.l.length<=s1.l.length:=by simp [St.nx]
 split
 ·exact wZ he hr d s1 (by omega)
 split
 ·exact mD he hr d s1 (by omega)
 split
 ·exact pU he hr d s1 (by omega)
 split
 ·exact pU he hr d s1 (by omega)
 split
 ·rename_i hq;have hn:=eG he (s:=s1) (fun h'=>by rw [h'] at hq;simp [wIf] at hq)
  have h0:=mg he hr d s1.nx (by omega)
  refine Ends.of (n:=1) (s:=s1.nx) (h0.bind (m:=0) fun a s2 h2=>?_) 1 (by omega)
  split
  ·have h3:s2.nx.l.length<=s2.l.length:=by simp [St.nx]
   exact ((hr (.stm (d+1)) s2.nx (by simp only [rank];omega) (by first|exact Nat.le_refl 1|exact Nat.succ_pos _|exact hl)).bind (m:=0) fun a s2 h2=>bG he _ _ _).of 0 (by omega)
  ·exact bG he _ _ _
 split
 ·rename_i hq;have hn:=eG he (s:=s1) (fun h'=>by rw [h'] at hq;simp [gP] at hq)
  exact ((mg he hr d s1.nx (by omega)).bind (m:=0) fun a s2 h2=>bG he _ _ _).of 1 (by omega)
 split
 ·rename_i hq;have hn:=eG he (s:=s1) (fun h'=>by rw [h'] at hq;simp [jF] at hq)
  exact ((iJ he s1.nx).bind (m:=1) fun t s2 h2=>(aF he (by simp) s2).bind (m:=0) fun _ s3 h3=>bG he _ _ _).of 1 (by omega)
 split
 ·rename_i hq;have hn:=eG he (s:=s1) (fun h'=>by rw [h'] at hq;simp [dS] at hq)
  refine Ends.of (n:=1) (s:=s1.nx) (Ends.bind (n:=0) (m:=1) ?_ fun a s2 h2=>(aF he (by simp) s2).bind (m:=0) fun _ s3 h3=>bG he _ _ _) 1 (by omega)
  split
  ·exact .ok _ _
  ·exact (hr (.bin (d+1) 1) s1.nx (by simp only [rank];omega) (by first|exact Nat.le_refl 1|exact Nat.succ_pos _|exact hl)).le (by omega)
 split
 ·rename_i hq;have hn:=eG he (s:=s1) (fun h'=>by rw [h'] at hq;simp [mU] at hq)
  exact ((aF he (by simp) s1.nx).bind (m:=3) fun _ s2 h2=>(hr (.bin (d+1) 1) s2 (by simp only [rank];omega) (by first|exact Nat.le_refl 1|exact Nat.succ_pos _|exact hl)).bind (m:=2) fun a s3 h3=>(aF he (by simp) s3).bind (m:=1) fun _ s4 h4=>(aF he (by simp) s4).bind (m:=0) fun _ s5 h5=>bG he _ _ _).of 1 (by omega)
 ·trivial
end
section
variable {e:Tok} (he:e.k=4)
include he
theorem wM:∀n m s,rank m+4 * s.l.length<=n->1<=Mr m->Ends (least m) s (run e n m s):=by
 intro n
 induction n with
 |zero=>intro m s h _;cases m <;> simp [rank] at h
 |succ n ih=>
  intro m s h hl;cases m with
  |bin d l=>exact Ch he ih d l hl s h
  |loop d l x=>exact yM he ih d l x hl s h
  |opd d=>exact Br he ih d s h
  |args d=>exact zq he ih d s h
  |stm d=>exact AZ he ih d s h
  |blk d=>exact Cg he ih d s h
theorem jJ (s:St):Ends 1 s (iI e s):=
 Ends.le ((kU he _ s).bind (m:=1) fun _ s1 h1=>(iJ he s1).bind (m:=0) fun _ s2 h2=>.ok _ _) (by omega)
theorem Bv:∀n l s,s.l.length+1<=n->Ends 0 s (iW e n l s):=by
 intro n
 induction n with
 |zero=>intro l s h;omega
 |succ n ih=>
  intro l s h;unfold iW;split
  ·rename_i hq;have hn:=eG he (s:=s) (fun h'=>by simp [isT,h'] at hq)
   exact ((jJ he s.nx).bind (m:=0) fun p s1 h1=>ih _ _ (by omega)).of 0 (by omega)
  ·exact .ok _ _
theorem A9 (s:St):Ends 1 s (lG e s):=by
 unfold lG;split
 ·trivial
 ·rename_i h2;have hn:=uQ (e:=e) (s:=s) (.inl fun h'=>by rw [h',he] at h2;simp at h2)
  split
  ·trivial
  ·exact hn
theorem qb (k:Int)(t:Tok)(s:St):Ends 1 s (dW e k t s):=by
 unfold dW;split
 ·exact Ends.le ((aF he (by simp) s).bind (m:=3) fun _ s1 h1=>(A9 he s1).bind (m:=2) fun _ s2 h2=>(aF he (by simp) s2).bind (m:=1) fun _ s3 h3=>(aF he (by simp) s3).bind (m:=0) fun _ s4 h4=>.ok _ _) (by omega)
 ·exact (aF he (by simp) s).bind (m:=0) fun _ s1 h1=>.ok _ _
theorem sH (n:Nat)(k:Int)(t:Tok)(s:St)(h:4 * s.l.length+8<=n):Ends 1 s (bE e n k t s):=by
 refine Ends.le ((aF he (by simp) s).bind (m:=2) fun _ s1 h1=>Ends.bind (n:=0) (m:=2) ?_ fun ps s2 h2=>(aF he (by simp) s2).bind (m:=1) fun _ s3 h3=>
  (mD he (wM he n) 1 s3 (by omega)).bind (m:=0) fun b s4 h4=>.ok _ _) (by omega)
 split
 ·exact .ok _ _
 ·exact Ends.le ((jJ he s1).bind (m:=0) fun p s2 h2=>Bv he n _ _ (by omega)) (by omega)
theorem jC (n:Nat)(p:Pg)(s:St)(h:4 * s.l.length+4<=n):Ends 1 s (jM e n p s):=by
 refine Ends.le ((kU he _ s).bind (m:=2) fun k s1 h1=>(iJ he s1).bind (m:=1) fun t s2 h2=>?_) (by omega)
 split
 ·exact (sH he n k t s2 (by omega)).bind (m:=0) fun x s3 h3=>.ok _ _
 ·exact (qb he k t s2).bind (m:=0) fun x s3 h3=>.ok _ _
theorem tu:∀n p s,4 * s.l.length+5<=n->Ends 0 s (gD e n p s):=by
 intro n
 induction n with
 |zero=>intro p s h;omega
 |succ n ih=>
  intro p s h;unfold gD;split
  ·exact .ok _ _
  ·exact Ends.le ((jC he n p s (by omega)).bind (m:=0) fun p' s1 h1=>ih _ _ (by omega)) (by omega)
end
theorem ED (l:List Tok):(lL l).k=4:=by
 unfold lL;cases h:l.find? fun t=>decide (t.k=4) with
 |none=>rfl
 |some t=>simpa using List.find?_some h
theorem mY (l:List Tok):eO l≠.out:=by
 have hl:(lJ l).length<=l.length:=(List.takeWhile_sublist _).length_le;have h:=tu (ED l) (oC l) ⟨[],[],.nil⟩ ⟨lJ l,0⟩ (by simp only [oC];omega)
 intro h';rw [show gD (lL l) (oC l) ⟨[],[],.nil⟩ ⟨lJ l,0⟩=.out from h'] at h
 exact h
end
section
inductive It where
 |e (d lv:Nat)
 |s (d:Nat) (cl:Bool)
 |c (d:Nat)
section
variable (V:Tok->Prop)
def Nm (x:List UInt8):Prop:=∃t,V t/\jX t=true/\t.s=x
def okE (d lv:Nat) (h:Hd):Prop:=
 (h.op=1/\d<=40/\(∃t,V t/\t.k=2/\t.n=h.n/\h.ty=if t.s=[76] then 2 else 1)/\h.s=[]/\h.to=0)∨
 (h.op=2/\d<=40/\Nm V h.s/\h.n=0/\h.to=0/\h.ty=0)∨
 (h.op=3/\d<=40/\Nm V h.s/\h.n=0/\h.to=0/\h.ty=0)∨
 (h.op=4/\d<=40/\(h.s=[45]∨h.s=[126]∨h.s=[33])/\h.n=0/\h.to=0/\h.ty=0)∨
 (h.op=5/\(lvl h.s<lv->d<=40)/\1<=lvl h.s/\h.n=0/\h.to=0/\h.ty=0)∨
 (h.op=6/\d<=40/\h.s=[]/\h.n=0/\(h.to=1∨h.to=2∨h.to=3)/\h.ty=0)∨
 (h.op=7/\d<=40/\Nm V h.s/\h.n=0/\h.to=0/\h.ty=0)∨
 (h.op=8/\d<=40/\h.s=[]/\h.n=0/\h.to=0/\h.ty=0)
def kE (d lv:Nat) (h:Hd):List It×Option It:=
 if h.op=3 then ([.e (d+1) 1],none)
 else if h.op=4 then ([.e (d+1) 11],none)
 else if h.op=5 then (if lvl h.s<lv then [.e (d+1) (lvl h.s),.e (d+1) (lvl h.s+1)] else [.e d (lvl h.s),.e d (lvl h.s+1)],none)
 else if h.op=6 then ([.e (d+1) 11],none)
 else if h.op=7 then ([],some (.e (d+1) 1))
 else ([],none)
def okS (d:Nat) (cl:Bool) (h:Hd) (n:Nat):Prop:=
 d<=40/\h.n=0/\h.ty=0/\(
 (h.op=11/\h.s=[]/\h.to=0)∨
 (h.op=12/\Nm V h.s/\(h.to=1∨h.to=2))∨
 (h.op=13/\Nm V h.s/\h.to=0)∨
 (h.op=14/\Nm V h.s/\h.to=0)∨
 (h.op=15/\h.s=[]/\h.to=0/\(n=3∨n=2/\cl=false))∨
 (h.op=16/\h.s=[]/\h.to=0)∨
 (h.op=17/\Nm V h.s/\h.to=0)∨
 (h.op=18/\Nm V h.s/\h.to=0)∨
 (h.op=19/\h.s=[]/\h.to=0/\n<=1)∨
 (h.op=20/\h.s=[]/\h.to=0)∨
 (h.op=21/\h.s=[]/\h.to=0))
def kS (d:Nat) (cl:Bool) (h:Hd) (n:Nat):List It×Option It:=
 if h.op=11 then ([],some (.s (d+1) false))
 else if h.op=12 then ([.e (d+1) 1],none)
 else if h.op=13 then ([.e (d+1) 1],none)
 else if h.op=14 then ([.e (d+1) 1,.e (d+1) 1],none)
 else if h.op=15 then (if n=3 then [.e (d+1) 1,.s (d+1) true,.s (d+1) cl] else [.e (d+1) 1,.s (d+1) false],none)
 else if h.op=16 then ([.e (d+1) 1,.s (d+1) cl],none)
 else if h.op=18 then ([.s (d+1) cl],none)
 else if h.op=19 then (if n=0 then [] else [.e (d+1) 1],none)
 else if h.op=20 then ([.e (d+1) 1],none)
 else if h.op=21 then ([.c d],none)
 else ([],none)
def okI:It->Hd->Nat->Prop
 | .e d lv,h,_=>okE V d lv h
 | .s d cl,h,n=>okS V d cl h n
 | .c d,h,_=>h.op=7/\Nm V h.s/\h.n=0/\h.to=0/\h.ty=0
def kI:It->Hd->Nat->List It×Option It
 | .e d lv,h,_=>kE d lv h
 | .s d cl,h,n=>kS d cl h n
 | .c d,_,_=>([],some (.e (d+1) 1))
def Gr:List It->Option It->Fo->Prop
 |p,_,.nil=>p=[]
 |it ::p,st,.cons h k r=>okI V it h k.len/\Gr (kI it h k.len).1 (kI it h k.len).2 k/\Gr p st r
 | [],some it,.cons h k r=>okI V it h k.len/\Gr (kI it h k.len).1 (kI it h k.len).2 k/\Gr [] (some it) r
 | [],none,.cons _ _ _=>False
variable {V}
theorem Gr.app {x:Fo}:∀{p p':List It} {st:Option It} {y:Fo},Gr V p none x->Gr V p' st y->Gr V (p ++ p') st (x.app y):=by
 induction x with
 |nil=>intro p p' st y h1 h2;cases p with
  |nil=>simpa [Fo.app] using h2
  |cons a b=>simp [Gr] at h1
 |cons h k r _ ih=>
  intro p p' st y h1 h2;cases p with
  |nil=>simp [Gr] at h1
  |cons it p=>
   simp only [Gr] at h1;simp only [Fo.app,List.cons_append,Gr];exact ⟨h1.1,h1.2.1,ih h1.2.2 h2⟩
theorem Gr.one {it:It}{h:Hd}{k:Fo}(h1:okI V it h k.len)(h2:Gr V (kI it h k.len).1 (kI it h k.len).2 k):Gr V [it] none (Fo.one h k):=⟨h1,h2,rfl⟩
theorem Gr.CF {it:It}{x y:Fo}(h1:Gr V [it] none x)(h2:Gr V [] (some it) y):Gr V [] (some it) (x.app y):=by
 cases x with
 |nil=>simp [Gr] at h1
 |cons h k r=>
  simp only [Gr] at h1;cases r with
  |nil=>simp only [Fo.app,Gr];exact ⟨h1.1,h1.2.1,h2⟩
  |cons _ _ _=>simp [Gr] at h1
theorem Gr.un {it:It}{x:Fo}(h1:Gr V [it] none x):∃h k,x=Fo.one h k/\okI V it h k.len/\Gr V (kI it h k.len).1 (kI it h k.len).2 k:=by
 cases x with
 |nil=>simp [Gr] at h1
 |cons h k r=>
  simp only [Gr] at h1;cases r with
  |nil=>exact ⟨h,k,rfl,h1.1,h1.2.1⟩
  |cons _ _ _=>simp [Gr] at h1
theorem Gr.len {x:Fo}:∀{p:List It},Gr V p none x->x.len=p.length:=by
 induction x with
 |nil=>intro p h;simp [Gr] at h;simp [h,Fo.len]
 |cons h k r _ ih=>
  intro p h1;cases p with
  |nil=>simp [Gr] at h1
  |cons it p=>simp only [Gr] at h1;simp only [Fo.len,List.length_cons,ih h1.2.2]
theorem yL (x:List UInt8):lvl x<=10:=by
 unfold lvl
 repeat (split;omega)
 omega
theorem Gr.mono {x:Fo}:∀{d d' lv lv':Nat},d'<=d->lv'<=lv->Gr V [.e d lv] none x->Gr V [.e d' lv'] none x:=by
 have key:∀x:Fo,(∀{d d' lv lv':Nat},d'<=d->lv'<=lv->Gr V [.e d lv] none x->Gr V [.e d' lv'] none x)/\
   (∀{d d' lv lv' l2 l2':Nat},d'<=d->lv'<=lv->l2'<=l2->Gr V [.e d lv,.e d l2] none x->Gr V [.e d' lv',.e d' l2'] none x)/\
   (∀{d d' lv lv':Nat},d'<=d->lv'<=lv->Gr V [] (some (.e d lv)) x->Gr V [] (some (.e d' lv')) x):=by
  intro x
  induction x with
  |nil=>exact ⟨fun _ _ h=>by simp [Gr] at h,fun _ _ _ h=>by simp [Gr] at h,fun _ _ _=>rfl⟩
  |cons h k r ihk ihr=>
   have hd:∀{d d' lv lv':Nat},d'<=d->lv'<=lv->okE V d lv h->okE V d' lv' h:=by
    intro d d' lv lv' hd hl ho;unfold okE at ho |-;have t:d<=40->d'<=40:=by omega
    rcases ho with ⟨a,b,c⟩|⟨a,b,c⟩|⟨a,b,c⟩|⟨a,b,c⟩|⟨a,b,c⟩|⟨a,b,c⟩|⟨a,b,c⟩|⟨a,b,c⟩
    ·exact .inl ⟨a,t b,c⟩
    ·exact .inr (.inl ⟨a,t b,c⟩)
    ·exact .inr (.inr (.inl ⟨a,t b,c⟩))
    ·exact .inr (.inr (.inr (.inl ⟨a,t b,c⟩)))
    ·exact .inr (.inr (.inr (.inr (.inl ⟨a,fun h'=>t (b (by omega)),c⟩))))
    ·exact .inr (.inr (.inr (.inr (.inr (.inl ⟨a,t b,c⟩)))))
    ·exact .inr (.inr (.inr (.inr (.inr (.inr (.inl ⟨a,t b,c⟩))))))
    ·exact .inr (.inr (.inr (.inr (.inr (.inr (.inr ⟨a,t b,c⟩))))))
   have kd:∀{d d' lv lv':Nat},d'<=d->lv'<=lv->Gr V (kE d lv h).1 (kE d lv h).2 k->Gr V (kE d' lv' h).1 (kE d' lv' h).2 k:=by
    intro d d' lv lv' hd hl hk;unfold kE at hk |-;split
    ·rw [if_pos (by assumption)] at hk;exact ihk.1 (by omega) (Nat.le_refl _) hk
    rw [if_neg (by assumption)] at hk
    split
    ·rw [if_pos (by assumption)] at hk;exact ihk.1 (by omega) (Nat.le_refl _) hk
    rw [if_neg (by assumption)] at hk
    split
    ·rw [if_pos (by assumption)] at hk
     by_cases h1:lvl h.s<lv
     ·simp only [h1,if_true] at hk;split
      ·exact ihk.2.1 (by omega) (Nat.le_refl _) (Nat.le_refl _) hk
      ·exact ihk.2.1 (by omega) (Nat.le_refl _) (Nat.le_refl _) hk
     ·simp only [h1,if_false] at hk;rw [if_neg (by omega)]
      exact ihk.2.1 hd (Nat.le_refl _) (Nat.le_refl _) hk
    rw [if_neg (by assumption)] at hk
    split
    ·rw [if_pos (by assumption)] at hk;exact ihk.1 (by omega) (Nat.le_refl _) hk
    rw [if_neg (by assumption)] at hk
    split
    ·rw [if_pos (by assumption)] at hk;exact ihk.2.2 (by omega) (Nat.le_refl _) hk
    ·rw [if_neg (by assumption)] at hk;exact hk
   refine ⟨fun a b h1=>?_,fun a b c h1=>?_,fun a b h1=>?_⟩
   ·simp only [Gr,okI,kI] at h1 |-;exact ⟨hd a b h1.1,kd a b h1.2.1,h1.2.2⟩
   ·simp only [Gr,okI,kI] at h1 |-;exact ⟨hd a b h1.1,kd a b h1.2.1,by simpa [Gr,okI,kI] using ihr.1 a c (by simpa [Gr,okI,kI] using h1.2.2)⟩
   ·simp only [Gr,okI,kI] at h1 |-;exact ⟨hd a b h1.1,kd a b h1.2.1,ihr.2.2 a b h1.2.2⟩
 exact fun {d d' lv lv'} a b c=>(key x).1 a b c
theorem Gr.paren {x:Fo}{d lv:Nat}(hd:d<=40)(h:Gr V [.e (d+1) 1] none x):Gr V [.e d lv] none x:=by
 cases x with
 |nil=>simp [Gr] at h
 |cons hh k r=>
  by_cases hop:hh.op=5
  ·simp only [Gr,okI,kI,okE,kE,hop] at h |-;simp at h |-;obtain ⟨⟨h1,h2,h3⟩,h4,h5⟩:=h;have:¬ lvl hh.s<1:=by omega
   rw [if_neg (by omega)] at h4
   refine ⟨⟨fun _=>hd,h2,h3⟩,?_,h5⟩
   split
   ·exact h4
   ·have:=Gr.mono (V:=V) (x:=.cons hh k .nil) (d:=d+1) (d':=d) (lv:=1) (lv':=1) (by omega) (Nat.le_refl _) (by simp [Gr,okI,kI,okE,kE,hop];exact ⟨⟨by omega,h2,h3⟩,by rw [if_neg (by omega)];exact h4⟩)
    simp only [Gr,okI,kI,kE,hop] at this;simp at this;have h6:=this.2;rw [if_neg (by omega)] at h6
    exact h6
  ·have h1:=Gr.mono (d':=d) (lv':=1) (by omega) (Nat.le_refl _) h
   simp only [Gr,okI,kI,okE,kE,hop] at h1 |-
   simpa using h1
end
end
end Go.Proofs.YtcchdlnfeijinaaGreatDoor
