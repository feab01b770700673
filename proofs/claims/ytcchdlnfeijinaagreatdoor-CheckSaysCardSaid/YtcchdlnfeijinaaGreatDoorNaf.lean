/- Para to Ckh: Layer parse in memory: the reader and its nodes. -/
import Derived.Test.YtcchdlnfeijinaaGreatDoorNac
import Derived.Test.YtcchdlnfeijinaaGreatDoorNae
import Derived.Deep.RegionWith
import Derived.Deep.DeepCutAuto
import Derived.Deep.RegionLaw
import Derived.Deep.AppendLies
namespace Go.Proofs.YtcchdlnfeijinaaGreatDoor
open Go.Proofs.Tryz
set_option linter.unusedSimpArgs false
set_option linter.unusedVariables false
set_option maxHeartbeats 4000000
set_option maxRecDepth 100000
section
open Go.RowKit
abbrev tR:TypeId:=127
abbrev tN:TypeId:=75
abbrev tI:TypeId:=3
abbrev tF:TypeId:=93
structure Rdr where
 b:Nat
 A:Option Addr
 cap:Nat
 T:List Tok
 e:Tok
 base:Nat
 mb:Nat
 mo:Obj
structure NV where
 h:Hd
 kids:List Nat
 v:Value
def NV.nd (x:NV):Nd:=⟨x.h,x.kids⟩
def aH (x:NV):List Value:=[Iv x.h.op,Iv x.h.p,Iv x.h.n,Ss x.h.s,Iv x.h.to,x.v,Iv x.h.ty,Iv 0]
def lF (l:List NV):List Value:=l.flatMap aH
theorem xI (l:List NV)(x:NV):lF (l ++ [x])=lF l ++ aH x:=by simp [lF]
def bU (l:List Nat):List Value:=l.map fun k=>Iv (k:Nat)
def fZ (X:Rdr) (pos:Nat) (v:Value):Array Value:=
 #[.slice X.A X.T.length X.cap,Iv X.e.k,Iv X.e.p,Iv X.e.n,Ss X.e.s,Iv pos,v,.map (some X.mb)]
def rd (X:Rdr):Value:=Pt X.b
structure At (X:Rdr) (w:World) (s:St) (ns:List NV) (v:Value):Prop where
 blk:Blk w X.b tR (fZ X (X.T.length - s.l.length) v)
 suf:s.l <:+ X.T
 len:X.T.length<=2000000
 toks:RdT w X.base X.A X.T
 txt:∀t∈X.T,t.s.length<=140737488355328
 fin:X.e.k=4
 cnt:s.c=ns.length
 max:s.c<=4000
 rows:w.ownsRow X.base tN 8 v ns.length (lF ns)
 kids:∀x∈ns,w.ownsRow X.base tI 1 x.v x.kids.length (bU x.kids)
 hb:X.base<=X.b
 env:ku w
 szE:gY<X.base
 mph:w.heap[X.mb]? =some X.mo
 mpc:X.mo.isCells=false
theorem aJ {w w':World}{base size n:Nat}{t:TypeId}{v:Value}{xs:List Value}(h:w.ownsRow base t size v n xs)(hk:∀g,v.ownBlock=some g->w'.heap[g]? =w.heap[g]?):w'.ownsRow base t size v n xs:=by
 refine ⟨h.1,h.2.imp id ?_⟩;rintro ⟨g,cap,cur,rfl,h1,h2,h3⟩;exact ⟨g,cap,cur,rfl,h1,(hk g rfl).trans h2,h3⟩
theorem At.below {X:Rdr}{w w':World}{s:St}{ns:List NV}{v:Value}(h:At X w s ns v)(hb:Zw w w'):At X w' s ns v where
 blk:=(hb.block _ h.blk.lt).trans h.blk
 suf:=h.suf
 len:=h.len
 toks:=h.toks.keep fun g o hg=>hb.cell (p:=Ad g o) (zT hg (Nat.le_trans h.hb (Nat.le_of_lt h.blk.lt)))
 txt:=h.txt
 fin:=h.fin
 cnt:=h.cnt
 max:=h.max
 rows:=aJ h.rows fun g hg=>hb.block _ (h.rows.lt _ hg).2
 kids:=fun x hx=>aJ (h.kids x hx) fun g hg=>hb.block _ ((h.kids x hx).lt _ hg).2
 hb:=h.hb
 env:=h.env.below hb (zL _)
 szE:=h.szE
 mph:=(hb.block _ (Array.getElem?_eq_some_iff.1 h.mph).1).trans h.mph
 mpc:=h.mpc
structure Kp (X:Rdr) (w:World) (v:Value) (w':World) (v':Value):Prop where
 os:w'.os=w.os
 tape:w'.tape=w.tape
 output:w'.output=w.output
 size:w.heap.size<=w'.heap.size
 block:∀i,i<w.heap.size->i≠X.b->some i≠v.ownBlock->w'.heap[i]? =w.heap[i]?
 own:v'.ownBlock=v.ownBlock∨∃g,v'.ownBlock=some g/\w.heap.size<=g
theorem Kp.of {X:Rdr}{w w':World}{v:Value}(h:Zw w w'):Kp X w v w' v:=⟨h.os,h.tape,h.output,h.size,fun i hi _ _=>h.block i hi,.inl rfl⟩
theorem Kp.refl (X:Rdr)(w:World)(v:Value):Kp X w v w v:=.of (zB _ _)
theorem Kp.trans {X:Rdr}{a b c:World}{u v x:Value}(h:Kp X a u b v)(k:Kp X b v c x):Kp X a u c x where
 os:=k.os.trans h.os
 tape:=k.tape.trans h.tape
 output:=k.output.trans h.output
 size:=Nat.le_trans h.size k.size
 block:=fun i hi hb hv=>(k.block i (zT hi h.size) hb (by
  rcases h.own with e|⟨g,e,hg⟩
  ·rw [e];exact hv
  ·rw [e];intro e';cases e';omega)).trans (h.block i hi hb hv)
 own:=by
  rcases k.own with e|⟨g,e,hg⟩
  ·rw [e];exact h.own.imp id fun ⟨g,e,hg⟩=>⟨g,e,hg⟩
  ·exact .inr ⟨g,e,Nat.le_trans h.size hg⟩
theorem Kp.below {X:Rdr}{w w':World}{v v':Value}{s:St}{ns:List NV}(h:Kp X w v w' v')(ha:At X w s ns v):Below X.base w w' where
 os:=h.os
 tape:=h.tape
 output:=h.output
 size:=h.size
 block:=fun i hi=>by
  have h1:=ha.hb;have h2:=ha.blk.lt;refine h.block i (by omega) (by omega) fun e=>?_
  have:=(ha.rows.lt i e.symm).1;omega
theorem At.pos {X:Rdr}{w:World}{s:St}{ns:List NV}{v:Value}(h:At X w s ns v):s.l=X.T.drop (X.T.length - s.l.length)/\s.l.length<=X.T.length:=by
 obtain ⟨p,hp⟩:=h.suf;have hl:p.length+s.l.length=X.T.length:=by rw [<-hp];simp
 refine ⟨?_,by omega⟩
 rw [show X.T.length - s.l.length=p.length by omega,<-hp]
 simp
theorem FO {fn:Func}{R:Ending->World->Prop}{a:Act}{w:World}{b:Nat}{p:Nat}{t:Tok}{T:TypeId}{fr:Nat×Nat}(hf:fn.results= #[.cell p tE])(hd:a.defers=[])
  (h2:a.tmps.getD p undef=Pt b) (hb:w.heap[b]? =some (.cells #[Iv t.k,Iv t.p,Iv t.n,Ss t.s] T fr))
  (hR:R (.returned (iF t)) w):bodyPost prog fn R .ret a w:=by
 exact bodyPost_ret (v:=iF t) (results_cell_row hf _ _ b T _ fr _ h2 hb underlying92 rfl zD) hd hR
theorem nZ {fn:Func}{R:Ending->World->Prop}{a:Act}{w:World}{b:Nat}{p:Nat}{t:Tok}{T:TypeId}{cs:Array Value}{fr:Nat×Nat}(hf:fn.results= #[.cell p tE])(hd:a.defers=[])
  (h2:a.tmps.getD p undef=Pt b) (hb:w.heap[b]? =some (.cells cs T fr)) (hn:cs.size=4)
  (hR:R (.returned (iF t)) (Bb w b t)):bodyPost prog fn R .ret a (Bb w b t):=
 FO hf hd h2 (um (t:=t) hb hn) hR
theorem kD {X:Rdr}{w:World}{s:St}{ns:List NV}{v:Value}(h:At X w s ns v) :
  Calls prog 79 #[rd X] w fun e w'=>e=.returned (iF (pk X.e s))/\Zw w w':=by
 obtain ⟨Lt,Qd⟩:=h.pos;have uM:=h.len;have eu:=h.blk.lt;have Je:=h.blk.cell;have Np:=h.toks;have DW:=h.hb;unfold rd;obtain ⟨pos,hpos⟩:=zN (X.T.length - s.l.length);rw [hpos] at Lt Je;obtain ⟨n,hn⟩:=zN X.T.length;have c0:=Je 0;have c1:=Je 1;have c2:=Je 2;have c3:=Je 3;have c4:=Je 4;have c5:=Je 5;simp only [fZ] at c0 c1 c2 c3 c4 c5;simp only [List.getElem?_toArray,List.getElem?_cons_zero,List.getElem?_cons_succ,hn] at c0 c1 c2 c3 c4 c5;by_cases hlt:pos<n
 ·obtain ⟨g,o,hA,hg,x0,x1,x2,x3⟩:=Np.at_ (by omega:pos<X.T.length)
  have kH:g<w.heap.size:=by omega
  have ht:pk X.e s=X.T[pos]:=by rw [pk,Lt,List.headD_eq_head?_getD,List.head?_drop,List.getElem?_eq_getElem (by omega)];rfl
  rw [ht];generalize X.T[pos]=t at *;rw [hA] at c0;clear Np Je hA Lt ht;go_enter func79,ntmps79;go_wp2;go_quiet (fail);go_wp2;go_region;go_wp2;refine nZ (t:=t) rfl rfl rfl (heap_alloc_new w _) rfl ⟨rfl,?_⟩;exact aM ((((Below.refl _ w).alloc (zL _) _).trans (below_drewN _ _ _))) (zL _)
 ·obtain rfl:pos=n:=by omega
  have ht:pk X.e s=X.e:=by rw [pk,Lt,List.drop_of_length_le (by omega)];rfl
  rw [ht];generalize X.e=t at *;clear Np Je Lt ht;go_enter func79,ntmps79;go_wp2;go_quiet (fail);go_wp2;refine nZ (t:=t) rfl rfl rfl (heap_alloc_new w _) rfl ⟨rfl,?_⟩;exact aM ((((Below.refl _ w).alloc (zL _) _).trans (below_drewN _ _ _))) (zL _)
theorem mX (t:Tok)(w:World) :
  Calls prog 117 #[iF t] w fun e w'=>e=.returned (.string (str (q t)))/\Zw w w':=by
 rw [aP];by_cases h3:t.k=3
 ·have d3:decide (t.k=3)=true:=by simpa using h3
  have hq:q t=t.s:=by simp [q,h3]
  rw [hq];go_enter func117,ntmps117;go_wp2;go_ret;exact ⟨rfl,(Below.refl _ w).alloc (zL _) _⟩
 ·have d3:decide (t.k=3)=false:=by simpa using h3
  by_cases h1:t.k=1
  ·have d1:decide (t.k=1)=true:=by simpa using h1
   cases hw:isW t.s
   ·have hq:q t=[]:=by simp [q,h3,hw]
    rw [hq];go_enter func117,ntmps117;go_wp2_with (go_at_call 147;refine (ni _ t.s (fw _) _).mono ?_;rw [hw];rintro e w1 ⟨rfl,rfl⟩);go_ret;exact ⟨rfl,(Below.refl _ w).alloc (zL _) _⟩
   ·have hq:q t=t.s:=by simp [q,h1,hw]
    rw [hq];go_enter func117,ntmps117;go_wp2_with (go_at_call 147;refine (ni _ t.s (fw _) _).mono ?_;rw [hw];rintro e w1 ⟨rfl,rfl⟩);go_ret;exact ⟨rfl,(Below.refl _ w).alloc (zL _) _⟩
  ·have d1:decide (t.k=1)=false:=by simpa using h1
   have hq:q t=[]:=by simp [q,h3,h1]
   rw [hq];go_enter func117,ntmps117;go_wp2;go_ret;exact ⟨rfl,(Below.refl _ w).alloc (zL _) _⟩
theorem rz (t:Tok)(w:World) :
  Calls prog 121 #[iF t] w fun e w'=>e=.returned (.bool (jX t))/\Zw w w':=by
 rw [aP];by_cases h1:t.k=1
 ·have d1:decide (t.k=1)=true:=by simpa using h1
  have hq:jX t= !isW t.s:=by simp [jX,h1]
  rw [hq];go_enter func121,ntmps121;go_wp2_with (go_at_call 147;refine (ni _ t.s (fw _) _).mono ?_;rintro e w1 ⟨rfl,rfl⟩);go_ret;exact ⟨rfl,(Below.refl _ w).alloc (zL _) _⟩
 ·have d1:decide (t.k=1)=false:=by simpa using h1
  have hq:jX t=false:=by simp [jX,h1]
  rw [hq];go_enter func121,ntmps121;go_wp2;go_ret;exact ⟨rfl,(Below.refl _ w).alloc (zL _) _⟩
theorem Ee {X:Rdr}{w:World}{s:St}{ns:List NV}{v:Value}(h:At X w s ns v)(zz:ByteArray)(l:List UInt8)(hz:zz.toList=l) :
  Calls prog 82 #[rd X,.string zz] w fun e w'=>e=.returned (.bool (isT X.e l s))/\Zw w w':=by
 go_enter func82,ntmps82;go_wp2_with fail;refine (kD h).mono ?_;rintro e w1 ⟨rfl,b1⟩;go_wp2_with fail;refine (mX _ w1).mono ?_;rintro e w2 ⟨rfl,b2⟩;go_wp2;go_ret;exact ⟨ik (by rw [Bool.eq_iff_iff];simp [isT]),b1.trans (b2.mono b1.size)⟩
theorem ku.same {w w':World}(h:ku w)(hk:w'.heap[gY]? =w.heap[gY]?)(hs:w.heap.size<=w'.heap.size):ku w':=
 ⟨by rw [<-h.ty];simp only [World.var?,nY,Option.bind_some,hk],Nat.lt_of_lt_of_le h.szY hs⟩
theorem At.Mq {X:Rdr}{w:World}{s:St}{ns:List NV}{v:Value}(h:At X w s ns v):X.mb≠X.b:=fun e=>by
 have h1:=h.mph;have h2:=h.blk;unfold Blk at h2;rw [e,h2] at h1;have h3:=h.mpc;rw [<-Option.some.inj h1] at h3;simp [Obj.isCells] at h3
theorem At.turn {X:Rdr}{w w':World}{s s':St}{ns:List NV}{v:Value}(h:At X w s ns v)(hk:∀g,g<w.heap.size->g≠X.b->w'.heap[g]? =w.heap[g]?)(sQ:w.heap.size<=w'.heap.size)
  (hb:Blk w' X.b tR (fZ X (X.T.length - s'.l.length) v)) (hs:s'.l <:+ X.T) (hc:s'.c=s.c):At X w' s' ns v where
 blk:=hb
 suf:=hs
 len:=h.len
 toks:=h.toks.keep fun g o hg=>by
  have h1:=h.hb;have h2:=h.blk.lt;exact World.cell?_of_block (a:=Ad g o) (hk g (by omega) (by omega))
 txt:=h.txt
 fin:=h.fin
 cnt:=hc.trans h.cnt
 max:=by rw [hc];exact h.max
 rows:=aJ h.rows fun g hg=>hk g (h.rows.lt g hg).2 fun e=>h.blk.not_row (by decide) h.rows (by rw [hg,e])
 kids:=fun x hx=>aJ (h.kids x hx) fun g hg=>hk g ((h.kids x hx).lt g hg).2 fun e=>h.blk.not_row (by decide) (h.kids x hx) (by rw [hg,e])
 hb:=h.hb
 env:=h.env.same (hk _ h.env.szY (by have:=h.hb;have:=h.szE;omega)) sQ
 szE:=h.szE
 mph:=(hk _ (Array.getElem?_eq_some_iff.1 h.mph).1 h.Mq).trans h.mph
 mpc:=h.mpc
theorem At.far {X:Rdr}{w w':World}{s:St}{ns:List NV}{v:Value}{i:Nat}{cs:Array Value}{t:TypeId}{fr:Nat×Nat}(h:At X w s ns v)(hi:w.heap[i]? =some (.cells cs t fr))(ht:t≠tR/\t≠tI)(mF:X.base<=i)
  (bB:some i≠v.ownBlock) (hk:∀g,g<w.heap.size->g≠i->w'.heap[g]? =w.heap[g]?) (sQ:w.heap.size<=w'.heap.size):At X w' s ns v where
 blk:=(hk _ h.blk.lt (fun e=>by
  have h1:=h.blk;unfold Blk at h1;rw [e,hi] at h1;cases h1;exact ht.1 rfl)).trans h.blk
 suf:=h.suf
 len:=h.len
 toks:=h.toks.keep fun g o hg=>by
  have h1:=h.hb;have h2:=h.blk.lt;exact World.cell?_of_block (a:=Ad g o) (hk g (by omega) (by omega))
 txt:=h.txt
 fin:=h.fin
 cnt:=h.cnt
 max:=h.max
 rows:=aJ h.rows fun g hg=>hk g (h.rows.lt g hg).2 fun e=>bB (by rw [hg,e])
 kids:=fun x hx=>aJ (h.kids x hx) fun g hg=>hk g ((h.kids x hx).lt g hg).2 fun e=>by
  rcases (h.kids x hx).2 with ⟨hv,_⟩|⟨g',cap,cur,hv,_,Kq,_⟩
  ·rw [hv] at hg;simp [Value.ownBlock] at hg
  ·rw [hv] at hg;simp [Value.ownBlock] at hg;rw [hg,e,hi] at Kq;cases Kq;exact ht.2 rfl
 hb:=h.hb
 env:=h.env.same (hk _ h.env.szY (by have:=h.hb;have:=h.szE;omega)) sQ
 szE:=h.szE
 mph:=(hk _ (Array.getElem?_eq_some_iff.1 h.mph).1 (fun e=>by
  have h1:=h.mph;rw [e,hi] at h1;have h3:=h.mpc;rw [<-Option.some.inj h1] at h3;simp [Obj.isCells] at h3)).trans h.mph
 mpc:=h.mpc
theorem At.af {X:Rdr}{w:World}{s:St}{ns:List NV}{v:Value}{i:Nat}{cs:Array Value}{t:TypeId}(h:At X w s ns v)(hi:Blk w i t cs)(ht:t≠tR/\t≠tI)(mF:X.base<=i)
  (bB:some i≠v.ownBlock) (o:Nat) (u:Value):At X (w.setCell (Ad i o) u) s ns v:=
 h.far hi ht mF bB (fun g _ hg=>Below.heap_setCell w _ _ g hg) (by simp)
theorem Kp.down {X:Rdr}{w w1 w2:World}{v v1:Value}(h:Kp X w v w1 v1)(hb:Below w.heap.size w1 w2):Kp X w v w2 v1:=
 ⟨hb.os.trans h.os,hb.tape.trans h.tape,hb.output.trans h.output,Nat.le_trans h.size hb.size,fun i hi h1 h2=>(hb.block i hi).trans (h.block i hi h1 h2),h.own⟩
theorem At.yB {X:Rdr}{w:World}{s:St}{ns:List NV}{v:Value}(h:At X w s ns v){i:Nat}(hi:w.heap.size<=i):some i≠v.ownBlock:=fun e=>by
 have:=(h.rows.lt i e.symm).2;omega
theorem JZ {s:St}{T:List Tok}(h:s.l <:+ T):s.nx.l <:+ T:=(List.tail_suffix s.l).trans h
theorem At.nx {X:Rdr}{w:World}{s:St}{ns:List NV}{v:Value}(h:At X w s ns v)(aD:s.l≠[]):At X (w.setCell (Ad X.b 5) (Iv ((X.T.length - s.l.length:Nat)+1:Int))) s.nx ns v:=by
 obtain ⟨Lt,Qd⟩:=h.pos;have uM:s.nx.l.length+1=s.l.length:=by
  cases hs:s.l with
  |nil=>exact absurd hs aD
  |cons t r=>simp [St.nx,hs]
 refine h.turn (fun g _ hg=>Below.heap_setCell w _ _ g hg) (by simp) ?_ (JZ h.suf) rfl
 have h1:=h.blk.af 5 (Iv ((X.T.length - s.l.length:Nat)+1:Int));have e:(fZ X (X.T.length - s.l.length) v).setIfInBounds 5 (Iv ((X.T.length - s.l.length:Nat)+1:Int))=fZ X (X.T.length - s.nx.l.length) v:=by
  have:((X.T.length - s.l.length:Nat)+1:Int)=((X.T.length - s.nx.l.length:Nat):Int):=by omega
  rw [this]
  rfl
 rw [e] at h1;exact h1
theorem Kv {X:Rdr}{w:World}{v:Value}(i:Nat)(u:Value):Kp X w v (w.setCell (Ad X.b i) u) v:=
 ⟨rfl,rfl,rfl,by simp,fun g _ hg _=>Below.heap_setCell w _ _ g hg,.inl rfl⟩
theorem oo {X:Rdr}{w:World}{s:St}{ns:List NV}{v:Value}(h:At X w s ns v)(aD:s.l≠[]) :
  Calls prog 120 #[rd X] w fun e w'=>e=.returned (iF (pk X.e s))/\At X w' s.nx ns v/\Kp X w v w' v:=by
 have uM:=h.len;have TD:Zw w (w.alloc (.cells #[Iv 0,Iv 0,Iv 0,.string ⟨#[]⟩] tE)):=(Below.refl _ w).alloc (zL _) _;have h0:=h.below TD;have hbl0:=h.blk.lt;have bB:∀i,w.heap.size<=i->some i≠v.ownBlock:=fun i hi=>h.yB hi
 have PW:(str (pk X.e s).s).size<=281474976710656:=by
  rw [lS];have:pk X.e s∈X.T:=h.suf.subset (by
   cases hs:s.l with
   |nil=>exact absurd hs aD
   |cons t r=>simp [pk,hs])
  have:=h.txt _ this;omega
 go_enter func120,ntmps120;go_wp2_with fail;refine (kD h0).mono ?_;rintro e w1 ⟨rfl,b1⟩;have h1:=h0.below b1;have eu:=h1.blk.lt;have c5:=h1.blk.cell 5;have f5:=h1.blk.frozen 5;simp only [fZ,List.getElem?_toArray,List.getElem?_cons_zero,List.getElem?_cons_succ] at c5;have h2:=h1.nx aD;have k2:Kp X w v (w1.setCell (Ad X.b 5) (Iv ((X.T.length - s.l.length:Nat)+1:Int))) v:=(Kp.of (TD.trans (b1.mono (by simp)))).trans (Kv 5 _)
 have hz:w1.heap[w.heap.size]? =some (.cells #[Iv 0,Iv 0,Iv 0,.string ⟨#[]⟩] tE):=(b1.block _ (by simp)).trans (heap_alloc_new w _)
 have hws:w.heap.size<w1.heap.size:=by have:=b1.size;simp at this;omega
 generalize hpos:X.T.length - s.l.length=pos at *;have hpos2:pos<=2000000:=by omega
 rw [aP];generalize WJ:pk X.e s=t at *;unfold rd;have H1:=Hy4 h1 h2 k2 hz;clear h1 h2 k2 hz h h0 b1 TD;go_wp2_with fail;have ru:((w1.setCell (Ad X.b 5) (Iv ((pos:Nat)+1:Int))).alloc (.cells #[Iv t.k,Iv t.p,Iv t.n,Ss t.s] tE)).heap[w.heap.size]? =some (.cells #[Iv 0,Iv 0,Iv 0,.string ⟨#[]⟩] tE):=
  (heap_alloc_old _ _ (h:=by simpa using hws)).trans ((Below.heap_setCell w1 (Ad X.b 5) _ w.heap.size (by simp;omega)).trans H1.2.2.2)
 have wW:=heap_alloc_new (w1.setCell (Ad X.b 5) (Iv ((pos:Nat)+1:Int))) (.cells #[Iv t.k,Iv t.p,Iv t.n,Ss t.s] tE);have hwz:w1.heap.size=(w1.setCell (Ad X.b 5) (Iv ((pos:Nat)+1:Int))).heap.size:=by simp
 have h3:=H1.2.1.below ((zB _ _).alloc (zL _) (.cells #[Iv t.k,Iv t.p,Iv t.n,Ss t.s] tE));have k3:=H1.2.2.1.trans (Kp.of ((zB _ _).alloc (zL _) (.cells #[Iv t.k,Iv t.p,Iv t.n,Ss t.s] tE)));rw [<-hwz] at wW;have sQ:((w1.setCell (Ad X.b 5) (Iv ((pos:Nat)+1:Int))).alloc (.cells #[Iv t.k,Iv t.p,Iv t.n,Ss t.s] tE)).heap.size=w1.heap.size+1:=by simp
 generalize (w1.setCell (Ad X.b 5) (Iv ((pos:Nat)+1:Int))).alloc (.cells #[Iv t.k,Iv t.p,Iv t.n,Ss t.s] tE)=W at *;refine (pF (str t.s) W PW).mono ?_;rintro e w2 ⟨rfl,b2⟩;dsimp only;have Ri:=(b2.block w.heap.size (by omega)).trans ru
 have Ue:=(b2.block w1.heap.size (by omega)).trans wW
 have h4:=h3.below b2;have k4:=k3.trans (Kp.of b2);have y3:=(Blk.cell (W:=w2) Ue 3);have y0:=(Blk.cell (W:=w2) Ue 0);have y1:=(Blk.cell (W:=w2) Ue 1);have y2:=(Blk.cell (W:=w2) Ue 2);have z3:=(Blk.frozen (W:=w2) Ue 3);simp only [List.getElem?_toArray,List.getElem?_cons_zero,List.getElem?_cons_succ] at y0 y1 y2 y3;have OE:w1.heap.size<w2.heap.size:=by have:=b2.size;omega
 have hp0:=(Blk.cell (W:=w2) Ri 0);have Lt:=(Blk.cell (W:=w2) Ri 1);have Qd:=(Blk.cell (W:=w2) Ri 2);have QT:=(Blk.cell (W:=w2) Ri 3);have hf0:=(Blk.frozen (W:=w2) Ri 0);have Q4:=(Blk.frozen (W:=w2) Ri 1);have ZF:=(Blk.frozen (W:=w2) Ri 2);have hf3:=(Blk.frozen (W:=w2) Ri 3);simp only [List.getElem?_toArray,List.getElem?_cons_zero,List.getElem?_cons_succ] at hp0 Lt Qd QT;have HH:=Hy4 h4 k4 Ri Ue;clear h4 k4 Ri Ue h3 k3 ru wW b2 sQ hwz c5 f5 H1;go_wp2_with fail;have hz5:(w2.setCell (Ad w1.heap.size 3) (Ss t.s)).heap[w.heap.size]? =some (.cells #[Iv 0,Iv 0,Iv 0,.string ⟨#[]⟩] tE):=
  (Below.heap_setCell w2 _ _ w.heap.size (by simp;omega)).trans HH.2.2.1
 have qK:X.base<=w.heap.size:=by have:=HH.1.hb;omega
 have h5:=HH.1.af HH.2.2.2 (by decide) (by omega) (bB _ (by omega)) 3 (Ss t.s)
 refine nZ (t:=t) rfl rfl rfl hz5 rfl ⟨by rw [WJ],?_,HH.2.1.down (aM ((zB _ _).setCell (p:=Ad w1.heap.size 3) (by simp;omega) _) (zL _))⟩
 exact (((h5.af hz5 (by decide) qK (bB _ (zL _)) 0 _).af (Blk.af hz5 0 _) (by decide) qK (bB _ (zL _)) 1 _).af (Blk.af (Blk.af hz5 0 _) 1 _) (by decide) qK (bB _ (zL _)) 2 _).af (Blk.af (Blk.af (Blk.af hz5 0 _) 1 _) 2 _) (by decide) qK (bB _ (zL _)) 3 _
def fQ (no p:Int):Value:=.agg #[Iv no,Iv p]
def Pan (no p:Int):Ending:=.panicked [{v:=.iface tF (fQ no p),recovered:=false}]
def R0 {α:Type} (X:Rdr) (w:World) (ns:List NV) (v:Value) (enc:α->Value) (R:Rs α) (e:Ending) (w':World):Prop:=
 match R with
 | .ok a s=>e=.returned (enc a)/\At X w' s ns v/\Kp X w v w' v
 | .er no p=>e=Pan no p/\Below X.base w w'
 | .out=>False
theorem At.eu {X:Rdr}{w:World}{s:St}{ns:List NV}{v:Value}(h:At X w s ns v):X.base<=w.heap.size:=by
 have h1:=h.hb;have h2:=h.blk.lt;omega
theorem At.down {X:Rdr}{w w':World}{s:St}{ns:List NV}{v:Value}(h:At X w s ns v)(hb:Zw w w'):Below X.base w w':=hb.mono h.eu
theorem bb {w w1 w2:World}(h:Zw w w1)(k:Zw w1 w2):Zw w w2:=h.trans (k.mono h.size)
theorem KV:(prog.info? tF).map (·.size)=some 2:=by kernel_rfl
theorem oH (t:Tok)(w:World):(Instr.field tE (.agg #[Iv t.k,Iv t.p,Iv t.n,Ss t.s]) 1).run prog w=.ok (Iv t.p) w:=by
 kernel_rfl
theorem Bh {fn:Func}{R:Ending->World->Prop}{a:Act}{w:World}{b:Nat}{p:Nat}{x y:Int}{T:TypeId}{fr:Nat×Nat}(hf:fn.results= #[.cell p tF])(hd:a.defers=[])
  (h2:a.tmps.getD p undef=Pt b) (hb:w.heap[b]? =some (.cells #[Iv x,Iv y] T fr))
  (hR:R (.returned (fQ x y)) w):bodyPost prog fn R .ret a w:=
 bodyPost_ret (v:=fQ x y) (results_cell_row hf _ _ b T _ fr _ h2 hb underlying93 rfl KV) hd hR
theorem jA {X:Rdr}{w:World}{s:St}{ns:List NV}{v:Value}(h:At X w s ns v)(no:Int) :
  Calls prog 119 #[rd X,Iv no] w fun e w'=>e=.returned (fQ no (pk X.e s).p)/\Zw w w':=by
 have TD:Zw w (w.alloc (.cells #[Iv 0,Iv 0] tF)):=(Below.refl _ w).alloc (zL _) _;have h0:=h.below TD;have vQ:=heap_alloc_new w (.cells #[Iv 0,Iv 0] tF);go_enter func119,ntmps119;go_wp2_with fail;refine (kD h0).mono ?_;rintro e w1 ⟨rfl,b1⟩;have uo:=fun t W=>oH t W
 have sI:=(b1.block w.heap.size (by simp)).trans vQ
 have c0:=(Blk.cell (W:=w1) sI 0);have c1:=(Blk.cell (W:=w1) sI 1);have f0:=(Blk.frozen (W:=w1) sI 0);have f1:=(Blk.frozen (W:=w1) sI 1);simp only [List.getElem?_toArray,List.getElem?_cons_zero,List.getElem?_cons_succ] at c0 c1;have HH:=Hy2 b1 sI;have hl:w.heap.size<w1.heap.size:=by have:=b1.size;simp at this;omega
 clear b1 sI vQ h0 h TD;rw [aP];generalize WJ:pk X.e s=t;go_wp2_with fail;have ru:((w1.setCell (Ad w.heap.size 0) (Iv no)).setCell (Ad w.heap.size 1) (Iv t.p)).heap[w.heap.size]? =some (.cells #[Iv no,Iv t.p] tF (0,0)):=
  Blk.af (Blk.af HH.2 0 (Iv no)) 1 (Iv t.p)
 refine Bh (x:=no) (y:=t.p) rfl rfl rfl ru ⟨by rw [WJ],?_⟩
 have:=((Below.refl _ w).alloc (zL _) (.cells #[Iv 0,Iv 0] tF)).trans (HH.1.mono (by simp))
 exact (this.setCell (p:=Ad w.heap.size 0) (zL _) _).setCell (p:=Ad w.heap.size 1) (zL _) _
def acc (e:Tok) (l:List UInt8) (s:St):St:=if isT e l s then s.nx else s
theorem nH {X:Rdr}{w:World}{s:St}{ns:List NV}{v:Value}(h:At X w s ns v)(zz:ByteArray)(l:List UInt8)(hz:zz.toList=l)(hl:l≠[]) :
  Calls prog 142 #[rd X,.string zz] w fun e w'=>e=.returned (.bool (isT X.e l s))/\At X w' (acc X.e l s) ns v/\Kp X w v w' v:=by
 go_enter func142,ntmps142;go_wp2_with fail;refine (Ee h zz l hz).mono ?_;rintro e w1 ⟨rfl,b1⟩;have h1:=h.below b1;have k1:=Kp.of (X:=X) (v:=v) b1;clear h b1;cases hq:isT X.e l s
 ·have ha:acc X.e l s=s:=by simp [acc,hq]
  rw [<-ha] at h1;have HH:=Hy2 h1 k1;clear h1 k1;go_wp2_with fail;go_ret;exact ⟨ik hq.symm,HH⟩
 ·have aD:s.l≠[]:=fun e=>by
   have hq2:=hq;simp only [isT,pk,e,List.headD_nil,lY h1.fin,decide_eq_true_eq] at hq2;exact hl hq2.symm
  go_wp2_with fail;refine (oo h1 aD).mono ?_;rintro e w2 ⟨rfl,h2,k2⟩;have ha:acc X.e l s=s.nx:=by simp [acc,hq]
  rw [<-ha] at h2;have HH:=Hy2 h2 (k1.trans k2);clear h1 k1 h2 k2;go_wp2_with fail;go_ret;exact ⟨ik hq.symm,HH⟩
theorem ae {fn:Func}{R:Ending->World->Prop}{a:Act}{w:World}{ch:List PanicEntry}(hd:a.defers=[])(hR:R (.panicked ch) w):bodyPost prog fn R (.panic ch) a w:=⟨hd,hR⟩
theorem BR {X:Rdr}{w:World}{s:St}{ns:List NV}{v:Value}(h:At X w s ns v)(d:Nat)(hd:d<=1000) :
  Calls prog 161 #[rd X,Iv d] w (R0 X w ns v (fun _=>.tuple #[]) (fM X.e d s)):=by
 by_cases h40:40<d
 ·have e:fM X.e d s=.er 3 (pk X.e s).p:=by simp [fM,h40,wr]
  rw [e];go_enter func161,ntmps161;go_wp2_with fail;refine (jA h 3).mono ?_;rintro e w1 ⟨rfl,b1⟩;have HH:=Hy (h.down b1);go_wp2_with fail;exact ae rfl ⟨rfl,HH⟩
 ·have e:fM X.e d s=.ok () s:=by simp [fM,h40]
  rw [e];go_enter func161,ntmps161;go_wp2_with fail;go_end0;exact ⟨rfl,h,Kp.refl _ _ _⟩
theorem qF {α:Type}(e:Tok)(no:Int)(s:St):(wr e no s:Rs α)=.er no (pk e s).p:=rfl
def jg (e:Tok):List (List UInt8)->St->Rs Unit
 | [],s=>.ok () s
 |x ::l,s=>(must e x s).bind fun _ s=>jg e l s
theorem nu {X:Rdr}{w:World}{s:St}{ns:List NV}{v:Value}(h:At X w s ns v)(L:List (List UInt8))(n c:Nat)(hn:L.length=n)(wW:n<=1000)(hL:∀x∈L,x≠[])(g:Nat)(cs:Array Value)
  (hg:Blk w g 9 cs) (hgv:some g≠v.ownBlock) (Ez:∀(j:Nat) (x:List UInt8),L[j]? =some x->cs[j]? =some (Ss x)) :
  Calls prog 122 #[rd X,Sl g n c] w (R0 X w ns v (fun _=>.tuple #[]) (jg X.e L s)):=by
 have Kq:g≠X.b:=fun e=>by
  have h1:=h.blk;unfold Blk at h1 hg;rw [<-e,hg] at h1;cases h1
 go_enter func122,ntmps122;go_wp2_with fail;go_loopw [8] (fun x wr=>∃(k:Nat) (s':St),k<=n/\x=Iv k/\At X wr s' ns v/\Kp X w v wr v/\jg X.e (L.drop k) s'=jg X.e L s) (fun x _=>n - (intOf x).toNat)
 case atStart=>exact ⟨0,s,by omega,rfl,h,Kp.refl _ _ _,rfl⟩
 case round=>
  obtain ⟨k,s',hk,rfl,hA,hK,hM⟩:=hrel;have QG:wr.heap[g]? =w.heap[g]?:=hK.block g hg.lt Kq hgv;by_cases hlt:k<n
  ·have hLk:L[k]? =some (L[k]'(by omega)):=zE _
   have Je:=(Blk.cell (W:=wr) (QG.trans hg) k).trans (Ez k _ hLk);have kH:g<wr.heap.size:=zT hg.lt hK.size;rw [List.drop_eq_getElem_cons (by omega)] at hM
   have hx:=hL _ (List.getElem_mem (by omega:k<L.length))
   generalize L[k]'(by omega)=x at *
   have HH:=Hy2 hK hM;clear hK hM QG hLk Ez hL hg;cases hq:isT X.e x s'
   ·have e:jg X.e L s=.er 2 (pk X.e s').p:=by rw [<-HH.2];simp [jg,must,hq,qF,Rs.bind]
    have HE:=Hy e;clear e;go_wp2_with fail;refine (nH hA (str x) x (fw x) hx).mono ?_;rw [hq];have ha:acc X.e x s'=s':=by simp [acc,hq]
    rw [ha];rintro e w1 ⟨rfl,h1,k1⟩;have SV:=Hy2 h1 k1;clear k1;go_wp2_with fail;refine (jA h1 2).mono ?_;rintro e w2 ⟨rfl,b2⟩;have HB:=Hy (((HH.1.trans SV.2).below h).trans (h1.down b2));go_wp2_with fail;refine ae rfl ?_;rw [HE.out];exact ⟨rfl,HB⟩
   ·have e:jg X.e (L.drop (k+1)) s'.nx=jg X.e L s:=by rw [<-HH.2];simp [jg,must,hq,Rs.bind]
    have HE:=Hy e;clear e;go_wp2_with fail;refine (nH hA (str x) x (fw x) hx).mono ?_;rw [hq];have ha:acc X.e x s'=s'.nx:=by simp [acc,hq]
    rw [ha];rintro e w1 ⟨rfl,h1,k1⟩;have SV:=Hy2 h1 (HH.1.trans k1);clear k1 h1 hA h;go_wp2_with fail;go_roundw
    case rel=>exact ⟨k+1,s'.nx,by omega,by go_num,SV.1,SV.2,HE⟩
    case measure=>simp [intOf];omega
  ·obtain rfl:k=n:=by omega
   have e:jg X.e L s=.ok () s':=by rw [<-hM,List.drop_of_length_le (by omega)];rfl
   have HE:=Hy e;have HH:=Hy2 hA hK;clear e hM hA hK h;go_wp2_with fail;go_end0;rw [HE.out];exact ⟨rfl,HH⟩
theorem DN {X:Rdr}{w:World}{s:St}{ns:List NV}{v:Value}(h:At X w s ns v) :
  Calls prog 81 #[rd X] w (R0 X w ns v iF (gF X.e s)):=by
 have TD:Zw w (w.alloc (.cells #[Iv 0,Iv 0,Iv 0,.string ⟨#[]⟩] tE)):=(Below.refl _ w).alloc (zL _) _;have h0:=h.below TD;have vQ:=heap_alloc_new w (.cells #[Iv 0,Iv 0,Iv 0,.string ⟨#[]⟩] tE);go_enter func81,ntmps81;go_wp2_with fail;refine (kD h0).mono ?_;rintro e w1 ⟨rfl,b1⟩;go_wp2_with fail;refine (rz (pk X.e s) w1).mono ?_;rintro e w2 ⟨rfl,b2⟩;have Vi:Zw w w2:=TD.trans (((b1.trans (b2.mono b1.size)).mono (by simp)))
 have h2:=h.below Vi;have ru:w2.heap[w.heap.size]? =some (.cells #[Iv 0,Iv 0,Iv 0,.string ⟨#[]⟩] tE):=((b1.trans (b2.mono b1.size)).block _ (by simp)).trans vQ
 cases hq:jX (pk X.e s)
 ·have e:gF X.e s=.er 2 (pk X.e s).p:=by simp [gF,hq,wr]
  have HE:=Hy e;clear e h0 vQ b1 b2 TD;go_wp2_with fail;refine (jA h2 2).mono ?_;rintro e w3 ⟨rfl,b3⟩;have HB:=Hy ((h.down Vi).trans (h2.down b3));go_wp2_with fail;refine ae rfl ?_;rw [HE.out];exact ⟨rfl,HB⟩
 ·have e:gF X.e s=.ok (pk X.e s) s.nx:=by simp [gF,hq]
  have HE:=Hy e;have aD:s.l≠[]:=fun e=>by
   have hq2:=hq;simp only [pk,e,List.headD_nil,yH h2.fin] at hq2;cases hq2
  have eu:=h.blk.lt;have bB:some w.heap.size≠v.ownBlock:=h.yB (zL _);have mF:=h.eu;clear e h0 vQ b1 b2 TD;go_wp2_with fail;refine (oo h2 aD).mono ?_;rintro e w3 ⟨rfl,h3,k3⟩;have hws2:w.heap.size<w2.heap.size:=(Array.getElem?_eq_some_iff.1 ru).1;have PQ:=(k3.block w.heap.size hws2 (by omega) bB).trans ru
  have c0:=(Blk.cell (W:=w3) PQ 0);have c1:=(Blk.cell (W:=w3) PQ 1);have c2:=(Blk.cell (W:=w3) PQ 2);have c3:=(Blk.cell (W:=w3) PQ 3);have f0:=(Blk.frozen (W:=w3) PQ 0);have f1:=(Blk.frozen (W:=w3) PQ 1);have f2:=(Blk.frozen (W:=w3) PQ 2);have f3:=(Blk.frozen (W:=w3) PQ 3);simp only [List.getElem?_toArray,List.getElem?_cons_zero,List.getElem?_cons_succ] at c0 c1 c2 c3;have hl3:w.heap.size<w3.heap.size:=(Array.getElem?_eq_some_iff.1 PQ).1;have HH:=Hy3 h3 ((Kp.of Vi).trans k3) PQ;clear h h2 h3 k3 PQ ru Vi;rw [aP];generalize WJ:pk X.e s=t;go_wp2_with fail;have PQ:=HH.2.2;refine nZ (t:=t) rfl rfl rfl PQ rfl ?_;rw [HE.out,WJ];refine ⟨rfl,?_,HH.2.1.down (aM (zB _ _) (zL _))⟩;exact (((HH.1.af PQ (by decide) mF bB 0 _).af (Blk.af PQ 0 _) (by decide) mF bB 1 _).af (Blk.af (Blk.af PQ 0 _) 1 _) (by decide) mF bB 2 _).af (Blk.af (Blk.af (Blk.af PQ 0 _) 1 _) 2 _) (by decide) mF bB 3 _
end
section
open Go.RowKit
theorem BJ (L:List Int)(n c:Nat)(hn:L.length=n)(wW:n<=1000)(g:Nat)(cs:Array Value)(w:World)(hg:Blk w g tI cs)(Ez:∀(j:Nat) (x:Int),L[j]? =some x->cs[j]? =some (Iv x))(x:Int) :
  Calls prog 148 #[Sl g n c,Iv x] w fun e w'=>(∃r:Int,e=.returned (Iv r)/\decide (0<=r)=decide (x∈L))/\w'=w:=by
 have kH:=hg.lt;go_enter func148,ntmps148;go_wp2_with fail;go_loopw [8] (fun v wr=>∃k:Nat,k<=n/\v=Iv k/\wr=w/\∀j,(hj:j<L.length)->j<k->L[j]≠x) (fun v _=>n - (intOf v).toNat)
 case atStart=>exact ⟨0,by omega,rfl,rfl,fun j _ h=>by omega⟩
 case round=>
  obtain ⟨k,hk,rfl,rfl,hl⟩:=hrel;by_cases hlt:k<n
  ·have hLk:L[k]? =some (L[k]'(by omega)):=zE _
   have Je:=(hg.cell k).trans (Ez k _ hLk);have hin:L[k]'(by omega)=x->decide (x∈L)=true:=fun e=>by rw [<-e];simp
   have hno:L[k]'(by omega)≠x->∀j,(hj:j<L.length)->j<k+1->L[j]≠x:=fun hp j hj hjk=>by
    rcases (by omega:j<k∨j=k) with h|rfl
    ·exact hl j hj h
    ·exact hp
   generalize L[k]'(by omega)=y at *
   have HI:=Hy hin;have HN:=Hy hno;clear hin hno hLk Ez hl;by_cases hp:y=x
   ·subst hp;have e:=HI rfl;have HE:=Hy e;clear e;go_wp2_with fail;go_ret;exact ⟨⟨_,rfl,by have hm:=HE.out;simp only [decide_eq_true_eq] at hm;simp [hm]⟩,rfl⟩
   ·have e:=HN hp;have hp':¬ x=y:=Ne.symm hp;have HE:=Hy e;clear e;go_wp2_with fail;go_roundw
    case rel=>exact ⟨k+1,by omega,by go_num,trivial,HE⟩
    case measure=>simp [intOf];omega
  ·obtain rfl:k=n:=by omega
   have e:decide (x∈L)=false:=by
    simp only [decide_eq_false_iff_not];intro hx;obtain ⟨j,hj,e⟩:=List.getElem_of_mem hx;exact hl j hj (by omega) e
   have HE:=Hy e;clear e hl;go_wp2_with fail;go_ret;exact ⟨⟨_,rfl,by have hm:=HE.out;simp only [decide_eq_false_iff_not] at hm;simp [hm]⟩,rfl⟩
theorem oM (L:List Int)(n c:Nat)(hn:L.length=n)(wW:n<=1000)(g:Nat)(cs:Array Value)(w:World)(hg:Blk w g tI cs)(Ez:∀(j:Nat) (x:Int),L[j]? =some x->cs[j]? =some (Iv x))(x:Int) :
  Calls prog 118 #[Sl g n c,Iv x] w fun e w'=>e=.returned (.bool (decide (x∈L)))/\w'=w:=by
 go_enter func118,ntmps118;go_wp2_with fail;refine (BJ L n c hn wW g cs w hg Ez x).mono ?_;rintro e w1 ⟨⟨r,rfl,hr⟩,rfl⟩;have HR:=Hy hr;clear hr;go_wp2_with fail;go_ret;exact ⟨ik HR,rfl⟩
theorem sO {X:Rdr}{w:World}{s:St}{ns:List NV}{v:Value}(h:At X w s ns v)(L:List Int)(n c:Nat)(hn:L.length=n)(wW:n<=1000)(g:Nat)(cs:Array Value)
  (hg:Blk w g tI cs) (Ez:∀(j:Nat) (x:Int),L[j]? =some x->cs[j]? =some (Iv x)) :
  Calls prog 80 #[rd X,Sl g n c] w (R0 X w ns v (fun k=>Iv k) (gz X.e L s)):=by
 go_enter func80,ntmps80;go_wp2_with fail;refine (kD h).mono ?_;rintro e w1 ⟨rfl,b1⟩;go_wp2_with fail;refine (mX _ w1).mono ?_;rintro e w2 ⟨rfl,b2⟩;have Vi:=bb b1 b2;have h2:=h.below Vi;go_wp2_with fail;refine (mM _ (q (pk X.e s)) (fw _) w2 h2.env).mono ?_;rintro e w3 ⟨rfl,rfl⟩;have Cm:Blk w2 g tI cs:=(Vi.block g hg.lt).trans hg;have hb02:=h.down Vi;have k02:=Kp.of (X:=X) (v:=v) Vi;clear b1 b2 Vi h;have hM:gz X.e L s=if (eH (q (pk X.e s))).isSome=true/\(eH (q (pk X.e s))).getD 0∈L then .ok ((eH (q (pk X.e s))).getD 0) s.nx else .er 2 (pk X.e s).p:=by
  unfold gz;cases eH (q (pk X.e s)) with
  |none=>simp [qF]
  |some k=>simp [qF]
 have aD:(eH (q (pk X.e s))).isSome=true->s.l≠[]:=fun h1 e=>by
  simp only [pk,e,List.headD_nil,lY h2.fin] at h1;simp [eH,pK,lQ,iO,pM] at h1
 generalize hk:(eH (q (pk X.e s))).getD 0=k at *;cases hb:(eH (q (pk X.e s))).isSome
 ·rw [hb] at hM;simp only [Bool.false_eq_true,false_and,if_false] at hM;have HM:=Hy hM;clear hM aD;go_wp2_with fail;refine (jA h2 2).mono ?_;rintro e w3 ⟨rfl,b3⟩;have HB:=Hy (hb02.trans (h2.down b3));go_wp2_with fail;refine ae rfl ?_;rw [HM.out];exact ⟨rfl,HB⟩
 ·have QX:=aD hb;rw [hb] at hM;simp only [true_and] at hM;go_wp2_with fail;refine (oM L n c hn wW g cs w2 Cm Ez k).mono ?_;rintro e w3 ⟨rfl,rfl⟩;cases hd:decide (k∈L)
  ·rw [if_neg (by simpa using hd)] at hM
   have HM:=Hy hM;clear hM aD;go_wp2_with fail;refine (jA h2 2).mono ?_;rintro e w3 ⟨rfl,b3⟩;have HB:=Hy (hb02.trans (h2.down b3));go_wp2_with fail;refine ae rfl ?_;rw [HM.out];exact ⟨rfl,HB⟩
  ·rw [if_pos (by simpa using hd)] at hM
   have HM:=Hy hM;clear hM aD;go_wp2_with fail;refine (oo h2 QX).mono ?_;rintro e w3 ⟨rfl,h3,k3⟩;have HH:=Hy2 h3 (k02.trans k3);clear h2 h3 k3 k02;go_wp2_with fail;go_ret;rw [HM.out];exact ⟨rfl,HH⟩
def tK (x:NV):Value:=.agg (aH x).toArray
theorem ME:(prog.info? tN).map (fun i=>(i.zero,i.size,i.bytes))=some (some (.agg #[Iv 0,Iv 0,Iv 0,.string ⟨#[]⟩,Iv 0,Sn,Iv 0,Iv 0]),8,88):=by kernel_rfl
theorem At.push {X:Rdr}{w w1 w2:World}{s:St}{ns:List NV}{v v':Value}{x:NV}(h:At X w s ns v)(hb:Zw w w1)(hg:w1.grownBy w2 v.ownBlock)
  (hr:w2.ownsRow X.base tN 8 v' (ns.length+1) (lF ns ++ aH x)) (hx:w.ownsRow X.base tI 1 x.v x.kids.length (bU x.kids)) (hv:v'.ownBlock=v.ownBlock∨∃g,v'.ownBlock=some g/\w.heap.size<=g) (hs:s.c<4000) :
  At X (w2.setCell (Ad X.b 6) v') ⟨s.l,s.c+1⟩ (ns ++ [x]) v'/\Kp X w v (w2.setCell (Ad X.b 6) v') v':=by
 have sQ:w.heap.size<=w2.heap.size:=Nat.le_trans hb.size hg.size;have hk:∀i,i<w.heap.size->some i≠v.ownBlock->w2.heap[i]? =w.heap[i]?:=fun i hi aD=>(hg.block i (zT hi hb.size) aD).trans (hb.block i hi)
 have Oe:some X.b≠v.ownBlock:=h.blk.not_row (by decide) h.rows
 have ZO:Blk w2 X.b tR (fZ X (X.T.length - s.l.length) v):=(hk _ h.blk.lt Oe).trans h.blk;have PZ:∀g,g≠X.b->(w2.setCell (Ad X.b 6) v').heap[g]? =w2.heap[g]?:=fun g hg=>Below.heap_setCell w2 _ _ g hg
 have mF:=h.hb;have hblt:=h.blk.lt;have Py:some X.b≠v'.ownBlock:=ZO.not_row (by decide) hr
 have kid:∀y:NV,w.ownsRow X.base tI 1 y.v y.kids.length (bU y.kids)->(w2.setCell (Ad X.b 6) v').ownsRow X.base tI 1 y.v y.kids.length (bU y.kids):=fun y hy=>aJ hy fun g hg=>by
  have hlt:=(hy.lt g hg).2;have KQ:g≠X.b:=fun e=>h.blk.not_row (by decide) hy (by rw [hg,e])
  refine (PZ g KQ).trans (hk g hlt fun e=>?_)
  rcases hy.2 with ⟨hv,_⟩|⟨g',cap,cur,hv,_,Kq,_⟩
  ·rw [hv] at hg;simp [Value.ownBlock] at hg
  ·rw [hv] at hg;simp [Value.ownBlock] at hg;rcases h.rows.2 with ⟨CY,_⟩|⟨g2,Rb,cur2,CY,_,Us,_⟩
   ·rw [CY] at e;simp [Value.ownBlock] at e
   ·rw [CY] at e;simp [Value.ownBlock] at e;rw [hg,e,Us] at Kq;simp at Kq;exact absurd Kq.2 (by decide)
 refine ⟨{
  blk:=by
   have h1:=ZO.af 6 v';exact h1
  suf:=h.suf
  len:=h.len
  toks:=h.toks.keep fun g o hg=>World.cell?_of_block (a:=Ad g o) ((PZ g (by omega)).trans (hk g (by omega) fun e=>by have:=(h.rows.lt g e.symm).1;omega))
  txt:=h.txt
  fin:=h.fin
  cnt:=by simp [h.cnt]
  max:=by simp only;omega
  rows:=by
   rw [xI,List.length_append];exact aJ hr fun g hg=>PZ g fun e=>Py (by rw [hg,e])
  kids:=fun y hy=>by
   rcases List.mem_append.1 hy with hy|hy
   ·exact kid y (h.kids y hy)
   ·simp at hy;subst hy;exact kid y hx
  hb:=h.hb
  env:=h.env.same ((PZ _ (by have:=h.szE;omega)).trans (hk _ h.env.szY fun e=>by have:=(h.rows.lt _ e.symm).1;have:=h.szE;omega)) (by simpa using sQ)
  szE:=h.szE
  mph:=(PZ _ h.Mq).trans ((hk _ (Array.getElem?_eq_some_iff.1 h.mph).1 fun e=>by
   rcases h.rows.2 with ⟨CY,_⟩|⟨g2,Rb,cur2,CY,_,Us,_⟩
   ·rw [CY] at e;simp [Value.ownBlock] at e
   ·rw [CY] at e;simp [Value.ownBlock] at e;have h1:=h.mph;rw [e,Us] at h1;have h3:=h.mpc;rw [<-Option.some.inj h1] at h3;simp [Obj.isCells] at h3).trans h.mph)
  mpc:=h.mpc},?_⟩
 exact ⟨(hg.os.trans hb.os),(hg.tape.trans hb.tape),(hg.output.trans hb.output),by simpa using sQ,fun i hi h1 h2=>(PZ i h1).trans (hk i hi h2),hv⟩
def RN (X:Rdr) (w:World) (s:St) (ns:List NV) (v:Value) (x:NV) (e:Ending) (w':World):Prop:=
 if 4000<=s.c then e=Pan 9 x.h.p/\Below X.base w w'
 else ∃v',e=.returned (Iv ns.length)/\At X w' ⟨s.l,s.c+1⟩ (ns ++ [x]) v'/\Kp X w v w' v'
theorem AA {X:Rdr}{w:World}{s:St}{ns:List NV}{v:Value}(h:At X w s ns v)(x:NV)(hx:w.ownsRow X.base tI 1 x.v x.kids.length (bU x.kids)) :
  Calls prog 144 #[rd X,tK x] w (RN X w s ns v x):=by
 have hlt:=h.blk.lt;have hmax:=h.max;have Su:=h.cnt;have c6:=h.blk.cell 6;have f6:=h.blk.frozen 6;simp only [fZ,List.getElem?_toArray,List.getElem?_cons_zero,List.getElem?_cons_succ] at c6;obtain ⟨A,cp,hv⟩:∃A cp,v=.slice A ns.length cp:=by
  rcases h.rows.2 with ⟨hv,h0⟩|⟨g,cap,cur,hv,_⟩
  ·exact ⟨none,0,by rw [hv,h0]⟩
  ·exact ⟨_,_,hv⟩
 by_cases h4:4000<=s.c
 ·have hl4:(4000:Int)<=(ns.length:Int):=by omega
  have hR:∀e w',e=Pan 9 x.h.p->Below X.base w w'->RN X w s ns v x e w':=fun e w' h1 h2=>by unfold RN;rw [if_pos h4];exact ⟨h1,h2⟩
  have HR:=Hy hR;have HB:=Hy h.eu;clear hR h;subst hv;unfold rd tK aH;go_enter func144,ntmps144;go_wp2_with fail;exact ae rfl (HR _ _ rfl ((Below.refl _ w).alloc HB _))
 ·have hl4:(ns.length:Int)<4000:=by omega
  have Ue:ns.length<4000:=by omega
  have hR:∀e w' v',e=.returned (Iv ns.length)->At X w' ⟨s.l,s.c+1⟩ (ns ++ [x]) v'/\Kp X w v w' v'->RN X w s ns v x e w':=fun e w' v' h1 h2=>by unfold RN;rw [if_neg h4];exact ⟨v',h1,h2⟩
  have HR:=Hy hR;have hP:=fun (w1 w2:World) (v':Value) hg hb hr hv=>h.push (w1:=w1) (w2:=w2) (v':=v') (x:=x) hb hg hr hx hv (by omega)
  have HP:=Hy hP;clear hP;obtain ⟨i0,hi,vQ,sI,ru⟩:=info_parts ME;have WN:=h.rows.alloc (.cells (aH x).toArray tN);have WM:=WN.alloc (.cells (aH x).toArray tN);have av:=(Below.refl _ w).alloc (zL _) (.cells (aH x).toArray tN);have aU:=av.alloc (by have:=av.size;exact this) (.cells (aH x).toArray tN)
  have mF:=h.eu;have Oe:some X.b≠v.ownBlock:=h.blk.not_row (by decide) h.rows
  have wJ:∀j u,(aH x)[j]? =some u->((w.alloc (.cells (aH x).toArray tN)).alloc (.cells (aH x).toArray tN)).cell? (((Ad (w.heap.size+1) 0):Addr).add j)=some u:=by
   have:=World.news_of_block (cs:=(aH x).toArray) (heap_alloc_new (w.alloc (.cells (aH x).toArray tN)) (.cells (aH x).toArray tN))
   simpa using this
  have h1c:∀u∈aH x,u.oneCell'=true:=by
   rcases hx.2 with ⟨CY,_⟩|⟨g,cap,cur,CY,_⟩ <;> simp [aH,CY,Value.oneCell']
  have HN:=Hy2 wJ h1c;have HB:=Hy2 av aU;have HW:=Hy WM;clear hR h wJ h1c av aU WN WM hx;subst hv;have HV:=Hy Oe;clear Oe;unfold rd tK;simp only [aH] at *;go_enter func144,ntmps144;go_wp2_with fail;go_region_law (refine step_append_lies _ rfl (.tmp 19) (.tmp 21) 25 rfl X.base tN i0 _ 8 88 underlying25 hi vQ sI ru rfl (by decide) _ ns.length (lF ns) (by simp [Act.eval,Act.put]) HW (Ad (w.heap.size+1) 0) 1 1 _ (by simp [Act.eval,Act.put]) rfl HN.1 HN.2 (by decide) (by unfold maxLen;omega) (by omega) (by simp;omega) (w.heap.size+1+1) (by simp) ?_;intro g cap w2 bB aB kH hlt2;have q6:=(aB.cell_far (Ad X.b 6) (by simp;omega) HV).trans ((World.cell?_alloc_past _ _ _ (by simp;omega)).trans ((World.cell?_alloc_past _ _ _ hlt).trans c6));have r6:=(aB.frozen_far (Ad X.b 6) (by simp;omega) HV).trans ((World.frozen?_alloc_past _ _ _ (by simp;omega)).trans ((World.frozen?_alloc_past _ _ _ hlt).trans f6));have q1:=HP _ w2 _ aB (HB.2.trans ⟨rfl,rfl,rfl,Nat.le_refl _,fun _ _=>rfl⟩) bB (by rcases kH with e|e;exact .inl (by rw [e];rfl);exact .inr ⟨g,rfl,by omega⟩);have HQ:=Hy q1;clear q1 bB aB)
  all_goals
   go_wp2_with fail;go_ret;exact HR _ _ _ (j3 (by omega)) HQ
end
section
open Go Go.RowKit Go.Maps
def MU (X:CkX) (S:CkS) (σ:Cs) (i:Nat) (r:Ck Mg) (w:World) (e:Ending) (w':World):Prop:=
 (∃m,r=.ok m/\e=.returned (Iv m.vl)/\CkV X S (bC σ i m.rf) w'/\Below X.B w w')∨(∃no p,r=.er no p/\e=.panicked [{v:=.iface tFt (.agg #[Iv no,Iv p]),recovered:=false}]/\Below X.B w w')
theorem kC {X:CkX}{S:CkS}{σ:Cs}{w:World}(h:CkV X S σ w){i:Nat}{x:CN}(hx:X.ns[i]? =some x)(hxs:x.h.s.length<=maxLen)(hsc:σ.sc.length<=1000000){so:List Int}{n g:Nat}(hn:so.length=n)(wW:n<=1000)(PY:Blk w g aC (ints so).toArray) :
  Calls prog 152 #[ckp X,ndp X i,Sl g n n] w (MU X S σ i (aW x.h so σ.sc) w):=by
 have NI:=h.c3;have OE:=h.chk.lt;have mf:=h.aU;have LJ:=h.ai hx 3 (by omega)
 have Lt:=h.ai hx 1 (by omega)
 simp only [aA,List.getElem?_cons_succ,List.getElem?_cons_zero] at LJ Lt;obtain ⟨A,c,hv⟩:=dL h.sco;rw [hv] at NI;obtain ⟨R,hR⟩:∃R:Ending->World->Prop,MU X S σ i (aW x.h so σ.sc) w=R:=⟨_,rfl⟩;have HR:=Hy hR;rw [hR];have H:=Hy h;have HV:=Hy hv;have HF:Hid (∀W,Zw w W->Calls prog 59 #[.slice A S.mps.length c,Ss x.h.s] W fun e w'=>e=.returned (.tuple #[mgV ((fE σ.sc x.h.s).getD mz),.bool (fE σ.sc x.h.s).isSome])/\Zw W w'):=Hy fun W hW=>by
  have OT:=(h.on hW).scs;rw [hv] at OT;exact rR OT (h.scl).symm (by rw [h.scl];exact hsc) hxs
 have HS:Hid (∀Wx,Zw w Wx->Ce Wx X.b 3 (.slice A S.mps.length c)/\Ce Wx X.nB (i * 8+3) (Ss x.h.s)/\X.b<Wx.heap.size/\X.nB<Wx.heap.size):=Hy fun Wx hW=>by
  have hz:=hW.size;exact ⟨(hW.cell (p:=Ad X.b 3) OE).trans NI,(hW.cell (p:=(Ad X.nB (i * 8+3))) mf).trans LJ,by omega,by omega⟩
 obtain ⟨L,hL⟩:=zN (fE σ.sc x.h.s);rw [hL] at HF;have HL:=Hy hL;obtain ⟨⟨a1,a2,a3⟩,hM⟩:∃q,L.getD mz=q:=⟨_,rfl⟩;obtain ⟨bv,Oe⟩:=zN L.isSome;rw [hM,Oe] at HF;simp only [mgV] at HF;have HM:=Hy2 hM Oe;clear h hv hR hL hsc hM Oe;have J:Zw w w:=zB _ _;go_enter func152,ntmps152;go_upto_region 1 with (fail);go_cut [7,8] (fun s7 s8 wx=>∃g7:Nat,s7=Pt g7/\s8=.bool bv/\Blk wx g7 tMg #[Iv a1,Iv a2,Iv a3]/\Zw w wx)
 case first=>
  go_region_held3 (fun Wx=>Ce Wx X.b 3 (.slice A S.mps.length c)/\Ce Wx X.nB (i * 8+3) (Ss x.h.s)/\X.b<Wx.heap.size/\X.nB<Wx.heap.size)
   (first|exact ⟨NI,LJ,OE,mf⟩|exact HS _ J|exact HS _ (J.alloc J.size _)|exact HS _ (J.alloc J.size _).drew|exact HS _ (((J.setCell (zL _) _).setCell (zL _) _).setCell (zL _) _))
   (first
    | (go_at_call 59;(with_reducible refine Calls.mono (HF.out _ (by first|exact J|exact J.drew|exact J.alloc J.size _|exact (J.alloc J.size _).drew)) ?_);rintro e v1 ⟨rfl,b1⟩;(first
     | (have k7:Blk v1 w.heap.size tMg #[Iv 0,Iv 0,Iv 0]:=Blk.below (W:=(w.alloc (.cells #[Iv 0,Iv 0,Iv 0] tMg)).drew) (Blk.new w tMg _) b1 (by simp);have J:Zw w v1:=(J.alloc J.size (.cells #[Iv 0,Iv 0,Iv 0] tMg)).drew.trans (b1.mono (by simp));have f0:=k7.frozen 0;have f1:=k7.frozen 1;have f2:=k7.frozen 2;have l7:=k7.lt;have c0:Ce v1 w.heap.size 0 (Iv 0):=k7.cell 0;have c1:Ce v1 w.heap.size 1 (Iv 0):=k7.cell 1;have c2:Ce v1 w.heap.size 2 (Iv 0):=k7.cell 2)
     | (have J:Zw w v1:=by first|exact J.trans (b1.mono J.size)|exact J.drew.trans (b1.mono J.drew.size)))))
  all_goals
   go_wp2_with fail;go_meet;first
    |exact ⟨_,rfl,rfl,Blk.new _ _ _,J.alloc J.size _⟩
    |exact ⟨_,rfl,rfl,Blk.af (Blk.af (Blk.af k7 0 _) 1 _) 2 _,((J.setCell (zL _) _).setCell (zL _) _).setCell (zL _) _⟩
 case rest=>
  obtain ⟨g7,rfl,rfl,k7,hw⟩:=hcut;have HW:=Hy2 k7 hw;have HC:=Hy (H.on hw);have hp1':=(hw.cell (p:=(Ad X.nB (i * 8+1))) mf).trans Lt;have X0:X.nB<wc.heap.size:=zT mf hw.size;have HB:=Hy (hw.mono H.Ble);clear Lt LJ NI HF HS J OE;cases L with
  |none=>
   obtain ⟨-,rfl⟩:_/\false=bv:=HM.out;have HE:=Hy (show R (.panicked [{v:=.iface tFt (.agg #[Iv 4,Iv x.h.p]),recovered:=false}]) wc by
    rw [<-HR.out];exact .inr ⟨4,x.h.p,by unfold aW;rw [HL.out],rfl,HB⟩)
   go_wp2_with fail;refine (iH _ _ _).mono ?_;rintro e w9 ⟨rfl,rfl⟩;go_wp2_with fail;exact aG rfl HE
  |some m=>
   obtain ⟨hm,rfl⟩:(some m).getD mz=⟨a1,a2,a3⟩/\true=bv:=HM.out;obtain rfl:m=⟨a1,a2,a3⟩:=hm;have Y7:=Hy HL;clear HL HM;go_wp2_with fail;refine (kz _ _ _).mono ?_;rintro e w9 ⟨rfl,rfl⟩;go_upto_region 3 with (fail);obtain ⟨bb,DW⟩:=zN (decide (a1∈so));have QO:=Hy DW;have HSO:Hid (∀W,Zw wc W->Calls prog 118 #[Sl g n n,Iv a1] W fun e w'=>e=.returned (.bool bb)/\Zw wc w'):=Hy fun W hW=>by
    rw [<-DW];have QG:Blk W g aC (ints so).toArray:=Blk.below (Blk.below PY HW.2 PY.lt) hW (zT PY.lt HW.2.size);refine (oM so n n hn wW g _ W QG (fun j y hj=>?_) a1).mono fun e w' h=>⟨h.1,by rw [h.2];exact hW⟩
    simp [ints,hj]
   have Tv:Hid (∀W b,Zw wc W->Calls prog 48 #[.bool b,Iv 6,Iv x.h.p] W fun e w'=>(b=true/\e=.panicked [{v:=.iface tFt (.agg #[Iv 6,Iv x.h.p]),recovered:=false}]∨b=false/\e=.returned (.tuple #[]))/\Zw wc w'):=Hy fun W b hW=>
    (df b 6 x.h.p W).mono fun e w' h=>⟨h.1,by rw [<-h.2];exact hW⟩
   have q0:Ce wc g7 0 (Iv a1):=k7.cell 0;have q1:Ce wc g7 1 (Iv a2):=k7.cell 1;have q2:Ce wc g7 2 (Iv a3):=k7.cell 2;have ql:=k7.lt;have HS:Hid (∀Wx,Zw wc Wx->Ce Wx g7 0 (Iv a1)/\Ce Wx X.nB (i * 8+1) (Iv x.h.p)/\g7<Wx.heap.size/\X.nB<Wx.heap.size):=Hy fun Wx hW=>by
    have hz:=hW.size;exact ⟨(hW.cell (p:=Ad g7 0) ql).trans q0,(hW.cell (p:=(Ad X.nB (i * 8+1))) X0).trans hp1',by omega,by omega⟩
   have HE:Hid (∀W,Zw wc W->bb=false->R (.panicked [{v:=.iface tFt (.agg #[Iv 6,Iv x.h.p]),recovered:=false}]) W):=Hy fun W hW hb=>by
    rw [<-HR.out];exact .inr ⟨6,x.h.p,by unfold aW;rw [Y7.out];simp only;rw [if_neg (by rw [hb] at DW;simpa using DW)],rfl,HB.trans (hW.mono (Nat.le_trans H.Ble HW.2.size))⟩
   have HO:Hid (bb=true->aW x.h so σ.sc=.ok ⟨a1,a2,a3⟩):=Hy fun hb=>by
    unfold aW;rw [Y7.out];simp only;rw [if_pos (by rw [hb] at DW;simpa using DW)]
   clear DW hw k7;have J:Zw wc wc:=zB _ _;go_region_held2 (fun Wx=>Ce Wx g7 0 (Iv a1)/\Ce Wx X.nB (i * 8+1) (Iv x.h.p)/\g7<Wx.heap.size/\X.nB<Wx.heap.size)
    (first|exact ⟨q0,hp1',ql,X0⟩|exact HS _ J)
    (first
     | (go_at_call 118;(with_reducible refine Calls.mono (HSO.out _ (by first|exact J|exact J.drew)) ?_);rintro e v1 ⟨rfl,J⟩)
     | (go_at_call 48;(with_reducible refine Calls.mono (Tv.out _ _ (by first|exact J|exact J.drew)) ?_);rintro e v2 ⟨⟨hm,rfl⟩|⟨hm,rfl⟩,J⟩;(refine aG rfl ?_;exact HE _ J (by simpa using hm));have NL:=Hy hm;clear hm))
   all_goals
    have hbt:bb=true:=by simpa using NL.out
    have qM:=HC.on J;have hil:=(zS.1 hx).1;have r1:=(J.cell (p:=Ad g7 1) ql).trans q1;have r2:=(J.cell (p:=Ad g7 2) ql).trans q2;have rf:=qM.nod.frozenAt (i * 8+7);have rl:=qM.aU;have rg:g7<v2.heap.size:=zT ql J.size;have rc:=qM.ai hx 7 (by omega)
    simp only [aA,List.getElem?_cons_succ,List.getElem?_cons_zero] at rc;have aD:g7≠X.nB:=au (Blk.below HW.1 J ql).kind (ag qM.nod rfl) (by decide)
    have HF:=Hy (show R (.returned (Iv a3)) (v2.setCell (Ad X.nB (i * 8+7)) (Iv a2)) by
     rw [<-HR.out];exact .inl ⟨⟨a1,a2,a3⟩,HO hbt,rfl,qM.rf hil a2,(HB.trans (J.mono (Nat.le_trans H.Ble HW.2.size))).setCell (p:=(Ad X.nB (i * 8+7))) (show X.B<=X.nB from H.hB.2.1) _⟩)
    clear qM J hbt;go_wp2_with fail;exact HF
end
section
open Go Go.RowKit Go.Maps
theorem CkV.kids {X:CkX}{S:CkS}{σ:Cs}{w:World}(h:CkV X S σ w){i:Nat}{x:CN}(hx:X.ns[i]? =some x):∃A c,x.v=.slice A x.kids.length c/\RdK w A x.kids:=RdK.av (by
 have:=(h.gZ x (zG hx)).1
 simpa [bK] using this)
theorem GI {X:CkX}{S:CkS}{σ:Cs}{w:World}(h:CkV X S σ w){i:Nat}{x:CN}(hx:X.ns[i]? =some x){k0 k1:Nat}(hk:x.kids=[k0,k1])(h0:k0<X.ns.length)(h1:k1<X.ns.length) :
  Calls prog 155 #[ckp X,ndp X i] w fun e w'=>e=.returned (.bool (jy x.h.s (dw σ.tr k0) (dw σ.tr k1)))/\Zw w w':=by
 obtain ⟨A,c,hv,hr⟩:=h.kids hx;rw [hk] at hv hr;obtain ⟨g,o,rfl,hg,Gq⟩:∃g o,A=some ⟨g,o,none⟩/\g<w.heap.size/\∀j k,[k0,k1][j]? =some k->Ce w g (o+j) (Iv (k:Nat)):=by
  rcases hr with e|e
  ·cases e
  ·exact e
 have y0:Ce w g o (Iv (k0:Nat)):=Gq 0 k0 rfl;have y1:Ce w g (o+1) (Iv (k1:Nat)):=Gq 1 k1 rfl;have mf:=h.aU;have LJ:=h.ai hx 3 (by omega)
 have U4:=h.ai hx 5 (by omega)
 simp only [aA,List.getElem?_cons_succ,List.getElem?_cons_zero] at LJ U4;rw [hv] at U4;have HIL:Hid (∀W (k:Nat),Zw w W->k<X.ns.length->Calls prog 154 #[ckp X,Iv k] W fun e w'=>e=.returned (.bool (dw σ.tr k))/\Zw w w'):=Hy fun W k hW hk=>
  (rC (h.on hW) hk).mono fun e w' h=>⟨h.1,by rw [<-h.2];exact hW⟩
 have HS:Hid (∀Wx,Zw w Wx->Ce Wx X.nB (i * 8+5) (.slice (some ⟨g,o,none⟩) 2 c)/\Ce Wx g o (Iv (k0:Nat))/\Ce Wx g (o+1) (Iv (k1:Nat))/\X.nB<Wx.heap.size/\g<Wx.heap.size):=Hy fun Wx hW=>by
  have hz:=hW.size;exact ⟨(hW.cell (p:=⟨X.nB,i * 8+5,none⟩) mf).trans U4,(hW.cell (p:=⟨g,o,none⟩) hg).trans y0,(hW.cell (p:=⟨g,o+1,none⟩) hg).trans y1,by omega,by omega⟩
 obtain ⟨l,hl⟩:=zN (dw σ.tr k0);obtain ⟨r,pY⟩:=zN (dw σ.tr k1);have HLR:=Hy2 hl pY;rw [hl,pY];generalize x.h.s=s at *;clear h hr Gq hv hx hk hl pY;have J:Zw w w:=zB _ _;go_enter func155,ntmps155;go_upto_region 1 with (fail);go_region_held2 (fun Wx=>Ce Wx X.nB (i * 8+5) (.slice (some ⟨g,o,none⟩) 2 c)/\Ce Wx g o (Iv (k0:Nat))/\Ce Wx g (o+1) (Iv (k1:Nat))/\X.nB<Wx.heap.size/\g<Wx.heap.size)
  (first|exact ⟨U4,y0,y1,mf,hg⟩|exact HS.out _ J)
  (first
   | (go_at_call 154;(with_reducible refine Calls.mono (HIL.out _ _ (by first|exact J|exact J.drew) (by assumption)) ?_);rintro e v1 ⟨rfl,J⟩))
 all_goals
  have hs3':=(J.cell (p:=⟨X.nB,i * 8+3,none⟩) mf).trans LJ;have X0:X.nB<v1.heap.size:=zT mf J.size;have HJ:=Hy J;clear HS HIL y0 y1 U4 LJ J;obtain ⟨e1,e2⟩:=HLR.out;rw [e1,e2];clear HLR e1 e2;by_cases c0:s=[61,61]
  ·subst c0;go_wp2_with fail;go_ret;exact ⟨rfl,HJ.out⟩
  by_cases c1:s=[33,61]
  ·subst c1;go_wp2_with fail;go_ret;exact ⟨rfl,HJ.out⟩
  by_cases c2:s=[60]
  ·subst c2;go_wp2_with fail;go_ret;exact ⟨rfl,HJ.out⟩
  by_cases c3:s=[60,61]
  ·subst c3;go_wp2_with fail;go_ret;exact ⟨rfl,HJ.out⟩
  by_cases c4:s=[62]
  ·subst c4;go_wp2_with fail;go_ret;exact ⟨rfl,HJ.out⟩
  by_cases c5:s=[62,61]
  ·subst c5;go_wp2_with fail;go_ret;exact ⟨rfl,HJ.out⟩
  by_cases c6:s=[38,38]
  ·subst c6;go_wp2_with fail;go_ret;exact ⟨rfl,HJ.out⟩
  by_cases c7:s=[124,124]
  ·subst c7;go_wp2_with fail;go_ret;exact ⟨rfl,HJ.out⟩
  by_cases c8:s=[60,60]
  ·subst c8;go_wp2_with fail;go_ret;exact ⟨rfl,HJ.out⟩
  by_cases c9:s=[62,62]
  ·subst c9;go_wp2_with fail;go_ret;exact ⟨rfl,HJ.out⟩
  have hb:jy s l r=(l || r):=by simp [jy,iC,c0,c1,c2,c3,c4,c5,c6,c7,c8,c9]
  have d0:(s == [61,61])=false:=by simp [c0]
  have d1:(s == [33,61])=false:=by simp [c1]
  have d2:(s == [60])=false:=by simp [c2]
  have d3:(s == [60,61])=false:=by simp [c3]
  have d4:(s == [62])=false:=by simp [c4]
  have d5:(s == [62,61])=false:=by simp [c5]
  have d6:(s == [38,38])=false:=by simp [c6]
  have d7:(s == [124,124])=false:=by simp [c7]
  have d8:(s == [60,60])=false:=by simp [c8]
  have d9:(s == [62,62])=false:=by simp [c9]
  clear c0 c1 c2 c3 c4 c5 c6 c7 c8 c9;have HBL:=Hy hb;clear hb;cases l;all_goals
   go_wp2_with fail;go_ret;exact ⟨by rw [HBL.out];rfl,HJ.out⟩
end
section
open Go Go.RowKit Go.Maps
theorem bQ (fl:List (Fn'×Value))(vls:List Value)(i j:Nat)(hj:j<6){x:Fn'×Value}{v:Value}(hx:fl[i]? =some x)(hv:vls[i]? =some v):(dE fl vls)[i * 6+j]? =(fnC x v)[j]?:=by
 unfold dE;rw [aY _ 6 (fun _=>rfl) _ i j hj]
 rw [show (fl.zip vls)[i]? =some (x,v) by rw [List.getElem?_zip_eq_some];exact ⟨hx,hv⟩]
 rfl
theorem oG (fl:List (Fn'×Value))(vls:List Value)(i:Nat){x:Fn'×Value}{v:Value}(hx:fl[i]? =some x)(hv:vls[i]? =some v)(u:Value):(dE fl vls).set (i * 6+5) u=dE fl (vls.set i u):=by
 unfold dE;have h1:=(zS.1 hx).1;have h2:=(zS.1 hv).1;have hz:(fl.zip vls)[i]? =some (x,v):=by rw [List.getElem?_zip_eq_some];exact ⟨hx,hv⟩
 have Ox:=(zS.1 hz).1;have Vz:(fl.zip vls)[i]=(x,v):=(zS.1 hz).2;rw [mi _ 6 (by omega) (fun _=>rfl) (fl.zip vls) i 5 Ox (by omega) (x,u) u (by rw [Vz];rfl)]
 congr 1
 apply List.ext_getElem?;intro k;by_cases hk:i=k
 ·subst hk;rw [List.getElem?_set_self Ox]
  symm
  rw [List.getElem?_zip_eq_some];exact ⟨hx,List.getElem?_set_self h2⟩
 ·rw [List.getElem?_set_ne hk];apply Option.ext;intro y;rw [List.getElem?_zip_eq_some,List.getElem?_zip_eq_some,List.getElem?_set_ne hk]
section
variable {X:CkX} {S:CkS} {σ:Cs} {w w2:World}
theorem CkV.eZ (h:CkV X S σ w){i:Nat}{x:Fn'×Value}{v:Value}(hx:X.fl[i]? =some x)(hv:S.vls[i]? =some v)(j:Nat)(hj:j<6):w.cell? (Ad X.fB (i * 6+j))=(fnC x v)[j]?:=by
 have hi:=(zS.1 hx).1;rw [h.fP.cellAt (i * 6+j) (by have h1:(i+1) * 6<=X.fl.length * 6:=Nat.mul_le_mul_right _ hi;omega)]
 exact bQ X.fl S.vls i j hj hx hv
theorem CkV.sI (h:CkV X S σ w):X.fB<w.heap.size:=(ag h.fP rfl).lt
theorem CkV.vars (h:CkV X S σ w)(on:S.on=true){v v':Value}{vs':List Int}(hv:S.vls[S.fi]? =some v)(Nk:w.ownsRow S.H aC 1 v σ.vs.length (ints σ.vs))(hg:w.grownBy w2 v.ownBlock)(ai:w2.ownsRow S.H aC 1 v' vs'.length (ints vs')) :
  CkV X {S with vls:=S.vls.set S.fi v'} {σ with vs:=vs'} (w2.setCell (Ad X.fB (S.fi * 6+5)) v'):=by
 have PG:=(h.fil on).1;obtain ⟨x,hx⟩:∃x,X.fl[S.fi]? =some x:=⟨_,List.getElem?_eq_getElem PG⟩;have Tj:∀r,v.ownBlock=some r->S.H<=r:=by
  intro r hr;rcases Nk.2 with ⟨rfl,_⟩|⟨g,cap,cur,rfl,h1,_⟩
  ·cases hr
  ·obtain rfl:g=r:=by simpa [Value.ownBlock] using hr
   exact h1
 have hr:∀{base sz n:Nat} {T:TypeId} {u:Value} {xs:List Value},w.ownsRow base T sz u n xs->T≠aC->∀r,v.ownBlock=some r->u.ownBlock≠some r:=by
  intro base sz n T u xs h1 hT r hr e;exact au (ag h1 e) (ag Nk hr) hT rfl
 have GA:∀{m:Nat},jV w m->v.ownBlock≠some m:=fun h1 e=>dG (ag Nk e) h1 rfl
 have ZF:=ah hg h.fP (hr h.fP (by decide))
 obtain ⟨hf3,Cm⟩:=ZF.stored (S.fi * 6+5) v';rw [oG X.fl S.vls S.fi hx hv v'] at hf3;have hk:Kind w2 X.fB tFu:=ag ZF rfl;have pY:∀{base sz n:Nat} {T:TypeId} {u:Value} {xs:List Value},w2.ownsRow base T sz u n xs->T≠tFu->∀r,some X.fB=some r->u.ownBlock≠some r:=by
  intro base sz n T u xs h1 hT r hr e;cases hr;exact au (ag h1 e) hk hT rfl
 have GZ:∀{m:Nat},jV w2 m->some X.fB≠some m:=fun h1 e=>dG hk h1 (Option.some.inj e)
 have two:∀{base sz n:Nat} {T:TypeId} {u:Value} {xs:List Value},w.ownsRow base T sz u n xs->T≠aC->T≠tFu->(w2.setCell (Ad X.fB (S.fi * 6+5)) v').ownsRow base T sz u n xs:=fun h1 hT YC=>
  ah Cm (ah hg h1 (hr h1 hT)) (pY (ah hg h1 (hr h1 hT)) YC)
 have Uz:Blk w2 X.b tCk (lD X S):=ak hg h.chk (fun e=>au (ag Nk e) h.chk.kind (by decide) rfl)
 exact {
  chk:=ak Cm Uz (fun e=>au hk Uz.kind (by decide) (Option.some.inj e))
  nod:=two h.nod (by decide) (by decide)
  fP:=hf3
  see:=two h.see (by decide) (by decide)
  trl:=h.trl
  vll:=by simpa using h.vll
  fil:=h.fil
  var:=fun _=>⟨v',by
   have:S.fi<S.vls.length:=by rw [h.vll];exact PG
   simp [this],ah Cm ai (pY ai (by decide))⟩
  sco:=two h.sco (by decide) (by decide)
  scl:=h.scl
  dn:=fun j m s h1 h2=>by
   have h3:=h.dn j m s h1 h2;have h4:=di hg h3.2 (GA (bM h3.2));exact ⟨h3.1,di Cm h4 (GZ (bM h4))⟩
  gX:=h.gX
  lab:=fun on=>by
   have h3:=h.lab on;have h4:=di hg h3.2.1 (GA (bM h3.2.1));exact ⟨h3.1,di Cm h4 (GZ (bM h4)),h3.2.2⟩
  jW:=h.jW
  gZ:=fun x hx=>by
   have h3:=h.gZ x hx;have h4:=az hg h3 (fun r hr e=>by have:=h3.2 r e;have:=Tj r hr;omega)
   exact az Cm h4 (pY h4.1 (by decide))
  old:=fun j u l h1 h2 h3=>by
   have Xk:j<S.fi:=h3;rw [List.getElem?_set_ne (by omega)] at h1
   have h5:=h.old j u l h1 h2 h3;have h4:=az hg h5 (fun r hr e=>by have:=h5.2 r e;have:=Tj r hr;omega)
   exact az Cm h4 (pY h4.1 (by decide))
  prm:=fun x hx=>⟨two (h.prm x hx).1 (by decide) (by decide),(h.prm x hx).2⟩
  glb:=⟨two h.glb.1 (by decide) (by decide),h.glb.2⟩
  hB:=by have:=h.hB;have:=hg.size;simp;omega}
end
theorem nG {X:CkX}{S:CkS}{σ:Cs}{w:World}(h:CkV X S σ w)(on:S.on=true){k:Nat}(hk:σ.sc.length=k+1)(hk2:k<=1000000)(hl:(σ.sc.getLast?.getD []).length<=2000000)(Bt:σ.vs.length<=1000000){x:List UInt8}(hx:x.length<=maxLen)(t:Int) :
  Calls prog 56 #[ckp X,Ss x,Iv t] w fun e w'=>e=.returned (Iv (σ.vs.length:Nat))/\∃v',CkV X {S with vls:=S.vls.set S.fi v'} {σ with sc:=decl σ.sc x ⟨1,σ.vs.length,t⟩,vs:=σ.vs ++ [t]} w'/\Below X.B w w':=by
 obtain ⟨PG,ZC⟩:=h.fil on;obtain ⟨v,hv,Nk⟩:=h.var on;obtain ⟨A,c,rfl⟩:=dL Nk;obtain ⟨f,hf⟩:∃x,X.fl[S.fi]? =some x:=⟨_,List.getElem?_eq_getElem PG⟩;have c5:=h.c5;rw [ZC] at c5;have uo:=h.sI;have eu:=h.chk.lt;have Vb:=h.eZ hf hv 5 (by omega)
 simp only [fnC,List.getElem?_cons_succ,List.getElem?_cons_zero] at Vb;have hff:=h.fP.frozenAt (S.fi * 6+5);have av:Zw w (w.alloc (.cells #[Iv t] aC)):=(zB _ _).alloc (zL _) _;have h1:=h.on av;have ai:=Nk.alloc (.cells #[Iv t] aC);have wJ:∀j u,[Iv t][j]? =some u->(w.alloc (.cells #[Iv t] aC)).cell? (((Ad w.heap.size 0):Addr).add j)=some u:=World.news_of_block (cs:=#[Iv t]) (Blk.new w aC #[Iv t]);obtain ⟨i0,hi,vQ,sI,ru⟩:=dU rD;have aD:X.fB≠X.b:=au (ag h.fP rfl) h.chk.kind (by decide)
 have hHB:X.B<=S.H:=h.hB.2.2.2.2.1;have hHw:S.H<=w.heap.size:=h.hB.2.2.2.2.2;have hwr:some X.b≠(Value.slice A σ.vs.length c).ownBlock:=fun e=>au (ag Nk e.symm) h.chk.kind (by decide) rfl
 have O4:some X.fB≠(Value.slice A σ.vs.length c).ownBlock:=fun e=>au (ag Nk e.symm) (ag h.fP rfl) (by decide) rfl
 have HW:=Hy4 ai wJ hwr O4;have H1:=Hy3 h1 hv on;have vS:=Hy h.hB;clear h hv Nk ai wJ h1 hwr O4 hf ZC;go_enter func56,ntmps56;go_upto_region 2 with (fail);go_cut [] (fun wx=>∃v',CkV X {S with vls:=S.vls.set S.fi v'} {σ with vs:=σ.vs ++ [t]} wx/\Below X.B w wx)
 case first=>
  go_region_law (refine step_append_lies _ rfl (.tmp 26) (.tmp 28) 40 rfl S.H aC i0 _ 1 8 underlying40 hi vQ sI ru rfl (by decide) _ σ.vs.length (ints σ.vs) (by simp [Act.eval,Act.put]) HW.1 (Ad w.heap.size 0) 1 1 _ (by simp [Act.eval,Act.put]) rfl HW.2.1 (by simp [Value.oneCell']) (by decide) (by unfold maxLen;omega) (by omega) (by simp;omega) (w.heap.size+1) (by simp) ?_;intro g1 cap w2 bB aB kH hlt2;have q3:=(aB.cell_far (Ad X.fB (S.fi * 6+5)) (by simp;omega) HW.2.2.2).trans ((World.cell?_alloc_past _ _ _ uo).trans Vb);have r3:=(aB.frozen_far (Ad X.fB (S.fi * 6+5)) (by simp;omega) HW.2.2.2).trans ((World.frozen?_alloc_past _ _ _ uo).trans hff);have q5:=(aB.cell_far (Ad X.b 5) (by simp;omega) HW.2.2.1).trans ((World.cell?_alloc_past _ _ _ eu).trans c5);have HG:=Hy2 bB aB;clear bB aB)
  all_goals
   go_wp2_with fail;go_meet;have hgd:(w.alloc (.cells #[Iv t] aC)).drew.grownBy w2 (Value.slice A σ.vs.length c).ownBlock:=HG.2;have Gz:w2.ownsRow S.H aC 1 (Sl g1 (σ.vs.length+1) cap) (σ.vs ++ [t]).length (ints (σ.vs ++ [t])):=by simpa [ints] using HG.1
   have Rn:(w.alloc (.cells #[Iv t] aC)).drew.ownsRow S.H aC 1 (.slice A σ.vs.length c) σ.vs.length (ints σ.vs):=HW.1;have Vd:=vS.out;refine ⟨_,H1.1.drew.vars H1.2.2 H1.2.1 Rn hgd Gz,((av.mono (by omega)).drew.grown hgd (by simp;omega) ?_).setCell (p:=(Ad X.fB (S.fi * 6+5))) (show X.B<=X.fB by omega) _⟩
   intro j ej;rcases Rn.2 with ⟨e,_⟩|⟨g,cap,cur,e,h1,_⟩
   ·rw [e] at ej;cases ej
   ·rw [e] at ej;obtain rfl:g=j:=by simpa [Value.ownBlock] using ej
    omega
 case rest=>
  obtain ⟨v',hC,bW⟩:=hcut;obtain ⟨A3,n3,c3,Es⟩:∃A n c,S.scv=.slice A n c:=by
   obtain ⟨A3,c3,e⟩:=dL hC.sco;exact ⟨A3,_,c3,e⟩
  have NI:Ce wc X.b 3 S.scv:=hC.c3;rw [Es] at NI;have Yy:=hC.chk.lt;have HD:=mr hC hk hk2 hl hx ⟨1,σ.vs.length,t⟩;have HB:=Hy bW;rw [show ({S with vls:=S.vls.set S.fi v'}:CkS).scv=.slice A3 n3 c3 from Es] at HD
  unfold mgV at HD;simp only at HD;have HDD:=Hy HD;have HV3:=Hy Es;clear HD hC bW Es H1 HW av;go_wp2_with fail;refine HDD.mono ?_;rintro e w5 ⟨rfl,E9,qK,-⟩;have Wz:=Hy2 E9 qK;clear E9 qK HDD;go_wp2_with fail;go_ret;exact ⟨rfl,v',by rw [HV3.out];exact Wz.1,HB.trans Wz.2⟩
end
end Go.Proofs.YtcchdlnfeijinaaGreatDoor
