/- Csc to Cma: A program's lists written over (mortisekit.SpoilProgram): nothing below them changes. -/
import Derived.Test.YtcchdlnfeijinaaGreatDoorNaz
import Derived.Test.YtcchdlnfeijinaaGreatDoorNap
namespace Go.Proofs.YtcchdlnfeijinaaGreatDoor
open Go.Proofs.Tryz
set_option linter.unusedSimpArgs false
set_option linter.unusedVariables false
set_option maxHeartbeats 4000000
set_option maxRecDepth 100000
section
open Go Go.RowKit Go.Maps
def Shp (w w':World):Prop:=∀(k:Nat) (cs:Array Value) (T:TypeId),w.heap[k]? =some (.cells cs T (0,0))->∃cs':Array Value,w'.heap[k]? =some (.cells cs' T (0,0))/\cs'.size=cs.size
theorem Shp.refl (w:World):Shp w w:=fun k cs T h=>⟨cs,h,rfl⟩
theorem Shp.trans {a b c:World}(h:Shp a b)(h2:Shp b c):Shp a c:=fun k cs T hk=>by
 obtain ⟨cs1,e1,z1⟩:=h k cs T hk;obtain ⟨cs2,e2,z2⟩:=h2 k cs1 T e1;exact ⟨cs2,e2,z2.trans z1⟩
theorem Shp.set (w:World)(b j:Nat)(u:Value):Shp w (w.setCell (Ad b j) u):=fun k cs T hk=>by
 by_cases e:b=k
 ·subst e;exact ⟨_,Blk.af (show Blk w b T cs from hk) j u,by simp⟩
 ·exact ⟨cs,(heap_setCell_other w (Ad b j) k u (fun h=>e h.symm)).trans hk,rfl⟩
theorem Shp.sets (b:Nat):∀(us:List Value) (w:World) (j:Nat),Shp w (w.setCells b j us):=by
 intro us
 induction us with
 |nil=>intro w j;exact Shp.refl w
 |cons u us ih=>intro w j;exact (Shp.set w b j u).trans (ih _ _)
theorem Shp.low {w w':World}(h:Below w.heap.size w w'):Shp w w':=fun k cs T hk=>⟨cs,(h.block k (Array.getElem?_eq_some_iff.1 hk).1).trans hk,rfl⟩
theorem qD (b:Nat):∀(us:List Value) (w:World) (j:Nat),w.grownBy (w.setCells b j us) (some b):=by
 intro us
 induction us with
 |nil=>intro w j;exact ⟨rfl,rfl,rfl,Nat.le_refl _,fun _ _ _=>rfl⟩
 |cons u us ih=>intro w j;exact fG (ko w b j u) (ih _ _)
def OwW (w:World) (B:Nat) (T:TypeId) (sz:Nat) (v:Value) (n:Nat):Prop:=∃xs,w.ownsRow B T sz v n xs
theorem OwW.shp {w w':World}{B sz n:Nat}{T:TypeId}{v:Value}(h:OwW w B T sz v n)(hs:Shp w w'):OwW w' B T sz v n:=by
 obtain ⟨xs,h1,h2⟩:=h;rcases h2 with ⟨e,e2⟩|⟨g,cap,cur,e,a1,a2,a3,a4,a5,a6⟩
 ·exact ⟨xs,h1,.inl ⟨e,e2⟩⟩
 ·obtain ⟨cs',b1,b2⟩:=hs g cur T a2;refine ⟨cs'.toList.take (n * sz),?_,.inr ⟨g,cap,cs',e,a1,b1,a3,a4,by rw [b2];exact a5,rfl⟩⟩
  rw [List.length_take,Array.length_toList,b2,a5];have:=Nat.mul_le_mul_right sz a3;omega
theorem FZ {w w':World}{B sz n:Nat}{T:TypeId}{v:Value}{xs:List Value}(h:w.ownsRow B T sz v n xs)(hb:∀g,v.ownBlock=some g->w'.heap[g]? =w.heap[g]?):w'.ownsRow B T sz v n xs:=by
 refine ⟨h.1,?_⟩;rcases h.2 with ⟨e,e2⟩|⟨g,cap,cur,e,a1,a2,a3,a4,a5,a6⟩
 ·exact .inl ⟨e,e2⟩
 ·exact .inr ⟨g,cap,cur,e,a1,(hb g (by rw [e];rfl)).trans a2,a3,a4,a5,a6⟩
theorem mZ {w:World}{B sz n c:Nat}{T:TypeId}{A:Option Addr}{xs:List Value}(h:w.ownsRow B T sz (.slice A n c) n xs)(hn:0<n):∃g,A=some (Ad g 0):=by
 rcases h.2 with ⟨_,e⟩|⟨g,_,_,e,_⟩
 ·omega
 ·simp only [Value.slice.injEq] at e;exact ⟨g,e.1⟩
structure SpX (w w':World) (r:Option Nat):Prop where
 gr:w.grownBy w' r
 shp:Shp w w'
theorem SpX.refl (w:World)(r:Option Nat):SpX w w r:=⟨⟨rfl,rfl,rfl,Nat.le_refl _,fun _ _ _=>rfl⟩,Shp.refl w⟩
theorem SpX.trans {a b c:World}{r:Option Nat}(h:SpX a b r)(h2:SpX b c r):SpX a c r:=⟨fG h.gr h2.gr,h.shp.trans h2.shp⟩
theorem SpX.low {a b:World}{r:Option Nat}(h:Below a.heap.size a b):SpX a b r:=⟨mh h,Shp.low h⟩
theorem Gg (i:Nat)(hi:i<=2000000)(w:World):Calls prog 67 #[Iv (i:Nat)] w fun e w'=>e=.returned (Iv (7001+13 * (i:Int)))/\w=w':=by
 go_enter func67,ntmps67;go_wp2;go_ret;exact ⟨rfl,rfl⟩
theorem zF (n:Nat)(hn:n<=1000000)(B:Nat)(A:Option Addr)(c:Nat)(w:World)(h:OwW w B aC 1 (.slice A n c) n) :
  Calls prog 35 #[.slice A n c] w fun e w'=>e=.returned (.tuple #[])/\SpX w w' (Value.slice A n c).ownBlock:=by
 have H:=Hy h;clear h;go_enter func35,ntmps35;go_wp2;go_loopw [2] (fun v wr=>∃k:Nat,k<=n/\v=Iv k/\SpX w wr (Value.slice A n c).ownBlock) (fun v _=>n - (intOf v).toNat)
 case atStart=>exact ⟨0,by omega,rfl,SpX.refl _ _⟩
 case round=>
  obtain ⟨k,hk,rfl,hX⟩:=hrel;by_cases hlt:k<n
  ·obtain ⟨xs,hr⟩:=H.shp hX.shp;obtain ⟨g,rfl⟩:=mZ hr (by omega)
   have hx:xs.length=n * 1:=hr.1;have c0:wr.cell? (Ad g k)=some (xs[k]'(by omega)):=by rw [hr.cellAt k (by omega),List.getElem?_eq_getElem]
   have f0:=hr.frozenAt k;have hl:g<wr.heap.size:=(hr.lt g rfl).2;generalize xs[k]'(by omega)=v0 at c0
   have HQ:=Hy (hX.trans (⟨ko wr g k (Iv (7001+13 * ((k+7:Nat):Int))),Shp.set wr g k _⟩:SpX wr (wr.setCell (Ad g k) (Iv (7001+13 * ((k+7:Nat):Int)))) (some g)));have HM:=Hy (show Calls prog 67 #[Iv ((k:Int)+7)] wr fun e w'=>e=.returned (Iv (7001+13 * ((k+7:Nat):Int)))/\wr=w' from by rw [show ((k:Int)+7)=((k+7:Nat):Int) from by omega];exact Gg (k+7) (by omega) wr)
   obtain ⟨mv,hmv⟩:∃q,7001+13 * ((k+7:Nat):Int)=q:=⟨_,rfl⟩;rw [hmv] at HQ HM;have Qj:(k:Int)<n:=by omega
   clear hX hr hx hmv;go_wp2_with fail;refine HM.mono ?_;clear HM;rintro e w2 ⟨rfl,rfl⟩;go_wp2_with fail;go_roundw
   case rel=>exact ⟨k+1,by omega,by go_num,HQ⟩
   case measure=>simp [intOf];omega
  ·obtain rfl:n=k:=by omega
   have HX:=Hy hX;clear hX;go_wp2_with fail;go_end0;exact ⟨rfl,HX⟩
theorem El:(prog.info? tGb).map (·.size)=some 4:=by kernel_rfl
theorem Gh (i:Nat)(hi:i<=2000000)(w:World):Calls prog 69 #[Iv (i:Nat)] w fun e w'=>e=.returned (.agg #[.string ⟨#[]⟩,Iv (-9 - (i:Int)),Iv 0,Iv 0])/\Below w.heap.size w w':=by
 have b2:=Blk.new w tGb #[.string ⟨#[]⟩,Iv 0,Iv 0,Iv 0];have hb:Below w.heap.size w (w.alloc (.cells #[.string ⟨#[]⟩,Iv 0,Iv 0,Iv 0] tGb)):=(zB _ _).alloc (zL _) _;go_enter func69,ntmps69;go_upto_region 1 with (fail);obtain ⟨H,hH⟩:=zN w.heap.size;rw [hH] at b2;generalize w.alloc (.cells #[.string ⟨#[]⟩,Iv 0,Iv 0,Iv 0] tGb)=W at *;have kZ:=setRow_heap W H _ #[.string ⟨#[]⟩,Iv (-9 - (i:Int)),Iv 0,Iv 0] tGb (0,0) b2;have oW:=Hy2 kZ (hb.trans (below_setRow (B:=w.heap.size) W H #[.string ⟨#[]⟩,Iv (-9 - (i:Int)),Iv 0,Iv 0] (by omega)))
 try simp only [hH]
 clear kZ hb hH;go_wp2_with (refine wpList_store_row rfl tGb _ _ rfl H _ rfl rfl tGb #[.string ⟨#[]⟩,Iv 0,Iv 0,Iv 0] b2 El rfl (by simp [Value.oneCell']) ?_)
 refine bodyPost_ret (results_cell_row rfl _ _ H tGb _ (0,0) _ rfl oW.1 underlying47 rfl El) rfl ?_;exact ⟨rfl,oW.2⟩
theorem Fw (n:Nat)(hn:n<=1000000)(B:Nat)(A:Option Addr)(c:Nat)(w:World)(h:OwW w B tGb 4 (.slice A n c) n) :
  Calls prog 37 #[.slice A n c] w fun e w'=>e=.returned (.tuple #[])/\SpX w w' (Value.slice A n c).ownBlock:=by
 have H:=Hy h;clear h;go_enter func37,ntmps37;go_wp2;go_loopw [2] (fun v wr=>∃k:Nat,k<=n/\v=Iv k/\SpX w wr (Value.slice A n c).ownBlock) (fun v _=>n - (intOf v).toNat)
 case atStart=>exact ⟨0,by omega,rfl,SpX.refl _ _⟩
 case round=>
  obtain ⟨k,hk,rfl,hX⟩:=hrel;by_cases hlt:k<n
  ·obtain ⟨xs,hr⟩:=H.shp hX.shp;obtain ⟨g,rfl⟩:=mZ hr (by omega)
   have hM:=Gh (k+7) (by omega) wr
   rw [show (((k+7:Nat)):Int)=(k:Int)+7 from by omega] at hM
   have HM:=Hy hM;have HR:=Hy hr;have HX:=Hy hX;have Qj:(k:Int)<n:=by omega
   clear hX hr hM;go_wp2_with fail;refine HM.mono ?_;clear HM;rintro e w2 ⟨rfl,aU⟩;have pY:=HR.kept (mh (r:=none) aU) (.inr (by simp [Value.ownBlock]))
   have hx:xs.length=n * 4:=pY.1;have OQ:w2.there g (k * 4) 4:=fun j hj=>⟨by rw [pY.cellAt (k * 4+j) (by omega),List.getElem?_eq_getElem (by omega)];rfl,pY.frozenAt _⟩
   have HQ:=Hy (show SpX w (w2.setCells g (k * 4) [.string ⟨#[]⟩,Iv (-9 - ((k:Int)+7)),Iv 0,Iv 0]) (some g) from (HX.trans (SpX.low aU)).trans ⟨qD _ _ _ _,Shp.sets _ _ _ _⟩)
   clear pY hx aU;go_wp2_with (refine wpList_store_mid rfl tGb (.tmp 14) (.tmp 13) rfl g (k * 4) #[.string ⟨#[]⟩,Iv (-9 - ((k:Int)+7)),Iv 0,Iv 0] ?hx ?hy ?ht El ?h1 ?_)
   case hx=>simp [Act.eval,Act.put]
   case hy=>simp [Act.eval,Act.put]
   case ht=>exact OQ
   case h1=>simp [Value.oneCell']
   clear OQ;go_roundw
   case rel=>exact ⟨k+1,by omega,by go_num,HQ⟩
   case measure=>simp [intOf];omega
  ·obtain rfl:n=k:=by omega
   have HX:=Hy hX;clear hX;go_wp2_with fail;go_end0;exact ⟨rfl,HX⟩
theorem Ei:(prog.info? tPr).map (·.size)=some 2:=by kernel_rfl
theorem Gd (i:Nat)(hi:i<=2000000)(w:World):Calls prog 68 #[Iv (i:Nat)] w fun e w'=>e=.returned (.agg #[.string ⟨#[]⟩,Iv (-9 - (i:Int))])/\Below w.heap.size w w':=by
 have b2:=Blk.new w tPr #[.string ⟨#[]⟩,Iv 0];have hb:Below w.heap.size w (w.alloc (.cells #[.string ⟨#[]⟩,Iv 0] tPr)):=(zB _ _).alloc (zL _) _;go_enter func68,ntmps68;go_upto_region 1 with (fail);obtain ⟨H,hH⟩:=zN w.heap.size;rw [hH] at b2;generalize w.alloc (.cells #[.string ⟨#[]⟩,Iv 0] tPr)=W at *;have kZ:=setRow_heap W H _ #[.string ⟨#[]⟩,Iv (-9 - (i:Int))] tPr (0,0) b2;have oW:=Hy2 kZ (hb.trans (below_setRow (B:=w.heap.size) W H #[.string ⟨#[]⟩,Iv (-9 - (i:Int))] (by omega)))
 try simp only [hH]
 clear kZ hb hH;go_wp2_with (refine wpList_store_row rfl tPr _ _ rfl H _ rfl rfl tPr #[.string ⟨#[]⟩,Iv 0] b2 Ei rfl (by simp [Value.oneCell']) ?_)
 refine bodyPost_ret (results_cell_row rfl _ _ H tPr _ (0,0) _ rfl oW.1 underlying45 rfl Ei) rfl ?_;exact ⟨rfl,oW.2⟩
theorem Fu (n:Nat)(hn:n<=1000000)(B:Nat)(A:Option Addr)(c:Nat)(w:World)(h:OwW w B tPr 2 (.slice A n c) n) :
  Calls prog 36 #[.slice A n c] w fun e w'=>e=.returned (.tuple #[])/\SpX w w' (Value.slice A n c).ownBlock:=by
 have H:=Hy h;clear h;go_enter func36,ntmps36;go_wp2;go_loopw [2] (fun v wr=>∃k:Nat,k<=n/\v=Iv k/\SpX w wr (Value.slice A n c).ownBlock) (fun v _=>n - (intOf v).toNat)
 case atStart=>exact ⟨0,by omega,rfl,SpX.refl _ _⟩
 case round=>
  obtain ⟨k,hk,rfl,hX⟩:=hrel;by_cases hlt:k<n
  ·obtain ⟨xs,hr⟩:=H.shp hX.shp;obtain ⟨g,rfl⟩:=mZ hr (by omega)
   have hM:=Gd (k+7) (by omega) wr
   rw [show (((k+7:Nat)):Int)=(k:Int)+7 from by omega] at hM
   have HM:=Hy hM;have HR:=Hy hr;have HX:=Hy hX;have Qj:(k:Int)<n:=by omega
   clear hX hr hM;go_wp2_with fail;refine HM.mono ?_;clear HM;rintro e w2 ⟨rfl,aU⟩;have pY:=HR.kept (mh (r:=none) aU) (.inr (by simp [Value.ownBlock]))
   have hx:xs.length=n * 2:=pY.1;have OQ:w2.there g (k * 2) 2:=fun j hj=>⟨by rw [pY.cellAt (k * 2+j) (by omega),List.getElem?_eq_getElem (by omega)];rfl,pY.frozenAt _⟩
   have HQ:=Hy (show SpX w (w2.setCells g (k * 2) [.string ⟨#[]⟩,Iv (-9 - ((k:Int)+7))]) (some g) from (HX.trans (SpX.low aU)).trans ⟨qD _ _ _ _,Shp.sets _ _ _ _⟩)
   clear pY hx aU;go_wp2_with (refine wpList_store_mid rfl tPr (.tmp 14) (.tmp 13) rfl g (k * 2) #[.string ⟨#[]⟩,Iv (-9 - ((k:Int)+7))] ?hx ?hy ?ht Ei ?h1 ?_)
   case hx=>simp [Act.eval,Act.put]
   case hy=>simp [Act.eval,Act.put]
   case ht=>exact OQ
   case h1=>simp [Value.oneCell']
   clear OQ;go_roundw
   case rel=>exact ⟨k+1,by omega,by go_num,HQ⟩
   case measure=>simp [intOf];omega
  ·obtain rfl:n=k:=by omega
   have HX:=Hy hX;clear hX;go_wp2_with fail;go_end0;exact ⟨rfl,HX⟩
theorem Em:(prog.info? tFu).map (·.size)=some 6:=by kernel_rfl
theorem Gi (i:Nat)(hi:i<=2000000)(w:World):Calls prog 70 #[Iv (i:Nat)] w fun e w'=>e=.returned (.agg #[.string ⟨#[]⟩,Iv (-9 - (i:Int)),Sn,Iv 0,Iv 0,Sn])/\Below w.heap.size w w':=by
 have b2:=Blk.new w tFu #[.string ⟨#[]⟩,Iv 0,Sn,Iv 0,Iv 0,Sn];have hb:Below w.heap.size w (w.alloc (.cells #[.string ⟨#[]⟩,Iv 0,Sn,Iv 0,Iv 0,Sn] tFu)):=(zB _ _).alloc (zL _) _;go_enter func70,ntmps70;go_upto_region 1 with (fail);obtain ⟨H,hH⟩:=zN w.heap.size;rw [hH] at b2;generalize w.alloc (.cells #[.string ⟨#[]⟩,Iv 0,Sn,Iv 0,Iv 0,Sn] tFu)=W at *;have kZ:=setRow_heap W H _ #[.string ⟨#[]⟩,Iv (-9 - (i:Int)),Sn,Iv 0,Iv 0,Sn] tFu (0,0) b2;have oW:=Hy2 kZ (hb.trans (below_setRow (B:=w.heap.size) W H #[.string ⟨#[]⟩,Iv (-9 - (i:Int)),Sn,Iv 0,Iv 0,Sn] (by omega)))
 try simp only [hH]
 clear kZ hb hH;go_wp2_with (refine wpList_store_row rfl tFu _ _ rfl H _ rfl rfl tFu #[.string ⟨#[]⟩,Iv 0,Sn,Iv 0,Iv 0,Sn] b2 Em rfl (by simp [Value.oneCell']) ?_)
 refine bodyPost_ret (results_cell_row rfl _ _ H tFu _ (0,0) _ rfl oW.1 underlying42 rfl Em) rfl ?_;exact ⟨rfl,oW.2⟩
theorem Fx (n:Nat)(hn:n<=1000000)(B:Nat)(A:Option Addr)(c:Nat)(w:World)(h:OwW w B tFu 6 (.slice A n c) n) :
  Calls prog 38 #[.slice A n c] w fun e w'=>e=.returned (.tuple #[])/\SpX w w' (Value.slice A n c).ownBlock:=by
 have H:=Hy h;clear h;go_enter func38,ntmps38;go_wp2;go_loopw [2] (fun v wr=>∃k:Nat,k<=n/\v=Iv k/\SpX w wr (Value.slice A n c).ownBlock) (fun v _=>n - (intOf v).toNat)
 case atStart=>exact ⟨0,by omega,rfl,SpX.refl _ _⟩
 case round=>
  obtain ⟨k,hk,rfl,hX⟩:=hrel;by_cases hlt:k<n
  ·obtain ⟨xs,hr⟩:=H.shp hX.shp;obtain ⟨g,rfl⟩:=mZ hr (by omega)
   have hM:=Gi (k+7) (by omega) wr
   rw [show (((k+7:Nat)):Int)=(k:Int)+7 from by omega] at hM
   have HM:=Hy hM;have HR:=Hy hr;have HX:=Hy hX;have Qj:(k:Int)<n:=by omega
   clear hX hr hM;go_wp2_with fail;refine HM.mono ?_;clear HM;rintro e w2 ⟨rfl,aU⟩;have pY:=HR.kept (mh (r:=none) aU) (.inr (by simp [Value.ownBlock]))
   have hx:xs.length=n * 6:=pY.1;have OQ:w2.there g (k * 6) 6:=fun j hj=>⟨by rw [pY.cellAt (k * 6+j) (by omega),List.getElem?_eq_getElem (by omega)];rfl,pY.frozenAt _⟩
   have HQ:=Hy (show SpX w (w2.setCells g (k * 6) [.string ⟨#[]⟩,Iv (-9 - ((k:Int)+7)),Sn,Iv 0,Iv 0,Sn]) (some g) from (HX.trans (SpX.low aU)).trans ⟨qD _ _ _ _,Shp.sets _ _ _ _⟩)
   clear pY hx aU;go_wp2_with (refine wpList_store_mid rfl tFu (.tmp 14) (.tmp 13) rfl g (k * 6) #[.string ⟨#[]⟩,Iv (-9 - ((k:Int)+7)),Sn,Iv 0,Iv 0,Sn] ?hx ?hy ?ht Em ?h1 ?_)
   case hx=>simp [Act.eval,Act.put]
   case hy=>simp [Act.eval,Act.put]
   case ht=>exact OQ
   case h1=>simp [Value.oneCell']
   clear OQ;go_roundw
   case rel=>exact ⟨k+1,by omega,by go_num,HQ⟩
   case measure=>simp [intOf];omega
  ·obtain rfl:n=k:=by omega
   have HX:=Hy hX;clear hX;go_wp2_with fail;go_end0;exact ⟨rfl,HX⟩
theorem Ej:(prog.info? tNd).map (·.size)=some 8:=by kernel_rfl
theorem Gf (i:Nat)(hi:i<=2000000)(w:World):Calls prog 71 #[Iv (i:Nat)] w fun e w'=>e=.returned (.agg #[Iv (-9 - (i:Int)),Iv 0,Iv 0,.string ⟨#[]⟩,Iv 0,Sn,Iv 0,Iv 0])/\Below w.heap.size w w':=by
 have b2:=Blk.new w tNd #[Iv 0,Iv 0,Iv 0,.string ⟨#[]⟩,Iv 0,Sn,Iv 0,Iv 0];have hb:Below w.heap.size w (w.alloc (.cells #[Iv 0,Iv 0,Iv 0,.string ⟨#[]⟩,Iv 0,Sn,Iv 0,Iv 0] tNd)):=(zB _ _).alloc (zL _) _;go_enter func71,ntmps71;go_upto_region 1 with (fail);obtain ⟨H,hH⟩:=zN w.heap.size;rw [hH] at b2;generalize w.alloc (.cells #[Iv 0,Iv 0,Iv 0,.string ⟨#[]⟩,Iv 0,Sn,Iv 0,Iv 0] tNd)=W at *;have kZ:=setRow_heap W H _ #[Iv (-9 - (i:Int)),Iv 0,Iv 0,.string ⟨#[]⟩,Iv 0,Sn,Iv 0,Iv 0] tNd (0,0) b2;have oW:=Hy2 kZ (hb.trans (below_setRow (B:=w.heap.size) W H #[Iv (-9 - (i:Int)),Iv 0,Iv 0,.string ⟨#[]⟩,Iv 0,Sn,Iv 0,Iv 0] (by omega)))
 try simp only [hH]
 clear kZ hb hH;go_wp2_with (refine wpList_store_row rfl tNd _ _ rfl H _ rfl rfl tNd #[Iv 0,Iv 0,Iv 0,.string ⟨#[]⟩,Iv 0,Sn,Iv 0,Iv 0] b2 Ej rfl (by simp [Value.oneCell']) ?_)
 refine bodyPost_ret (results_cell_row rfl _ _ H tNd _ (0,0) _ rfl oW.1 underlying75 rfl Ej) rfl ?_;exact ⟨rfl,oW.2⟩
theorem Fv (n:Nat)(hn:n<=1000000)(B:Nat)(A:Option Addr)(c:Nat)(w:World)(h:OwW w B tNd 8 (.slice A n c) n) :
  Calls prog 39 #[.slice A n c] w fun e w'=>e=.returned (.tuple #[])/\SpX w w' (Value.slice A n c).ownBlock:=by
 have H:=Hy h;clear h;go_enter func39,ntmps39;go_wp2;go_loopw [2] (fun v wr=>∃k:Nat,k<=n/\v=Iv k/\SpX w wr (Value.slice A n c).ownBlock) (fun v _=>n - (intOf v).toNat)
 case atStart=>exact ⟨0,by omega,rfl,SpX.refl _ _⟩
 case round=>
  obtain ⟨k,hk,rfl,hX⟩:=hrel;by_cases hlt:k<n
  ·obtain ⟨xs,hr⟩:=H.shp hX.shp;obtain ⟨g,rfl⟩:=mZ hr (by omega)
   have hM:=Gf (k+7) (by omega) wr
   rw [show (((k+7:Nat)):Int)=(k:Int)+7 from by omega] at hM
   have HM:=Hy hM;have HR:=Hy hr;have HX:=Hy hX;have Qj:(k:Int)<n:=by omega
   clear hX hr hM;go_wp2_with fail;refine HM.mono ?_;clear HM;rintro e w2 ⟨rfl,aU⟩;have pY:=HR.kept (mh (r:=none) aU) (.inr (by simp [Value.ownBlock]))
   have hx:xs.length=n * 8:=pY.1;have OQ:w2.there g (k * 8) 8:=fun j hj=>⟨by rw [pY.cellAt (k * 8+j) (by omega),List.getElem?_eq_getElem (by omega)];rfl,pY.frozenAt _⟩
   have HQ:=Hy (show SpX w (w2.setCells g (k * 8) [Iv (-9 - ((k:Int)+7)),Iv 0,Iv 0,.string ⟨#[]⟩,Iv 0,Sn,Iv 0,Iv 0]) (some g) from (HX.trans (SpX.low aU)).trans ⟨qD _ _ _ _,Shp.sets _ _ _ _⟩)
   clear pY hx aU;go_wp2_with (refine wpList_store_mid rfl tNd (.tmp 14) (.tmp 13) rfl g (k * 8) #[Iv (-9 - ((k:Int)+7)),Iv 0,Iv 0,.string ⟨#[]⟩,Iv 0,Sn,Iv 0,Iv 0] ?hx ?hy ?ht Ej ?h1 ?_)
   case hx=>simp [Act.eval,Act.put]
   case hy=>simp [Act.eval,Act.put]
   case ht=>exact OQ
   case h1=>simp [Value.oneCell']
   clear OQ;go_roundw
   case rel=>exact ⟨k+1,by omega,by go_num,HQ⟩
   case measure=>simp [intOf];omega
  ·obtain rfl:n=k:=by omega
   have HX:=Hy hX;clear hX;go_wp2_with fail;go_end0;exact ⟨rfl,HX⟩
end
section
open Go Go.RowKit Go.Maps
theorem SpX.below {w w':World}{B sz n:Nat}{T:TypeId}{v:Value}(hX:SpX w w' v.ownBlock)(hr:OwW w B T sz v n)(hB:B<=w.heap.size):Below B w w':=by
 obtain ⟨xs,h⟩:=hr;exact ⟨hX.gr.os,hX.gr.tape,hX.gr.output,hX.gr.size,fun k hk=>hX.gr.block k (by omega) (fun e=>by have:=(h.lt k e.symm).1;omega)⟩
structure SpF (B:Nat) (w w':World):Prop where
 low:Below B w w'
 shp:Shp w w'
 oth:∀(k:Nat) (T:TypeId),Kind w k T->T≠aC->T≠tPr->w'.heap[k]? =w.heap[k]?
theorem SpF.refl (B:Nat)(w:World):SpF B w w:=⟨zB _ _,Shp.refl w,fun _ _ _ _ _=>rfl⟩
theorem SpF.trans {B:Nat}{a b c:World}(h:SpF B a b)(h2:SpF B b c):SpF B a c:=
 ⟨h.low.trans h2.low,h.shp.trans h2.shp,fun k T hk h3 h4=>by
  have e:=h.oth k T hk h3 h4;have hk2:Kind b k T:=by obtain ⟨x,fz,q⟩:=hk;exact ⟨x,fz,e.trans q⟩
  exact (h2.oth k T hk2 h3 h4).trans e⟩
theorem SpF.of {w w':World}{B sz n:Nat}{T:TypeId}{v:Value}(hX:SpX w w' v.ownBlock)(hr:OwW w B T sz v n)(hB:B<=w.heap.size)(hT:T=aC∨T=tPr):SpF B w w':=
 ⟨hX.below hr hB,hX.shp,fun k T' hk h1 h2=>hX.gr.block k (by obtain ⟨c,fz,e⟩:=hk;exact (Array.getElem?_eq_some_iff.1 e).1) (fun e=>by
  obtain ⟨xs,h⟩:=hr;have hk2:=ag h e.symm;rcases hT with rfl|rfl
  ·exact au hk2 hk (fun e=>h1 e.symm) rfl
  ·exact au hk2 hk (fun e=>h2 e.symm) rfl)⟩
theorem SpF.row {w w':World}{B B2 sz n:Nat}{T:TypeId}{v:Value}{xs:List Value}(h:SpF B w w')(hr:w.ownsRow B2 T sz v n xs)(h1:T≠aC)(h2:T≠tPr):w'.ownsRow B2 T sz v n xs:=
 FZ hr fun g hg=>h.oth g T (ag hr hg) h1 h2
theorem SpF.blk {w w':World}{B b:Nat}{T:TypeId}{cs:Array Value}(h:SpF B w w')(hb:Blk w b T cs)(h1:T≠aC)(h2:T≠tPr):Blk w' b T cs:=(h.oth b T hb.kind h1 h2).trans hb
theorem SpX.blk {w w':World}{B sz n b:Nat}{T T':TypeId}{v:Value}{cs:Array Value}(hX:SpX w w' v.ownBlock)(hr:OwW w B T sz v n)(hb:Blk w b T' cs)(hT:T≠T'):Blk w' b T' cs:=by
 obtain ⟨xs,h⟩:=hr;exact ak hX.gr hb (fun e=>au (ag h e) hb.kind hT rfl)
theorem CS {B:Nat}{w:World}{gA fA nA:Option Addr}{gc fc nc:Nat}{pg:Pg}{fl:List (Fn'×Value)}{vls:List Value}{ns:List CN}{tr:List (Int×Int)}{vs:List (List Int)}(h:PgC B w gA fA nA gc fc nc pg fl vls ns tr vs)(hB:B<=w.heap.size)
  (kH:pg.g.length<=1000000) (uo:fl.length<=1000000) (mf:ns.length<=1000000) (F9:∀x∈fl,x.1.ps.length<=1000000) (sZ:∀x∈ns,x.kids.length<=1000000) (Bt:∀l∈vs,l.length<=1000000) :
  Calls prog 13 #[pgV gA fA nA pg.g.length gc fl.length fc ns.length nc] w fun e w'=>e=.returned (.tuple #[])/\Below B w w':=by
 obtain ⟨ng,Qe⟩:=zN pg.g.length;obtain ⟨nf,NY⟩:=zN fl.length;obtain ⟨N,OI⟩:=zN ns.length;have hb:Below w.heap.size w (w.alloc (.cells #[.slice gA pg.g.length gc,.slice fA fl.length fc,.slice nA ns.length nc] tPg)):=(zB _ _).alloc (zL _) _;have hk:=Blk.new w tPg #[.slice gA pg.g.length gc,.slice fA fl.length fc,.slice nA ns.length nc];have hg:=ah (aj hb) h.g (by simp)
 have hf:=ah (aj hb) h.f (by simp)
 have hn:=ah (aj hb) h.n (by simp)
 have TW:∀x∈fl,OwW (w.alloc (.cells #[.slice gA pg.g.length gc,.slice fA fl.length fc,.slice nA ns.length nc] tPg)) B tPr 2 x.2 x.1.ps.length:=fun x hx=>⟨_,ah (aj hb) (h.ps x hx) (by simp)⟩
 have Oq:∀x∈ns,OwW (w.alloc (.cells #[.slice gA pg.g.length gc,.slice fA fl.length fc,.slice nA ns.length nc] tPg)) B aC 1 x.v x.kids.length:=fun x hx=>⟨_,ah (aj hb) (h.ks x hx) (by simp)⟩
 have Nk:∀(j:Nat) (v:Value) (l:List Int),vls[j]? =some v->vs[j]? =some l->OwW (w.alloc (.cells #[.slice gA pg.g.length gc,.slice fA fl.length fc,.slice nA ns.length nc] tPg)) B aC 1 v l.length:=fun j v l a b=>⟨_,ah (aj hb) (h.vr j v l a b) (by simp)⟩
 have PU:=h.vl;have Oo:=h.tl;have NP:=h.vn;rw [Qe] at kH;rw [NY] at uo PU NP;rw [OI] at mf Oo;simp only [Qe,NY,OI] at hb hk hg hf hn TW Oq Nk |-;have HX:=Hy8 F9 sZ Bt NY OI PU Oo NP;clear h F9 sZ Bt Qe NY OI PU Oo NP;go_enter func13,ntmps13;go_upto_region 1 with (fail);obtain ⟨H,hH⟩:=zN w.heap.size;rw [hH] at hk;have hBW:=hb.size;generalize w.alloc (.cells #[.slice gA ng gc,.slice fA nf fc,.slice nA N nc] tPg)=W at *;have HR:=Hy7 hg hf hn TW Oq Nk hk;have HB:=Hy (hb.mono hB);have ZO:B<=W.heap.size:=by omega
 have m2:W.cell? ⟨H,2,none⟩=some (.slice nA N nc):=hk.cell 2;have ml:=hk.lt;try simp only [hH]
 clear hb hk hg hf hn TW Oq Nk hBW hH;go_wp2_with fail;go_loopw [2] (fun v wr=>∃k:Nat,k<=N/\v=Iv k/\SpF B W wr) (fun v _=>N - (intOf v).toNat)
 case atStart=>exact ⟨0,by omega,rfl,SpF.refl _ _⟩
 case round=>
  obtain ⟨k,hk,rfl,hF⟩:=hrel;obtain ⟨wo,PT⟩:=zQ wr;subst PT;have MI:=hF.blk HR.out.2.2.2.2.2.2 (by decide) (by decide)
  have m2:wo.cell? ⟨H,2,none⟩=some (.slice nA N nc):=MI.cell 2;have ml:=MI.lt;have hBo:B<=wo.heap.size:=Nat.le_trans ZO hF.low.size;by_cases hlt:k<N
  case pos=>
   obtain ⟨⟨xh,xk,xv⟩,hx⟩:∃x,ns[k]? =some x:=⟨_,List.getElem?_eq_getElem (by have:=HX.out.2.2.2.2.1;omega)⟩
   obtain ⟨t,ht⟩:∃t,tr[k]? =some t:=⟨_,List.getElem?_eq_getElem (by have:=HX.out.2.2.2.2.2.2.1;omega)⟩
   have Si:=zG hx;have Zy:=(HR.out.2.2.2.2.1 _ Si).shp hF.shp;have sZ:=HX.out.2.1 _ Si;simp only at Zy sZ;obtain ⟨kn,Ey⟩:=zN xk.length;rw [Ey] at Zy sZ;obtain ⟨kA,kc,rfl⟩:∃A c,xv=.slice A kn c:=by obtain ⟨xs,q⟩:=Zy;exact (RdS.av q).shape
   have ai:=hF.row HR.out.2.2.1 (by decide) (by decide)
   obtain ⟨g,rfl⟩:=mZ ai (by omega)
   have q5:wo.cell? ⟨g,k * 8+5,none⟩=some (.slice kA kn kc):=by
    rw [ai.cellAt (k * 8+5) (by omega)]
    exact aV ns tr k 5 (by omega) hx ht
   have ql:g<wo.heap.size:=(ag ai rfl).lt;have Qj:(k:Int)<N:=by omega
   have HC:=Hy (zF kn sZ B kA kc wo Zy);have HF:=Hy2 hF Zy;clear hF hx ht Si Zy ai Ey MI;go_wp2_with fail;refine HC.out.mono ?_;clear HC;rintro e w5 ⟨rfl,Tq⟩;have HQ:=Hy (HF.out.1.trans (SpF.of Tq HF.out.2 hBo (.inl rfl)));clear Tq m2 ml q5 ql;go_wp2_with fail;go_roundw
   case rel=>exact ⟨k+1,by omega,by go_num,HQ.out⟩
   case measure=>simp [intOf];omega
  case neg=>
   obtain rfl:N=k:=by omega
   have HF0:=Hy hF;have m1:wo.cell? ⟨H,1,none⟩=some (.slice fA nf fc):=MI.cell 1;clear hF MI;go_wp2_with fail;go_loopw [3] (fun v wr=>∃k:Nat,k<=nf/\v=Iv k/\SpF B W wr) (fun v _=>nf - (intOf v).toNat)
   case atStart=>exact ⟨0,by omega,rfl,HF0.out⟩
   case round=>
    obtain ⟨k,hk,rfl,hF⟩:=hrel;obtain ⟨w1,hw1⟩:=zQ wr;subst hw1;have MI:=hF.blk HR.out.2.2.2.2.2.2 (by decide) (by decide)
    have m0:w1.cell? ⟨H,0,none⟩=some (.slice gA ng gc):=MI.cell 0;have m1:w1.cell? ⟨H,1,none⟩=some (.slice fA nf fc):=MI.cell 1;have ml:=MI.lt;have Vh:B<=w1.heap.size:=Nat.le_trans ZO hF.low.size;by_cases hlt:k<nf
    case pos=>
     obtain ⟨⟨f,pv⟩,hx⟩:∃x,fl[k]? =some x:=⟨_,List.getElem?_eq_getElem (by have:=HX.out.2.2.2.1;omega)⟩
     obtain ⟨v,hv⟩:∃v,vls[k]? =some v:=⟨_,List.getElem?_eq_getElem (by have:=HX.out.2.2.2.2.2.1;omega)⟩
     obtain ⟨l,hl⟩:∃l,vs[k]? =some l:=⟨_,List.getElem?_eq_getElem (by have:=HX.out.2.2.2.2.2.2.2;omega)⟩
     have Si:=zG hx;have TZ:=(HR.out.2.2.2.1 _ Si).shp hF.shp;have WH:=(HR.out.2.2.2.2.2.1 k v l hv hl).shp hF.shp;have F9:=HX.out.1 _ Si;have Uj:=HX.out.2.2.1 _ (zG hl);simp only at TZ F9;obtain ⟨pn,Da⟩:=zN f.ps.length;obtain ⟨ln,Fg⟩:=zN l.length;rw [Da] at TZ F9;rw [Fg] at WH Uj;obtain ⟨pA,pc,rfl⟩:∃A c,pv=.slice A pn c:=by obtain ⟨xs,q⟩:=TZ;exact (RdS.av q).shape
     obtain ⟨vA,vc,rfl⟩:∃A c,v=.slice A ln c:=by obtain ⟨xs,q⟩:=WH;exact (RdS.av q).shape
     have ai:=hF.row HR.out.2.1 (by decide) (by decide)
     obtain ⟨g,rfl⟩:=mZ ai (by omega)
     have q2:w1.cell? ⟨g,k * 6+2,none⟩=some (.slice pA pn pc):=by
      rw [ai.cellAt (k * 6+2) (by omega)]
      exact bQ fl vls k 2 (by omega) hx hv
     have ql:g<w1.heap.size:=(ag ai rfl).lt;have Qj:(k:Int)<nf:=by omega
     have HC:=Hy (Fu pn F9 B pA pc w1 TZ);have HF:=Hy5 hF TZ WH hx hv;clear hF hx hv hl Si TZ WH ai Da Fg MI m0;go_wp2_with fail;refine HC.out.mono ?_;clear HC;rintro e w5 ⟨rfl,Tq⟩;have EG:=HF.out.1.trans (SpF.of Tq HF.out.2.1 Vh (.inr rfl));have MI:=EG.blk HR.out.2.2.2.2.2.2 (by decide) (by decide)
     have m1':w5.cell? ⟨H,1,none⟩=some (.slice (some ⟨g,0,none⟩) nf fc):=MI.cell 1;have Ov:=MI.lt;have ai:=EG.row HR.out.2.1 (by decide) (by decide)
     have q5:w5.cell? ⟨g,k * 6+5,none⟩=some (.slice vA ln vc):=by
      rw [ai.cellAt (k * 6+5) (by omega)]
      exact bQ fl vls k 5 (by omega) HF.out.2.2.2.1 HF.out.2.2.2.2
     have ql':g<w5.heap.size:=(ag ai rfl).lt;have WH:=HF.out.2.2.1.shp Tq.shp;have HC:=Hy (zF ln Uj B vA vc w5 WH);have YJ:B<=w5.heap.size:=Nat.le_trans ZO EG.low.size;have HF5:=Hy2 EG WH;clear Tq EG MI ai WH m1 ml q2 ql;go_wp2_with fail;refine HC.out.mono ?_;clear HC;rintro e w6 ⟨rfl,YB⟩;have HQ:=Hy (HF5.out.1.trans (SpF.of YB HF5.out.2 YJ (.inl rfl)));clear YB m1' Ov q5 ql';go_wp2_with fail;go_roundw
     case rel=>exact ⟨k+1,by omega,by go_num,HQ.out⟩
     case measure=>simp [intOf];omega
    case neg=>
     obtain rfl:nf=k:=by omega
     have hgo:OwW w1 B tGb 4 (.slice gA ng gc) ng:=(show OwW W B tGb 4 (.slice gA ng gc) ng from ⟨_,HR.out.1⟩).shp hF.shp
     have ZE:OwW w1 B tFu 6 (.slice fA nf fc) nf:=(show OwW W B tFu 6 (.slice fA nf fc) nf from ⟨_,HR.out.2.1⟩).shp hF.shp
     have hno:OwW w1 B tNd 8 (.slice nA N nc) N:=(show OwW W B tNd 8 (.slice nA N nc) N from ⟨_,HR.out.2.2.1⟩).shp hF.shp
     have HC:=Hy (Fw ng kH B gA gc w1 hgo);have HF:=Hy5 hF hgo ZE hno MI;clear hF hgo ZE hno MI;go_wp2_with fail;refine HC.out.mono ?_;clear HC;rintro e w5 ⟨rfl,Tq⟩;have LK:=Tq.blk HF.out.2.1 HF.out.2.2.2.2 (by decide)
     have m1':w5.cell? ⟨H,1,none⟩=some (.slice fA nf fc):=LK.cell 1;have Ov:=LK.lt;have hf5:=HF.out.2.2.1.shp Tq.shp;have HC:=Hy (Fx nf uo B fA fc w5 hf5);have qK:=Tq.below HF.out.2.1 Vh;have H5:=Hy4 qK hf5 (HF.out.2.2.2.1.shp Tq.shp) LK;have YJ:B<=w5.heap.size:=Nat.le_trans Vh qK.size;clear Tq LK hf5 qK m0 m1 ml;go_wp2_with fail;refine HC.out.mono ?_;clear HC;rintro e w6 ⟨rfl,YB⟩;have Yg:=YB.blk H5.out.2.1 H5.out.2.2.2 (by decide)
     have m2':w6.cell? ⟨H,2,none⟩=some (.slice nA N nc):=Yg.cell 2;have ml6:=Yg.lt;have X5:=H5.out.2.2.1.shp YB.shp;have HC:=Hy (Fv N mf B nA nc w6 X5);have Hu:=YB.below H5.out.2.1 YJ;have hB6:B<=w6.heap.size:=Nat.le_trans YJ Hu.size;have H6:=Hy2 Hu X5;clear YB Yg X5 Hu m1' Ov;go_wp2_with fail;refine HC.out.mono ?_;clear HC;rintro e w7 ⟨rfl,hX7⟩;have HQ:=Hy (((HB.out.trans HF.out.1.low).trans H5.out.1).trans (H6.out.1.trans (hX7.below H6.out.2 hB6)));clear hX7 m2' ml6;go_wp2_with fail;go_end0;exact ⟨rfl,HQ.out⟩
end
section
open Go Go.RowKit Go.Maps
theorem IA (l:List Int)(n:Nat)(hn:l.length=n)(wW:n<=1000000)(A A':Option Addr)(c c':Nat)(w:World)(h1:RdS w (.slice A n c) n (ints l))(h2:RdS w (.slice A' n c') n (ints l)) :
  Calls prog 101 #[.slice A n c,.slice A' n c'] w fun e w'=>e=.returned (.bool true)/\∃d,w'=w.drewN d:=by
 go_enter func101,ntmps101;go_wp2;go_loopw [5] (fun v wr=>∃k:Nat,k<=n/\v=Iv k/\∃d,wr=w.drewN d) (fun v _=>n - (intOf v).toNat)
 case atStart=>exact ⟨0,by omega,rfl,0,rfl⟩
 case round=>
  obtain ⟨k,hk,rfl,d,rfl⟩:=hrel;by_cases hlt:k<n
  ·obtain ⟨t,ht⟩:∃t,l[k]? =some t:=⟨_,List.getElem?_eq_getElem (by omega)⟩
   have hu:(ints l)[k]? =some (Iv t):=by simp [ints,ht]
   have aD:ints l≠[]:=fun e=>by rw [e] at hu;cases hu
   obtain ⟨g,o,rfl,hg,hx⟩:=h1.get aD;obtain ⟨g',o',rfl,Ir,hy⟩:=h2.get aD;have hx:=hx k _ hu;have hy:=hy k _ hu;clear hu aD ht h1 h2;go_wp2;go_quiet (fail);go_wp2;go_roundw
   case rel=>exact ⟨k+1,by omega,by go_num,_,rfl⟩
   case measure=>simp [intOf];omega
  ·go_wp2
   go_ret;exact ⟨rfl,d,rfl⟩
theorem L8 (ps:List Pm)(n:Nat)(hn:ps.length=n)(wW:n<=1000000)(A A':Option Addr)(c c':Nat)(w:World)(h1:RdS w (.slice A n c) n (ps.flatMap cz))(h2:RdS w (.slice A' n c') n (ps.flatMap cz)) :
  Calls prog 100 #[.slice A n c,.slice A' n c'] w fun e w'=>e=.returned (.bool true)/\∃d,w'=w.drewN d:=by
 go_enter func100,ntmps100;go_wp2;go_loopw [5] (fun v wr=>∃k:Nat,k<=n/\v=Iv k/\∃d,wr=w.drewN d) (fun v _=>n - (intOf v).toNat)
 case atStart=>exact ⟨0,by omega,rfl,0,rfl⟩
 case round=>
  obtain ⟨k,hk,rfl,d,rfl⟩:=hrel;by_cases hlt:k<n
  ·obtain ⟨t,ht⟩:∃t,ps[k]? =some t:=⟨_,List.getElem?_eq_getElem (by omega)⟩
   have hu:∀j,j<2->(ps.flatMap cz)[k * 2+j]? =(cz t)[j]?:=fun j hj=>by rw [aY cz 2 (fun _=>rfl) ps k j hj,ht];rfl
   have u0:(ps.flatMap cz)[k * 2]? =some (Ss t.s):=hu 0 (by omega)
   have u1:(ps.flatMap cz)[k * 2+1]? =some (Iv t.ty):=hu 1 (by omega)
   have aD:ps.flatMap cz≠[]:=fun e=>by rw [e] at u0;cases u0
   obtain ⟨g,o,rfl,hg,hx⟩:=h1.get aD;obtain ⟨g',o',rfl,Ir,hy⟩:=h2.get aD;have x0:w.cell? (Ad g (o+k * 2))=_:=hx _ _ u0;have x1:w.cell? (Ad g (o+k * 2+1))=_:=hx _ _ u1;have y0:w.cell? (Ad g' (o'+k * 2))=_:=hy _ _ u0;have y1:w.cell? (Ad g' (o'+k * 2+1))=_:=hy _ _ u1;clear hu u0 u1 aD ht h1 h2 hx hy;obtain ⟨t1,t2⟩:=t;simp only at x0 x1 y0 y1;go_wp2;go_quiet (fail);go_wp2;go_roundw
   case rel=>exact ⟨k+1,by omega,by go_num,_,rfl⟩
   case measure=>simp [intOf];omega
  ·go_wp2
   go_ret;exact ⟨rfl,d,rfl⟩
theorem Ma (gs:List Gl)(n:Nat)(hn:gs.length=n)(wW:n<=1000000)(A A':Option Addr)(c c':Nat)(w:World)(h1:RdS w (.slice A n c) n (gs.flatMap glC))(h2:RdS w (.slice A' n c') n (gs.flatMap glC)) :
  Calls prog 32 #[.slice A n c,.slice A' n c'] w fun e w'=>e=.returned (.bool true)/\∃d,w'=w.drewN d:=by
 go_enter func32,ntmps32;go_wp2;go_loopw [5] (fun v wr=>∃k:Nat,k<=n/\v=Iv k/\∃d,wr=w.drewN d) (fun v _=>n - (intOf v).toNat)
 case atStart=>exact ⟨0,by omega,rfl,0,rfl⟩
 case round=>
  obtain ⟨k,hk,rfl,d,rfl⟩:=hrel;by_cases hlt:k<n
  ·obtain ⟨t,ht⟩:∃t,gs[k]? =some t:=⟨_,List.getElem?_eq_getElem (by omega)⟩
   have hu:∀j,j<4->(gs.flatMap glC)[k * 4+j]? =(glC t)[j]?:=fun j hj=>by rw [aY glC 4 (fun _=>rfl) gs k j hj,ht];rfl
   have u0:(gs.flatMap glC)[k * 4]? =some (Ss t.s):=hu 0 (by omega)
   have u1:(gs.flatMap glC)[k * 4+1]? =some (Iv t.ty):=hu 1 (by omega)
   have u2:(gs.flatMap glC)[k * 4+2]? =some (Iv t.n):=hu 2 (by omega)
   have u3:(gs.flatMap glC)[k * 4+3]? =some (Iv t.p):=hu 3 (by omega)
   have aD:gs.flatMap glC≠[]:=fun e=>by rw [e] at u0;cases u0
   obtain ⟨g,o,rfl,hg,hx⟩:=h1.get aD;obtain ⟨g',o',rfl,Ir,hy⟩:=h2.get aD;have x0:w.cell? (Ad g (o+k * 4))=_:=hx _ _ u0;have x1:w.cell? (Ad g (o+k * 4+1))=_:=hx _ _ u1;have x2:w.cell? (Ad g (o+k * 4+2))=_:=hx _ _ u2;have x3:w.cell? (Ad g (o+k * 4+3))=_:=hx _ _ u3;have y0:w.cell? (Ad g' (o'+k * 4))=_:=hy _ _ u0;have y1:w.cell? (Ad g' (o'+k * 4+1))=_:=hy _ _ u1;have y2:w.cell? (Ad g' (o'+k * 4+2))=_:=hy _ _ u2;have y3:w.cell? (Ad g' (o'+k * 4+3))=_:=hy _ _ u3;clear hu u0 u1 u2 u3 aD ht h1 h2 hx hy;obtain ⟨t1,t2,t3,t4⟩:=t;simp only at x0 x1 x2 x3 y0 y1 y2 y3;go_wp2;go_quiet (fail);go_wp2;go_roundw
   case rel=>exact ⟨k+1,by omega,by go_num,_,rfl⟩
   case measure=>simp [intOf];omega
  ·go_wp2
   go_ret;exact ⟨rfl,d,rfl⟩
theorem L9 (hh:Hd)(ks:List Nat)(t:Int×Int)(v v':Value)(w:World)(n:Nat)(hn:ks.length=n)(wW:n<=1000000)(h1:RdS w v n (ints (bK ks)))(h2:RdS w v' n (ints (bK ks))) :
  Calls prog 66 #[.agg (aA ⟨hh,ks,v⟩ t).toArray,.agg (aA ⟨hh,ks,v'⟩ t).toArray] w fun e w'=>e=.returned (.bool true)/\Zw w w':=by
 obtain ⟨A,c,rfl⟩:=h1.shape;obtain ⟨A',c',rfl⟩:=h2.shape;obtain ⟨t1,t2⟩:=t;obtain ⟨o1,o2,o3,o4,o5,o6⟩:=hh;unfold aA;simp only;have HR:=Hy3 h1 h2 hn;clear h1 h2 hn;go_enter func66,ntmps66;go_upto_region 1 with (fail);have b1:Blk ((w.alloc (.cells #[Iv o1,Iv o2,Iv o3,Ss o4,Iv o5,.slice A n c,Iv t1,Iv t2] tNd)).alloc (.cells #[Iv o1,Iv o2,Iv o3,Ss o4,Iv o5,.slice A' n c',Iv t1,Iv t2] tNd)) w.heap.size tNd #[Iv o1,Iv o2,Iv o3,Ss o4,Iv o5,.slice A n c,Iv t1,Iv t2]:=(Blk.new w tNd _).alloc _;have b2:=Blk.new (w.alloc (.cells #[Iv o1,Iv o2,Iv o3,Ss o4,Iv o5,.slice A n c,Iv t1,Iv t2] tNd)) tNd #[Iv o1,Iv o2,Iv o3,Ss o4,Iv o5,.slice A' n c',Iv t1,Iv t2];have e2:(w.alloc (.cells #[Iv o1,Iv o2,Iv o3,Ss o4,Iv o5,.slice A n c,Iv t1,Iv t2] tNd)).heap.size=w.heap.size+1:=by simp
 rw [e2] at b2;have hb:Zw w ((w.alloc (.cells #[Iv o1,Iv o2,Iv o3,Ss o4,Iv o5,.slice A n c,Iv t1,Iv t2] tNd)).alloc (.cells #[Iv o1,Iv o2,Iv o3,Ss o4,Iv o5,.slice A' n c',Iv t1,Iv t2] tNd)):=((zB _ _).alloc (zL _) _).alloc (by simp) _
 clear e2;generalize (w.alloc (.cells #[Iv o1,Iv o2,Iv o3,Ss o4,Iv o5,.slice A n c,Iv t1,Iv t2] tNd)).alloc (.cells #[Iv o1,Iv o2,Iv o3,Ss o4,Iv o5,.slice A' n c',Iv t1,Iv t2] tNd)=W at *;obtain ⟨p0,p1,p2,p3,p4,p5,p6,p7,pl⟩:_/\_/\_/\_/\_/\_/\_/\_/\_:=⟨b1.cell 0,b1.cell 1,b1.cell 2,b1.cell 3,b1.cell 4,b1.cell 5,b1.cell 6,b1.cell 7,b1.lt⟩;obtain ⟨q0,q1,q2,q3,q4,q5,q6,q7,ql⟩:_/\_/\_/\_/\_/\_/\_/\_/\_:=⟨b2.cell 0,b2.cell 1,b2.cell 2,b2.cell 3,b2.cell 4,b2.cell 5,b2.cell 6,b2.cell 7,b2.lt⟩;simp only [List.getElem?_toArray,List.getElem?_cons_zero,List.getElem?_cons_succ] at p0 p1 p2 p3 p4 p5 p6 p7 q0 q1 q2 q3 q4 q5 q6 q7;have HB:=Hy hb;have HS:=Hy (IA (bK ks) n (by simpa [bK] using HR.2.2) wW A A' c c' W (HR.1.on hb) (HR.2.1.on hb))
 clear b1 b2 hb;go_wp2_with fail;refine HS.mono ?_;clear HS;rintro e w1 ⟨rfl,d,rfl⟩;go_wp2_with fail;go_ret;exact ⟨rfl,HB.trans (below_drewN _ _ _)⟩
theorem Js (ns ms:List CN)(tr:List (Int×Int))(Eo:ms.map CN.nd=ns.map CN.nd)(Oo:tr.length=ns.length)(N:Nat)(hN:ns.length=N)(Xd:N<=1000000)(A A':Option Addr)(c c':Nat)(w:World)(h1:RdS w (.slice A N c) N (aI ns tr))(h2:RdS w (.slice A' N c') N (aI ms tr))
  (bT:∀x∈ns,RdS w x.v x.kids.length (ints (bK x.kids))) (hk2:∀x∈ms,RdS w x.v x.kids.length (ints (bK x.kids))) (sZ:∀x∈ns,x.kids.length<=1000000) :
  Calls prog 34 #[.slice A N c,.slice A' N c'] w fun e w'=>e=.returned (.bool true)/\Zw w w':=by
 have hM:ms.length=N:=by have h9:=congrArg List.length Eo;rw [List.length_map,List.length_map,hN] at h9;exact h9
 have H:=Hy9 h1 h2 bT hk2 sZ Eo Oo hN hM;clear h1 h2 bT hk2 sZ Eo Oo hN hM;go_enter func34,ntmps34;go_wp2;go_loopw [5] (fun v wr=>∃k:Nat,k<=N/\v=Iv k/\Zw w wr) (fun v _=>N - (intOf v).toNat)
 case atStart=>exact ⟨0,by omega,rfl,zB _ _⟩
 case round=>
  obtain ⟨k,hk,rfl,hb⟩:=hrel;by_cases hlt:k<N
  ·obtain ⟨h1,h2,bT,hk2,sZ,Eo,Oo,hN,hM⟩:=H;obtain ⟨x,hx⟩:∃x,ns[k]? =some x:=⟨_,List.getElem?_eq_getElem (by omega)⟩
   obtain ⟨y,hy⟩:∃y,ms[k]? =some y:=⟨_,List.getElem?_eq_getElem (by omega)⟩
   obtain ⟨t,ht⟩:∃t,tr[k]? =some t:=⟨_,List.getElem?_eq_getElem (by omega)⟩
   have hxy:y.nd=x.nd:=by
    have h9:=congrArg (fun l=>l[k]?) Eo
    simp only [List.getElem?_map,hx,hy,Option.map_some,Option.some.injEq] at h9;exact h9
   have Ab:=fun j hj=>aV ns tr k j hj hx ht
   have IR:=fun j hj=>aV ms tr k j hj hy ht
   have e0:(aI ns tr)[k * 8]? =some (Iv x.h.op):=Ab 0 (by omega)
   have YL:(aI ms tr)[k * 8]? =some (Iv y.h.op):=IR 0 (by omega)
   obtain ⟨g,o,rfl,hg,qi⟩:=(h1.on hb).get (fun e=>by rw [e] at e0;cases e0)
   obtain ⟨g',o',rfl,Ir,pY⟩:=(h2.on hb).get (fun e=>by rw [e] at YL;cases YL)
   have Nu:=(bT x (zG hx)).on hb;have hky:=(hk2 y (zG hy)).on hb;have Ph:=sZ x (zG hx);obtain ⟨xh,xk,xv⟩:=x;obtain ⟨yh,yk,yv⟩:=y;simp only [CN.nd,Nd.mk.injEq] at hxy;obtain ⟨rfl,rfl⟩:=hxy;simp only at Nu hky Ph;obtain ⟨kn,Ey⟩:=zN yk.length;rw [Ey] at Nu hky Ph;obtain ⟨A1,c1,rfl⟩:=Nu.shape;obtain ⟨A2,c2,rfl⟩:=hky.shape;have YY:=Hy (fun (W:World) (hW:Zw wr W)=>L9 yh yk t (.slice A1 kn c1) (.slice A2 kn c2) W kn Ey Ph (Nu.on hW) (hky.on hW))
   obtain ⟨t1,t2⟩:=t;obtain ⟨o1,o2,o3,o4,o5,o6⟩:=yh;unfold aA at YY;simp only at YY;have y0:Ce wr g (o+k * 8) (Iv o1):=qi _ _ (Ab 0 (by omega))
   have y1:Ce wr g (o+k * 8+1) (Iv o2):=qi _ _ (Ab 1 (by omega))
   have y2:Ce wr g (o+k * 8+2) (Iv o3):=qi _ _ (Ab 2 (by omega))
   have y3:Ce wr g (o+k * 8+3) (Ss o4):=qi _ _ (Ab 3 (by omega))
   have y4:Ce wr g (o+k * 8+4) (Iv o5):=qi _ _ (Ab 4 (by omega))
   have y5:Ce wr g (o+k * 8+5) (.slice A1 kn c1):=qi _ _ (Ab 5 (by omega))
   have y6:Ce wr g (o+k * 8+6) (Iv t1):=qi _ _ (Ab 6 (by omega))
   have y7:Ce wr g (o+k * 8+7) (Iv t2):=qi _ _ (Ab 7 (by omega))
   have z0:Ce wr g' (o'+k * 8) (Iv o1):=pY _ _ (IR 0 (by omega))
   have z1:Ce wr g' (o'+k * 8+1) (Iv o2):=pY _ _ (IR 1 (by omega))
   have z2:Ce wr g' (o'+k * 8+2) (Iv o3):=pY _ _ (IR 2 (by omega))
   have z3:Ce wr g' (o'+k * 8+3) (Ss o4):=pY _ _ (IR 3 (by omega))
   have z4:Ce wr g' (o'+k * 8+4) (Iv o5):=pY _ _ (IR 4 (by omega))
   have z5:Ce wr g' (o'+k * 8+5) (.slice A2 kn c2):=pY _ _ (IR 5 (by omega))
   have z6:Ce wr g' (o'+k * 8+6) (Iv t1):=pY _ _ (IR 6 (by omega))
   have z7:Ce wr g' (o'+k * 8+7) (Iv t2):=pY _ _ (IR 7 (by omega))
   have HB:=Hy hb;clear h1 h2 bT hk2 sZ Eo Oo hN hM hx hy ht Ab IR e0 YL qi pY Nu hky Ph Ey hb;go_wp2_with fail;go_region_with (go_at_call 66;refine (YY _ (by first|exact zB _ _|exact bd1 _|exact (bd1 _).drew)).mono ?_;rintro e w1 ⟨rfl,av⟩)
   all_goals
    have bW:Zw w w1:=by first|exact HB.trans (av.mono HB.size)|exact HB.drew.trans (av.mono HB.size)
    have Cb:=Hy bW;clear av bW;go_wp2;go_roundw
    case rel=>exact ⟨k+1,by omega,by go_num,Cb⟩
    case measure=>simp [intOf];omega
  ·go_wp2
   go_ret;exact ⟨rfl,hb⟩
theorem Mc (f:Fn')(pv pv' vv vv':Value)(vl:List Int)(w:World)(n vn:Nat)(hn:f.ps.length=n)(wW:n<=1000000)(NP:vl.length=vn)(XI:vn<=1000000)(h1:RdS w pv n (f.ps.flatMap cz))(h2:RdS w pv' n (f.ps.flatMap cz))(h3:RdS w vv vn (ints vl))(h4:RdS w vv' vn (ints vl)) :
  Calls prog 65 #[.agg (fnC (f,pv) vv).toArray,.agg (fnC (f,pv') vv').toArray] w fun e w'=>e=.returned (.bool true)/\Zw w w':=by
 obtain ⟨A,c,rfl⟩:=h1.shape;obtain ⟨A',c',rfl⟩:=h2.shape;obtain ⟨VA,vc,rfl⟩:=h3.shape;obtain ⟨ZX,Zj,rfl⟩:=h4.shape;obtain ⟨f1,f2,f3,f4,f5⟩:=f;unfold fnC;simp only at h1 h2 hn |-;have HR:=Hy6 h1 h2 h3 h4 hn NP;clear h1 h2 h3 h4 hn NP;go_enter func65,ntmps65;go_upto_region 1 with (fail);have b1:Blk ((w.alloc (.cells #[Ss f1,Iv f2,.slice A n c,Iv (f4:Nat),Iv f5,.slice VA vn vc] tFu)).alloc (.cells #[Ss f1,Iv f2,.slice A' n c',Iv (f4:Nat),Iv f5,.slice ZX vn Zj] tFu)) w.heap.size tFu #[Ss f1,Iv f2,.slice A n c,Iv (f4:Nat),Iv f5,.slice VA vn vc]:=(Blk.new w tFu _).alloc _;have b2:=Blk.new (w.alloc (.cells #[Ss f1,Iv f2,.slice A n c,Iv (f4:Nat),Iv f5,.slice VA vn vc] tFu)) tFu #[Ss f1,Iv f2,.slice A' n c',Iv (f4:Nat),Iv f5,.slice ZX vn Zj];have e2:(w.alloc (.cells #[Ss f1,Iv f2,.slice A n c,Iv (f4:Nat),Iv f5,.slice VA vn vc] tFu)).heap.size=w.heap.size+1:=by simp
 rw [e2] at b2;have hb:Zw w ((w.alloc (.cells #[Ss f1,Iv f2,.slice A n c,Iv (f4:Nat),Iv f5,.slice VA vn vc] tFu)).alloc (.cells #[Ss f1,Iv f2,.slice A' n c',Iv (f4:Nat),Iv f5,.slice ZX vn Zj] tFu)):=((zB _ _).alloc (zL _) _).alloc (by simp) _
 clear e2;generalize (w.alloc (.cells #[Ss f1,Iv f2,.slice A n c,Iv (f4:Nat),Iv f5,.slice VA vn vc] tFu)).alloc (.cells #[Ss f1,Iv f2,.slice A' n c',Iv (f4:Nat),Iv f5,.slice ZX vn Zj] tFu)=W at *;obtain ⟨p0,p1,p2,p3,p4,p5,pl⟩:_/\_/\_/\_/\_/\_/\_:=⟨b1.cell 0,b1.cell 1,b1.cell 2,b1.cell 3,b1.cell 4,b1.cell 5,b1.lt⟩;obtain ⟨q0,q1,q2,q3,q4,q5,ql⟩:_/\_/\_/\_/\_/\_/\_:=⟨b2.cell 0,b2.cell 1,b2.cell 2,b2.cell 3,b2.cell 4,b2.cell 5,b2.lt⟩;simp only [List.getElem?_toArray,List.getElem?_cons_zero,List.getElem?_cons_succ] at p0 p1 p2 p3 p4 p5 q0 q1 q2 q3 q4 q5;have HB:=Hy hb;have HS:=Hy (L8 f3 n HR.2.2.2.2.1 wW A A' c c' W (HR.1.on hb) (HR.2.1.on hb));have qh:Hid (∀d,Calls prog 101 #[.slice VA vn vc,.slice ZX vn Zj] (W.drewN d) fun e w'=>e=.returned (.bool true)/\∃d',w'=(W.drewN d).drewN d'):=Hy fun d=>
  IA vl vn HR.2.2.2.2.2 XI VA ZX vc Zj _ ((HR.2.2.1.on hb).on (below_drewN _ _ _)) ((HR.2.2.2.1.on hb).on (below_drewN _ _ _))
 clear b1 b2 hb;go_wp2_with fail;refine HS.mono ?_;clear HS;rintro e w1 ⟨rfl,d,rfl⟩;go_wp2_with fail;refine (qh d).mono ?_;clear qh;rintro e w2 ⟨rfl,d',rfl⟩;go_wp2_with fail;go_ret;first
  |exact ⟨rfl,HB.trans (below_drewN _ _ _)⟩
  |exact ⟨rfl,(HB.trans (below_drewN _ _ _)).trans (below_drewN _ _ _)⟩
theorem Jt (fl ml:List (Fn'×Value))(vls yB:List Value)(vs:List (List Int))(Ke:ml.map (·.1)=fl.map (·.1))(N:Nat)(hN:fl.length=N)(Xd:N<=1000000)(Bt:vls.length=N)(PD:yB.length=N)(Gv:vs.length=N)(A A':Option Addr)(c c':Nat)(w:World)(h1:RdS w (.slice A N c) N (dE fl vls))(h2:RdS w (.slice A' N c') N (dE ml yB))
  (Lt:∀x∈fl,RdS w x.2 x.1.ps.length (x.1.ps.flatMap cz)) (Qd:∀x∈ml,RdS w x.2 x.1.ps.length (x.1.ps.flatMap cz)) (Rl:∀(j:Nat) (v:Value) (l:List Int),vls[j]? =some v->vs[j]? =some l->RdS w v l.length (ints l)) (CY:∀(j:Nat) (v:Value) (l:List Int),yB[j]? =some v->vs[j]? =some l->RdS w v l.length (ints l))
  (F9:∀x∈fl,x.1.ps.length<=1000000) (NU:∀l∈vs,l.length<=1000000) :
  Calls prog 33 #[.slice A N c,.slice A' N c'] w fun e w'=>e=.returned (.bool true)/\Zw w w':=by
 have hM:ml.length=N:=by have h9:=congrArg List.length Ke;rw [List.length_map,List.length_map,hN] at h9;exact h9
 have H:=Hy14 h1 h2 Lt Qd Rl CY F9 NU Ke hN hM Bt PD Gv;clear h1 h2 Lt Qd Rl CY F9 NU Ke hN hM Bt PD Gv;go_enter func33,ntmps33;go_wp2;go_loopw [5] (fun v wr=>∃k:Nat,k<=N/\v=Iv k/\Zw w wr) (fun v _=>N - (intOf v).toNat)
 case atStart=>exact ⟨0,by omega,rfl,zB _ _⟩
 case round=>
  obtain ⟨k,hk,rfl,hb⟩:=hrel;by_cases hlt:k<N
  ·obtain ⟨h1,h2,Lt,Qd,Rl,CY,F9,NU,Ke,hN,hM,Bt,PD,Gv⟩:=H;obtain ⟨x,hx⟩:∃x,fl[k]? =some x:=⟨_,List.getElem?_eq_getElem (by omega)⟩
   obtain ⟨y,hy⟩:∃y,ml[k]? =some y:=⟨_,List.getElem?_eq_getElem (by omega)⟩
   obtain ⟨v,hv⟩:∃v,vls[k]? =some v:=⟨_,List.getElem?_eq_getElem (by omega)⟩
   obtain ⟨u,hu⟩:∃u,yB[k]? =some u:=⟨_,List.getElem?_eq_getElem (by omega)⟩
   obtain ⟨l,hl⟩:∃l,vs[k]? =some l:=⟨_,List.getElem?_eq_getElem (by omega)⟩
   have hxy:y.1=x.1:=by
    have h9:=congrArg (fun l=>l[k]?) Ke
    simp only [List.getElem?_map,hx,hy,Option.map_some,Option.some.injEq] at h9;exact h9
   have Ab:=fun j hj=>bQ fl vls k j hj hx hv
   have IR:=fun j hj=>bQ ml yB k j hj hy hu
   have e0:(dE fl vls)[k * 6]? =some (Ss x.1.s):=Ab 0 (by omega)
   have YL:(dE ml yB)[k * 6]? =some (Ss y.1.s):=IR 0 (by omega)
   obtain ⟨g,o,rfl,hg,qi⟩:=(h1.on hb).get (fun e=>by rw [e] at e0;cases e0)
   obtain ⟨g',o',rfl,Ir,pY⟩:=(h2.on hb).get (fun e=>by rw [e] at YL;cases YL)
   have TV:=(Lt x (zG hx)).on hb;have hpy:=(Qd y (zG hy)).on hb;have VD:=(Rl k v l hv hl).on hb;have hvy:=(CY k u l hu hl).on hb;have O9:=F9 x (zG hx);have QP:=NU l (zG hl);obtain ⟨xf,xp⟩:=x;obtain ⟨yf,yp⟩:=y;simp only at hxy;subst hxy;simp only at TV hpy O9;obtain ⟨pn,Da⟩:=zN yf.ps.length;obtain ⟨vn,NP⟩:=zN l.length;rw [Da] at TV hpy O9;rw [NP] at VD hvy QP;obtain ⟨A1,c1,rfl⟩:=TV.shape;obtain ⟨A2,c2,rfl⟩:=hpy.shape;obtain ⟨V1,d1,rfl⟩:=VD.shape;obtain ⟨V2,d2,rfl⟩:=hvy.shape;have YY:=Hy (fun (W:World) (hW:Zw wr W)=>Mc yf (.slice A1 pn c1) (.slice A2 pn c2) (.slice V1 vn d1) (.slice V2 vn d2) l W pn vn Da O9 NP QP (TV.on hW) (hpy.on hW) (VD.on hW) (hvy.on hW))
   obtain ⟨f1,f2,f3,f4,f5⟩:=yf;unfold fnC at YY;simp only at YY;have y0:Ce wr g (o+k * 6) (Ss f1):=qi _ _ (Ab 0 (by omega))
   have y1:Ce wr g (o+k * 6+1) (Iv f2):=qi _ _ (Ab 1 (by omega))
   have y2:Ce wr g (o+k * 6+2) (.slice A1 pn c1):=qi _ _ (Ab 2 (by omega))
   have y3:Ce wr g (o+k * 6+3) (Iv (f4:Nat)):=qi _ _ (Ab 3 (by omega))
   have y4:Ce wr g (o+k * 6+4) (Iv f5):=qi _ _ (Ab 4 (by omega))
   have y5:Ce wr g (o+k * 6+5) (.slice V1 vn d1):=qi _ _ (Ab 5 (by omega))
   have z0:Ce wr g' (o'+k * 6) (Ss f1):=pY _ _ (IR 0 (by omega))
   have z1:Ce wr g' (o'+k * 6+1) (Iv f2):=pY _ _ (IR 1 (by omega))
   have z2:Ce wr g' (o'+k * 6+2) (.slice A2 pn c2):=pY _ _ (IR 2 (by omega))
   have z3:Ce wr g' (o'+k * 6+3) (Iv (f4:Nat)):=pY _ _ (IR 3 (by omega))
   have z4:Ce wr g' (o'+k * 6+4) (Iv f5):=pY _ _ (IR 4 (by omega))
   have z5:Ce wr g' (o'+k * 6+5) (.slice V2 vn d2):=pY _ _ (IR 5 (by omega))
   have HB:=Hy hb;clear h1 h2 Lt Qd Rl CY F9 NU Ke hN hM Bt PD Gv hx hy hv hu hl Ab IR e0 YL qi pY TV hpy VD hvy O9 QP Da NP hb;go_wp2_with fail;go_region_with (go_at_call 65;refine (YY _ (by first|exact zB _ _|exact bd1 _|exact (bd1 _).drew)).mono ?_;rintro e w1 ⟨rfl,av⟩)
   all_goals
    have bW:Zw w w1:=by first|exact HB.trans (av.mono HB.size)|exact HB.drew.trans (av.mono HB.size)
    have Cb:=Hy bW;clear av bW;go_wp2;go_roundw
    case rel=>exact ⟨k+1,by omega,by go_num,Cb⟩
    case measure=>simp [intOf];omega
  ·go_wp2
   go_ret;exact ⟨rfl,hb⟩
theorem Jr {gs:List Gl}{fl ml:List (Fn'×Value)}{vls yB:List Value}{ns ms:List CN}{tr:List (Int×Int)}{vs:List (List Int)}{gA fA nA gA' yP zZ:Option Addr}{gc fc nc gc' xS yG:Nat}{w:World}(h:PgR w gA fA nA gc fc nc gs fl vls ns tr vs)(h':PgR w gA' yP zZ gc' xS yG gs ml yB ms tr vs)
  (Ke:ml.map (·.1)=fl.map (·.1)) (Eo:ms.map CN.nd=ns.map CN.nd) (kH:gs.length<=1000000) (uo:fl.length<=1000000) (mf:ns.length<=1000000) (F9:∀x∈fl,x.1.ps.length<=1000000) (sZ:∀x∈ns,x.kids.length<=1000000) (Bt:∀l∈vs,l.length<=1000000) :
  Calls prog 12 #[pgV gA fA nA gs.length gc fl.length fc ns.length nc,pgV gA' yP zZ gs.length gc' ml.length xS ms.length yG] w fun e w'=>e=.returned (.bool true)/\Zw w w':=by
 have Uk:ml.length=fl.length:=by have h:=congrArg List.length Ke;rw [List.length_map,List.length_map] at h;exact h
 have Fg:ms.length=ns.length:=by have h:=congrArg List.length Eo;rw [List.length_map,List.length_map] at h;exact h
 have h1f:=h.pi.f;have h2f:=h'.pi.f;have h1g:=h.pi.g;have h2g:=h'.pi.g;have h1n:=h.pi.n;have h2n:=h'.pi.n;rw [Uk] at h2f |-;rw [Fg] at h2n |-;obtain ⟨ng,Qe⟩:=zN gs.length;obtain ⟨nf,NY⟩:=zN fl.length;obtain ⟨N,OI⟩:=zN ns.length;rw [Qe] at h1g h2g kH |-;rw [NY] at h1f h2f uo |-;rw [OI] at h1n h2n mf |-;have HC:Hid ((∀W,Zw w W->Calls prog 32 #[.slice gA ng gc,.slice gA' ng gc'] W fun e w'=>e=.returned (.bool true)/\∃d,w'=W.drewN d)/\
   (∀W,Zw w W->Calls prog 33 #[.slice fA nf fc,.slice yP nf xS] W fun e w'=>e=.returned (.bool true)/\Zw W w')/\
   (∀W,Zw w W->Calls prog 34 #[.slice nA N nc,.slice zZ N yG] W fun e w'=>e=.returned (.bool true)/\Zw W w')):=by
  refine Hy ⟨fun W hW=>?_,fun W hW=>?_,fun W hW=>?_⟩
  ·exact Ma gs ng Qe kH gA gA' gc gc' W (h1g.on hW) (h2g.on hW)
  ·exact Jt fl ml vls yB vs Ke nf NY uo (by rw [h.pi.vl,NY]) (by rw [h'.pi.vl,Uk,NY]) (by rw [h.vn,NY]) fA yP fc xS W (h1f.on hW) (h2f.on hW) (fun x hx=>(h.pi.ps x hx).on hW) (fun x hx=>(h'.pi.ps x hx).on hW) (fun j v l a b=>(h.vr j v l a b).on hW) (fun j v l a b=>(h'.vr j v l a b).on hW) F9 Bt
  ·exact Js ns ms tr Eo h.pi.tl N OI mf nA zZ nc yG W (h1n.on hW) (h2n.on hW) (fun x hx=>(h.pi.ks x hx).on hW) (fun x hx=>(h'.pi.ks x hx).on hW) sZ
 clear h h' Ke Eo kH uo mf F9 sZ Bt Uk Fg h1f h2f h1g h2g h1n h2n Qe NY OI;go_enter func12,ntmps12;go_upto_region 1 with (fail);have b1:Blk ((w.alloc (.cells #[.slice gA ng gc,.slice fA nf fc,.slice nA N nc] aK)).alloc (.cells #[.slice gA' ng gc',.slice yP nf xS,.slice zZ N yG] aK)) w.heap.size aK #[.slice gA ng gc,.slice fA nf fc,.slice nA N nc]:=(Blk.new w aK _).alloc _;have b2:=Blk.new (w.alloc (.cells #[.slice gA ng gc,.slice fA nf fc,.slice nA N nc] aK)) aK #[.slice gA' ng gc',.slice yP nf xS,.slice zZ N yG];have e2:(w.alloc (.cells #[.slice gA ng gc,.slice fA nf fc,.slice nA N nc] aK)).heap.size=w.heap.size+1:=by simp
 rw [e2] at b2;have hb:Zw w ((w.alloc (.cells #[.slice gA ng gc,.slice fA nf fc,.slice nA N nc] aK)).alloc (.cells #[.slice gA' ng gc',.slice yP nf xS,.slice zZ N yG] aK)):=((zB _ _).alloc (zL _) _).alloc (by simp) _
 clear e2;generalize (w.alloc (.cells #[.slice gA ng gc,.slice fA nf fc,.slice nA N nc] aK)).alloc (.cells #[.slice gA' ng gc',.slice yP nf xS,.slice zZ N yG] aK)=W at *;obtain ⟨p0,p1,p2,pl⟩:_/\_/\_/\_:=⟨b1.cell 0,b1.cell 1,b1.cell 2,b1.lt⟩;obtain ⟨q0,q1,q2,ql⟩:_/\_/\_/\_:=⟨b2.cell 0,b2.cell 1,b2.cell 2,b2.lt⟩;simp only [List.getElem?_toArray,List.getElem?_cons_zero,List.getElem?_cons_succ] at p0 p1 p2 q0 q1 q2;have HB:=Hy hb;have B1:=Hy b1;have B2:=Hy b2;clear hb b1 b2;go_wp2_with fail;refine (HC.1 W HB).mono ?_;rintro e w1 ⟨rfl,d,rfl⟩;have iK:=Hy (HB.trans (below_drewN w.heap.size W d));go_wp2_with fail;refine (HC.2.1 _ iK).mono ?_;rintro e w2 ⟨rfl,aU⟩;have b1:Blk w2 w.heap.size aK #[.slice gA ng gc,.slice fA nf fc,.slice nA N nc]:=(aU.block _ B1.out.lt).trans B1.out;have b2:Blk w2 (w.heap.size+1) aK #[.slice gA' ng gc',.slice yP nf xS,.slice zZ N yG]:=(aU.block _ B2.out.lt).trans B2.out;have s2:Ce w2 w.heap.size 2 (.slice nA N nc):=b1.cell 2;have sl:=b1.lt;have t2:Ce w2 (w.heap.size+1) 2 (.slice zZ N yG):=b2.cell 2;have tl:=b2.lt;have Nc:=Hy (iK.trans (aU.mono iK.size));clear aU b1 b2;go_wp2_with fail;refine (HC.2.2 _ Nc).mono ?_;rintro e w3 ⟨rfl,lW⟩;have QB:=Hy (Nc.trans (lW.mono Nc.size));clear lW;go_wp2_with fail;go_ret;exact ⟨rfl,QB⟩
end
end Go.Proofs.YtcchdlnfeijinaaGreatDoor
