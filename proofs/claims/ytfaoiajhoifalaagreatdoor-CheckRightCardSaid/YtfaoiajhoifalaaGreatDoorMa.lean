/-
  Layer parse: a function. Layer parse: lists of globals and of functions that grow. Layer parse: a new reader. Layer parse: a program. Layer parse: Parse. Layer parse: Parse, of any tokens.
-/
import Derived.Test.YtfaoiajhoifalaaGreatDoorPaza
import Derived.Test.YtfaoiajhoifalaaGreatDoorPaz
import Derived.Deep.Cut
import Derived.Test.YtfaoiajhoifalaaGreatDoorPary
import Derived.Deep.RegionLaw
import Derived.Defers
import Derived.Recover
import Derived.Laws.Pointers
/-! Pazb -/
namespace Go.Proofs.YtfaoiajhoifalaaGreatDoor
open Go.RowKit
set_option linter.unusedVariables false
set_option linter.unusedSimpArgs false

abbrev tFn : TypeId := 42
def fnA (f : Fn') (pv : Value) (b : Nat) : Array Value := #[.string (str f.s), .int .i64 f.ty, pv, .int .i64 (b : Nat), .int .i64 f.p, .slice none 0 0]
def fnV (f : Fn') (pv : Value) (b : Nat) : Value := .agg (fnA f pv b)
theorem fnInfo : (Tryz.prog.info? tFn).map (·.size) = some 6 := by kernel_rfl
def fz : Fn' := ⟨[], 0, [], 0, 0⟩
theorem ret_fn {fn : Func} {R : Ending → World → Prop} {a : Act} {w : World} {b : Nat} {p : Nat} {x : Fn'} {pv : Value} {k : Nat} {T : TypeId} {fr : Nat × Nat} (hf : fn.results = #[.cell p tFn]) (hd : a.defers = [])
    (h2 : a.tmps.getD p undef = .pointer (some ⟨b, 0, none⟩)) (hb : w.heap[b]? = some (.cells (fnA x pv k) T fr))
    (hR : R (.returned (fnV x pv k)) w) : bodyPost Tryz.prog fn R .ret a w :=
  bodyPost_ret (v := fnV x pv k) (results_cell_row hf _ _ b T _ fr _ h2 hb Tryz.underlying42 rfl fnInfo) hd hR
theorem Blk.fn {W : World} {j : Nat} {T : TypeId} {f : Fn'} {pv : Value} {k : Nat} (h : Blk W j T (fnA f pv k)) :
    (W.cell? ⟨j, 0, none⟩ = some (.string (str f.s)) ∧ W.cell? ⟨j, 1, none⟩ = some (.int .i64 f.ty) ∧ W.cell? ⟨j, 2, none⟩ = some pv ∧ W.cell? ⟨j, 3, none⟩ = some (.int .i64 (k : Nat)) ∧ W.cell? ⟨j, 4, none⟩ = some (.int .i64 f.p) ∧ W.cell? ⟨j, 5, none⟩ = some (.slice none 0 0)) ∧ j < W.heap.size ∧
    (W.frozen? ⟨j, 0, none⟩ = false ∧ W.frozen? ⟨j, 1, none⟩ = false ∧ W.frozen? ⟨j, 2, none⟩ = false ∧ W.frozen? ⟨j, 3, none⟩ = false ∧ W.frozen? ⟨j, 4, none⟩ = false ∧ W.frozen? ⟨j, 5, none⟩ = false) :=
  ⟨⟨h.cell 0, h.cell 1, h.cell 2, h.cell 3, h.cell 4, h.cell 5⟩, h.lt, h.frozen 0, h.frozen 1, h.frozen 2, h.frozen 3, h.frozen 4, h.frozen 5⟩

/-- A function's parameters in memory. -/
def PmS (X : Rdr) (w W : World) (pv : Value) (l : List Pm) : Prop := (l = [] ∧ pv = .slice none 0 0) ∨ ∃ g n cp, pv = .slice (some ⟨g, 0, none⟩) n cp ∧ AccP X w W g n cp l
theorem AccP.far {X : Rdr} {w W : World} {g n cp : Nat} {l : List Pm} (h : AccP X w W g n cp l) {j : Nat} (hne : g ≠ j) (o : Nat) (x : Value) : AccP X w (W.setCell ⟨j, o, none⟩ x) g n cp l :=
  ⟨row_keep h.row fun i hi => Below.heap_setCell W ⟨j, o, none⟩ x i (by simp [Value.ownBlock] at hi; rw [← hi]; exact hne), h.new⟩
theorem AccP.old {X : Rdr} {w W0 W : World} {g n cp : Nat} {l : List Pm} (h : AccP X W0 W g n cp l) (hs : w.heap.size ≤ W0.heap.size) : AccP X w W g n cp l := ⟨h.row, Nat.le_trans hs h.new⟩
theorem PmS.far {X : Rdr} {w W : World} {pv : Value} {l : List Pm} (h : PmS X w W pv l) {j : Nat} (hne : ∀ g, pv.ownBlock = some g → g ≠ j) (o : Nat) (x : Value) : PmS X w (W.setCell ⟨j, o, none⟩ x) pv l :=
  h.imp id fun ⟨g, n, cp, h1, h2⟩ => ⟨g, n, cp, h1, h2.far (hne g (by rw [h1]; rfl)) o x⟩
theorem PmS.kept {X : Rdr} {w W W' : World} {s : St} {ns : List NV} {u u' pv : Value} {l : List Pm} (h : PmS X w W pv l) (hA : At X W s ns u) (hk : Kp X W u W' u') : PmS X w W' pv l :=
  h.imp id fun ⟨g, n, cp, h1, h2⟩ => ⟨g, n, cp, h1, h2.kept hA hk⟩
theorem below_setRow {B : Nat} (W : World) (j : Nat) (cs : Array Value) (h : B ≤ j) : Below B W (W.setRow j cs) := ⟨rfl, rfl, rfl, by simp, fun k hk => setRow_other W j k cs (by omega)⟩
theorem Cur.row_ {X : Rdr} {w W : World} {v u : Value} {s : St} {ns : List NV} {j : Nat} {t : TypeId} {cs : Array Value} (h : Cur X w v W s ns u) (hl : Loc X W u j t cs) (hw : w.heap.size ≤ j) (ht : t ≠ tR ∧ t ≠ tI) (cs' : Array Value) : Cur X w v (W.setRow j cs') s ns u where
  at_ := h.at_.far hl.blk ht hl.base hl.neo (fun g _ hne => setRow_other W j g cs' hne) (by simp)
  kp := h.kp.down (below_setRow W j cs' hw)
  low := h.low.trans (below_setRow W j cs' hl.base)
theorem AccP.row_ {X : Rdr} {w W : World} {g n cp : Nat} {l : List Pm} (h : AccP X w W g n cp l) {j : Nat} (hne : g ≠ j) (cs : Array Value) : AccP X w (W.setRow j cs) g n cp l :=
  ⟨row_keep h.row fun i hi => setRow_other W j i cs (by simp [Value.ownBlock] at hi; omega), h.new⟩
theorem PmS.row_ {X : Rdr} {w W : World} {pv : Value} {l : List Pm} (h : PmS X w W pv l) {j : Nat} (hne : ∀ g, pv.ownBlock = some g → g ≠ j) (cs : Array Value) : PmS X w (W.setRow j cs) pv l :=
  h.imp id fun ⟨g, n, cp, h1, h2⟩ => ⟨g, n, cp, h1, h2.row_ (hne g (by rw [h1]; rfl)) cs⟩
/-- The answer of a function: its tree's nodes are finished; its parameters lie in new memory. -/
def RFn (X : Rdr) (w : World) (ns : List NV) (v : Value) (R : Rs (Fn' × Fo)) (e : Ending) (w' : World) : Prop :=
  match R with
  | .ok x s => ∃ v' nk pv, e = .returned (fnV x.1 pv x.1.b) ∧ PmS X w w' pv x.1.ps ∧ At X w' s (ns ++ nk) v' ∧ Kp X w v w' v' ∧ Fl w nk x.2 ns.length
  | .er no p => e = Pan no p ∧ Below X.base w w'
  | .out => False
theorem RP.cases {X : Rdr} {w : World} {ns : List NV} {v : Value} {R : Rs (List Pm)} {e : Ending} {w' : World} (h : RP X w ns v R e w') :
    (∃ no p, R = .er no p ∧ e = .panicked [{ v := .iface tF (faultV no p), recovered := false }] ∧ Below X.base w w') ∨ (∃ l s' g n cp, R = .ok l s' ∧ e = .returned (.slice (some ⟨g, 0, none⟩) n cp) ∧ Cur X w v w' s' ns v ∧ AccP X w w' g n cp l) := by
  cases R with
  | ok a s' => obtain ⟨g, n, cp, h1, h2, h3⟩ := h; exact .inr ⟨a, s', g, n, cp, rfl, h1, h2, h3⟩
  | er no p => exact .inl ⟨no, p, rfl, h⟩
  | out => exact h.elim

set_option maxHeartbeats 4000000 in
set_option maxRecDepth 100000 in
theorem function_any {X : Rdr} {es : Array MapEntry} {clock : Nat} (hmo : X.mo = .map es clock) (hes : es.toList = stEs) (k : Nat) {w : World} {s : St} {ns : List NV} {v : Value} (h : At X w s ns v) (kind : Int) (t : Tok) (hno : functionM X.e k kind t s ≠ .out) :
    Calls Tryz.prog 83 #[rd X, .int .i64 kind, tokV t] w (RFn X w ns v (functionM X.e k kind t s)) := by
  have h0 := Cur.start h
  have C0 := Lib.hid ((h0.alloc (.cells (tokA t) tE)).alloc (.cells (fnA fz (.slice none 0 0) 0) tFn))
  have R0 := Lib.hid ((h0.alloc (.cells (tokA t) tE)).new tFn (fnA fz (.slice none 0 0) 0))
  have T0 := Lib.hid ((h0.new tE (tokA t)).alloc (.cells (fnA fz (.slice none 0 0) 0) tFn))
  have e1 : (w.alloc (.cells (tokA t) tE)).heap.size = w.heap.size + 1 := by simp
  rw [e1] at R0
  have hdef : functionM X.e k kind t s = (must X.e [40] s).bind fun _ s => (if isT X.e [41] s then Rs.ok [] s else paramsM X.e k s).bind fun ps s =>
    (must X.e [41] s).bind fun _ s => (blockB X.e (run X.e k) 1 s).bind fun b s => .ok (⟨t.s, kind, ps, s.c - 1, t.p⟩, b) s := rfl
  obtain ⟨M, hM⟩ : ∃ M, functionM X.e k kind t s = M := ⟨_, rfl⟩
  rw [hM] at hdef hno ⊢
  have HM := Lib.hid hdef
  have HMo := Lib.hid hno
  clear h hM e1 hdef hno h0
  rw [str_eta]
  go_enter Tryz.func83, Tryz.ntmps83
  go_wp2_with fail
  refine (c_must C0.out (by simp) [40] (by simp)).mono ?_
  intro e w1 hR
  rcases hR.cases with ⟨no, p, hm, rfl, hb⟩ | ⟨a1, s1, hm, rfl, hC, hK⟩
  · have HE : M = .er no p := by rw [HM.out]; simp only [hm, Rs.bind_ok, Rs.bind_er]
    have HH := Lib.hid (And.intro HE hb)
    clear HE hb hm
    go_wp2_with fail
    refine panic_end rfl ?_
    rw [HH.out.1]
    exact ⟨rfl, HH.out.2⟩
  have HM1 : Hid (M = (if isT X.e [41] s1 then Rs.ok [] s1 else paramsM X.e k s1).bind fun ps s =>
    (must X.e [41] s).bind fun _ s => (blockB X.e (run X.e k) 1 s).bind fun b s => .ok (⟨t.s, kind, ps, s.c - 1, t.p⟩, b) s) := Lib.hid (by rw [HM.out, hm]; rfl)
  have hwl : w.heap.size + 1 + 1 ≤ w1.heap.size := by have := hK.size; simp at this; omega
  have C1 := Lib.hid (hC.alloc (.cells (fnA ⟨t.s, kind, [], 0, t.p⟩ (.slice none 0 0) 0) tFn))
  have R1 := Lib.hid ((R0.out.kept hK).alloc (.cells (fnA ⟨t.s, kind, [], 0, t.p⟩ (.slice none 0 0) 0) tFn))
  have N1 := Lib.hid (hC.new tFn (fnA ⟨t.s, kind, [], 0, t.p⟩ (.slice none 0 0) 0))
  obtain ⟨T1, T2, T3, T4, T5⟩ := (T0.out.kept hK).blk.tok
  clear hm hC hK hR
  go_wp2_with fail
  clear T1 T2 T3 T4 T5
  refine (c_is C1.out [41]).mono ?_
  rintro e w2 ⟨rfl, hC, hK⟩
  have C2 := Lib.hid hC
  have R2 := Lib.hid (R1.out.kept hK)
  have N2 := Lib.hid (N1.out.kept hK)
  clear hC hK
  cases hq : isT X.e [41] s1
  · have hq0 := hq
    have hno2 : paramsM X.e k s1 ≠ .out := fun e => HMo.out (by rw [HM1.out, if_neg (by simp [hq0]), e]; rfl)
    have HP2 := Lib.hid hno2
    clear hno2
    obtain ⟨-, Ncl, -⟩ := N2.out.blk.fn
    go_wp2_with fail
    refine (params_any k C2.out.at_ HP2.out).mono ?_
    intro e w3 hR
    rcases hR.cases with ⟨no, p, hm, rfl, hb⟩ | ⟨l, s3, g, n, cp, hm, rfl, hC, hA⟩
    · have HE : M = .er no p := by rw [HM1.out, if_neg (by simp [hq0]), hm]; rfl
      have HH := Lib.hid (And.intro HE (C2.out.low.trans hb))
      clear HE hb hm
      go_wp2_with fail
      refine panic_end rfl ?_
      rw [HH.out.1]
      exact ⟨rfl, HH.out.2⟩
    have MX : Hid (M = (must X.e [41] s3).bind fun _ s => (blockB X.e (run X.e k) 1 s).bind fun b s => .ok (⟨t.s, kind, l, s.c - 1, t.p⟩, b) s) := Lib.hid (by rw [HM1.out, if_neg (by simp [hq0]), hm]; rfl)
    have hgj : w1.heap.size < g := Nat.lt_of_lt_of_le Ncl hA.new
    have C3 := Lib.hid (C2.out.step hC.at_ hC.kp)
    have N3 := Lib.hid (N2.out.kept hC.kp)
    have CX := Lib.hid (C3.out.set_ N3.out (by omega) (by decide) 2 (.slice (some ⟨g, 0, none⟩) n cp))
    have NX : Hid (Loc X _ v w1.heap.size tFn (fnA ⟨t.s, kind, [], 0, t.p⟩ (.slice (some ⟨g, 0, none⟩) n cp) 0)) := Lib.hid (N3.out.set_ 2 (.slice (some ⟨g, 0, none⟩) n cp))
    have RX := Lib.hid ((R2.out.kept hC.kp).far (by omega) 2 (.slice (some ⟨g, 0, none⟩) n cp) : Loc X (w3.setCell ⟨w1.heap.size, 2, none⟩ (.slice (some ⟨g, 0, none⟩) n cp)) v (w.heap.size + 1) tFn (fnA fz (.slice none 0 0) 0))
    have PX : Hid (PmS X w (w3.setCell ⟨w1.heap.size, 2, none⟩ (.slice (some ⟨g, 0, none⟩) n cp)) (.slice (some ⟨g, 0, none⟩) n cp) l) := Lib.hid (.inr ⟨g, n, cp, rfl, (hA.old C2.out.kp.size).far (by omega) 2 _⟩)
    have GX : Hid (∀ g', (Value.slice (some ⟨g, 0, none⟩) n cp).ownBlock = some g' → g' ≠ w1.heap.size ∧ g' ≠ w.heap.size + 1) := Lib.hid (fun g' e => by simp [Value.ownBlock] at e; omega)
    obtain ⟨⟨-, -, Pc2, -, -, -⟩, Pcl, ⟨-, -, Pf2, -, -, -⟩⟩ := N3.out.blk.fn
    clear hm hC hA hR HP2 HM1
    go_wp2_with fail
    refine (c_must CX.out (by simp) [41] (by simp)).mono ?_
    intro e w4 hR
    rcases hR.cases with ⟨no, p, hm, rfl, hb⟩ | ⟨a4, s4, hm, rfl, hC, hK⟩
    · have HE : M = .er no p := by rw [MX.out, hm]; rfl
      have HH := Lib.hid (And.intro HE hb)
      clear HE hb hm
      go_wp2_with fail
      refine panic_end rfl ?_
      rw [HH.out.1]
      exact ⟨rfl, HH.out.2⟩
    have M4 : Hid (M = (blockB X.e (run X.e k) 1 s4).bind fun b s => .ok (⟨t.s, kind, l, s.c - 1, t.p⟩, b) s) := Lib.hid (by rw [MX.out, hm]; rfl)
    have C4 := Lib.hid hC
    have R4 := Lib.hid (RX.out.kept hK)
    have N4 := Lib.hid (NX.out.kept hK)
    have P4 := Lib.hid (PX.out.kept CX.out.at_ hK)
    have HB4 : Hid (blockB X.e (run X.e k) 1 s4 ≠ .out) := Lib.hid (fun e => HMo.out (by rw [M4.out, e]; rfl))
    clear hm hC hK hR
    go_wp2_with fail
    refine (block_ok hmo hes k C4.out.at_ 1 (by omega) HB4.out).mono ?_
    intro e w5 hR
    rcases (C4.out.rd hR).cases with ⟨no, p, hm, rfl, hb⟩ | ⟨h5, k5, s5, v5, nk5, hm, rfl, hC, hK, hF⟩
    · have HE : M = .er no p := by rw [M4.out, hm]; rfl
      have HH := Lib.hid (And.intro HE hb)
      clear HE hb hm hR
      go_wp2_with fail
      refine panic_end rfl ?_
      rw [HH.out.1]
      exact ⟨rfl, HH.out.2⟩
    have hc5 : s5.c - 1 = ns.length + k5.size := by
      have h1 := hC.at_.cnt
      have h2 : nk5.length = k5.size + 1 := len_of_flat hF
      simp only [List.length_append] at h1
      omega
    have M5 : Hid (M = .ok (⟨t.s, kind, l, ns.length + k5.size, t.p⟩, Fo.one h5 k5) s5) := Lib.hid (by rw [M4.out, hm, ← hc5]; rfl)
    have R5 := Lib.hid (R4.out.kept hK)
    have N5 := Lib.hid (N4.out.kept hK)
    have P5 := Lib.hid (P4.out.kept C4.out.at_ hK)
    have C5 := Lib.hid hC
    have F5 := Lib.hid hF
    clear hm hC hK hR hF hc5
    generalize hn5 : ns.length + k5.size = n5 at M5 ⊢
    have hne : w1.heap.size ≠ w.heap.size + 1 := by omega
    obtain ⟨⟨-, -, -, Nc3, -, -⟩, Nl, ⟨-, -, -, Nf3, -, -⟩⟩ := N5.out.blk.fn
    go_upto_region 7 with (fail)
    clear Nc3 Nl Nf3
    have C6 := C5.out.set_ N5.out (by omega) (by decide) 3 (.int .i64 (n5 : Nat))
    have R6 : Loc X (w5.setCell ⟨w1.heap.size, 3, none⟩ (.int .i64 (n5 : Nat))) v5 (w.heap.size + 1) tFn (fnA fz (.slice none 0 0) 0) := R5.out.far (Ne.symm hne) 3 (.int .i64 (n5 : Nat))
    have P6 := P5.out.far (fun g h => (GX.out g h).1) 3 (.int .i64 (n5 : Nat))
    have N6 : Loc X (w5.setCell ⟨w1.heap.size, 3, none⟩ (.int .i64 (n5 : Nat))) v5 w1.heap.size tFn (fnA ⟨t.s, kind, l, n5, t.p⟩ (.slice (some ⟨g, 0, none⟩) n cp) n5) := N5.out.set_ 3 (.int .i64 (n5 : Nat))
    generalize w5.setCell ⟨w1.heap.size, 3, none⟩ (.int .i64 (n5 : Nat)) = W6 at C6 R6 P6 N6 ⊢
    have C12 := Lib.hid (C6.row_ R6 (by omega) (by decide) (fnA ⟨t.s, kind, l, n5, t.p⟩ (.slice (some ⟨g, 0, none⟩) n cp) n5))
    have P12 := Lib.hid (P6.row_ (fun g h => (GX.out g h).2) (fnA ⟨t.s, kind, l, n5, t.p⟩ (.slice (some ⟨g, 0, none⟩) n cp) n5))
    have HR12 : Hid ((W6.setRow (w.heap.size + 1) (fnA ⟨t.s, kind, l, n5, t.p⟩ (.slice (some ⟨g, 0, none⟩) n cp) n5)).heap[w.heap.size + 1]? = some (.cells (fnA ⟨t.s, kind, l, n5, t.p⟩ (.slice (some ⟨g, 0, none⟩) n cp) n5) tFn (0, 0))) := Lib.hid (setRow_heap W6 (w.heap.size + 1) _ _ tFn (0, 0) R6.blk)
    have NB := Lib.hid N6.blk
    have RB := Lib.hid R6.blk
    clear C6 R6 P6 N6 hn5
    refine wp_region_list ?_
    refine wpList_load_row rfl tFn _ rfl w1.heap.size rfl tFn (fnA ⟨t.s, kind, l, n5, t.p⟩ (.slice (some ⟨g, 0, none⟩) n cp) n5) (0, 0) _ NB.out Tryz.underlying42 rfl fnInfo ?_
    refine wpList_store_row rfl tFn _ _ rfl (w.heap.size + 1) (fnA ⟨t.s, kind, l, n5, t.p⟩ (.slice (some ⟨g, 0, none⟩) n cp) n5) rfl rfl tFn (fnA fz (.slice none 0 0) 0) RB.out fnInfo rfl (by simp [fnA, Value.oneCell']) ?_
    refine wpList_nil ?_
    go_wp2_with fail
    refine ret_fn (b := w.heap.size + 1) (T := tFn) (fr := (0, 0)) (x := ⟨t.s, kind, l, n5, t.p⟩) (pv := .slice (some ⟨g, 0, none⟩) n cp) (k := n5) rfl rfl rfl HR12.out ?_
    rw [M5.out]
    exact ⟨v5, nk5, (.slice (some ⟨g, 0, none⟩) n cp), rfl, P12.out, C12.out.at_, C12.out.kp, F5.out⟩
  · have hq0 := hq
    have MX : Hid (M = (must X.e [41] s1).bind fun _ s => (blockB X.e (run X.e k) 1 s).bind fun b s => .ok (⟨t.s, kind, [], s.c - 1, t.p⟩, b) s) := Lib.hid (by rw [HM1.out, if_pos hq0]; rfl)
    have CX := C2
    have NX := N2
    have RX := R2
    have PX : Hid (PmS X w w2 (.slice none 0 0) []) := Lib.hid (.inl ⟨rfl, rfl⟩)
    have GX : Hid (∀ g', (Value.slice none 0 0).ownBlock = some g' → g' ≠ w1.heap.size ∧ g' ≠ w.heap.size + 1) := Lib.hid (fun g' e => by cases e)
    clear HM1
    go_wp2_with fail
    refine (c_must CX.out (by simp) [41] (by simp)).mono ?_
    intro e w4 hR
    rcases hR.cases with ⟨no, p, hm, rfl, hb⟩ | ⟨a4, s4, hm, rfl, hC, hK⟩
    · have HE : M = .er no p := by rw [MX.out, hm]; rfl
      have HH := Lib.hid (And.intro HE hb)
      clear HE hb hm
      go_wp2_with fail
      refine panic_end rfl ?_
      rw [HH.out.1]
      exact ⟨rfl, HH.out.2⟩
    have M4 : Hid (M = (blockB X.e (run X.e k) 1 s4).bind fun b s => .ok (⟨t.s, kind, [], s.c - 1, t.p⟩, b) s) := Lib.hid (by rw [MX.out, hm]; rfl)
    have C4 := Lib.hid hC
    have R4 := Lib.hid (RX.out.kept hK)
    have N4 := Lib.hid (NX.out.kept hK)
    have P4 := Lib.hid (PX.out.kept CX.out.at_ hK)
    have HB4 : Hid (blockB X.e (run X.e k) 1 s4 ≠ .out) := Lib.hid (fun e => HMo.out (by rw [M4.out, e]; rfl))
    clear hm hC hK hR
    go_wp2_with fail
    refine (block_ok hmo hes k C4.out.at_ 1 (by omega) HB4.out).mono ?_
    intro e w5 hR
    rcases (C4.out.rd hR).cases with ⟨no, p, hm, rfl, hb⟩ | ⟨h5, k5, s5, v5, nk5, hm, rfl, hC, hK, hF⟩
    · have HE : M = .er no p := by rw [M4.out, hm]; rfl
      have HH := Lib.hid (And.intro HE hb)
      clear HE hb hm hR
      go_wp2_with fail
      refine panic_end rfl ?_
      rw [HH.out.1]
      exact ⟨rfl, HH.out.2⟩
    have hc5 : s5.c - 1 = ns.length + k5.size := by
      have h1 := hC.at_.cnt
      have h2 : nk5.length = k5.size + 1 := len_of_flat hF
      simp only [List.length_append] at h1
      omega
    have M5 : Hid (M = .ok (⟨t.s, kind, [], ns.length + k5.size, t.p⟩, Fo.one h5 k5) s5) := Lib.hid (by rw [M4.out, hm, ← hc5]; rfl)
    have R5 := Lib.hid (R4.out.kept hK)
    have N5 := Lib.hid (N4.out.kept hK)
    have P5 := Lib.hid (P4.out.kept C4.out.at_ hK)
    have C5 := Lib.hid hC
    have F5 := Lib.hid hF
    clear hm hC hK hR hF hc5
    generalize hn5 : ns.length + k5.size = n5 at M5 ⊢
    have hne : w1.heap.size ≠ w.heap.size + 1 := by omega
    obtain ⟨⟨-, -, -, Nc3, -, -⟩, Nl, ⟨-, -, -, Nf3, -, -⟩⟩ := N5.out.blk.fn
    go_upto_region 7 with (fail)
    clear Nc3 Nl Nf3
    have C6 := C5.out.set_ N5.out (by omega) (by decide) 3 (.int .i64 (n5 : Nat))
    have R6 : Loc X (w5.setCell ⟨w1.heap.size, 3, none⟩ (.int .i64 (n5 : Nat))) v5 (w.heap.size + 1) tFn (fnA fz (.slice none 0 0) 0) := R5.out.far (Ne.symm hne) 3 (.int .i64 (n5 : Nat))
    have P6 := P5.out.far (fun g h => (GX.out g h).1) 3 (.int .i64 (n5 : Nat))
    have N6 : Loc X (w5.setCell ⟨w1.heap.size, 3, none⟩ (.int .i64 (n5 : Nat))) v5 w1.heap.size tFn (fnA ⟨t.s, kind, [], n5, t.p⟩ (.slice none 0 0) n5) := N5.out.set_ 3 (.int .i64 (n5 : Nat))
    generalize w5.setCell ⟨w1.heap.size, 3, none⟩ (.int .i64 (n5 : Nat)) = W6 at C6 R6 P6 N6 ⊢
    have C12 := Lib.hid (C6.row_ R6 (by omega) (by decide) (fnA ⟨t.s, kind, [], n5, t.p⟩ (.slice none 0 0) n5))
    have P12 := Lib.hid (P6.row_ (fun g h => (GX.out g h).2) (fnA ⟨t.s, kind, [], n5, t.p⟩ (.slice none 0 0) n5))
    have HR12 : Hid ((W6.setRow (w.heap.size + 1) (fnA ⟨t.s, kind, [], n5, t.p⟩ (.slice none 0 0) n5)).heap[w.heap.size + 1]? = some (.cells (fnA ⟨t.s, kind, [], n5, t.p⟩ (.slice none 0 0) n5) tFn (0, 0))) := Lib.hid (setRow_heap W6 (w.heap.size + 1) _ _ tFn (0, 0) R6.blk)
    have NB := Lib.hid N6.blk
    have RB := Lib.hid R6.blk
    clear C6 R6 P6 N6 hn5
    refine wp_region_list ?_
    refine wpList_load_row rfl tFn _ rfl w1.heap.size rfl tFn (fnA ⟨t.s, kind, [], n5, t.p⟩ (.slice none 0 0) n5) (0, 0) _ NB.out Tryz.underlying42 rfl fnInfo ?_
    refine wpList_store_row rfl tFn _ _ rfl (w.heap.size + 1) (fnA ⟨t.s, kind, [], n5, t.p⟩ (.slice none 0 0) n5) rfl rfl tFn (fnA fz (.slice none 0 0) 0) RB.out fnInfo rfl (by simp [fnA, Value.oneCell']) ?_
    refine wpList_nil ?_
    go_wp2_with fail
    refine ret_fn (b := w.heap.size + 1) (T := tFn) (fr := (0, 0)) (x := ⟨t.s, kind, [], n5, t.p⟩) (pv := .slice none 0 0) (k := n5) rfl rfl rfl HR12.out ?_
    rw [M5.out]
    exact ⟨v5, nk5, (.slice none 0 0), rfl, P12.out, C12.out.at_, C12.out.kp, F5.out⟩
end Go.Proofs.YtfaoiajhoifalaaGreatDoor
/-! Pazc -/
namespace Go.Proofs.YtfaoiajhoifalaaGreatDoor
open Go.RowKit
set_option linter.unusedVariables false
set_option linter.unusedSimpArgs false

/-- A type that is none of the reader's own. -/
def Strange (T : TypeId) : Prop := T ≠ tR ∧ T ≠ tI ∧ T ≠ tN
/-- A row of structs, in memory that is newer than w, or none yet. -/
structure AccS (X : Rdr) (T : TypeId) (sz : Nat) (w W : World) (v : Value) (n : Nat) (cs : List Value) : Prop where
  row : W.ownsRow X.base T sz v n cs
  new : ∀ g, v.ownBlock = some g → w.heap.size ≤ g
theorem AccS.nil (X : Rdr) (T : TypeId) (sz : Nat) (w W : World) : AccS X T sz w W (.slice none 0 0) 0 [] := ⟨World.ownsRow_nil _ _ _ _, fun g h => by cases h⟩
section
variable {X : Rdr} {T : TypeId} {sz : Nat} {w W W' : World} {v u u' x : Value} {n : Nat} {cs : List Value} {s : St} {ns : List NV}
theorem AccS.blk (h : AccS X T sz w W x n cs) {g : Nat} (hg : x.ownBlock = some g) : X.base ≤ g ∧ g < W.heap.size ∧ ∃ c, W.heap[g]? = some (.cells c T (0, 0)) := by
  refine ⟨(h.row.lt g hg).1, (h.row.lt g hg).2, ?_⟩
  rcases h.row.2 with ⟨hv, _⟩ | ⟨g', cap, cur, hv, _, hb, _⟩
  · rw [hv] at hg; cases hg
  · rw [hv] at hg; simp [Value.ownBlock] at hg; exact ⟨cur, by rw [← hg]; exact hb⟩
theorem AccS.own (h : AccS X T sz w W x n cs) (hT : Strange T) (hA : At X W s ns u) {g : Nat} (hg : x.ownBlock = some g) : some g ≠ u.ownBlock := fun e => by
  obtain ⟨-, -, c, hb⟩ := h.blk hg
  rcases hA.rows.2 with ⟨hv, _⟩ | ⟨g', cap, cur, hv, _, hgb, _⟩
  · rw [hv] at e; simp [Value.ownBlock] at e
  · rw [hv] at e
    simp [Value.ownBlock] at e
    rw [← e, hb] at hgb
    simp at hgb
    exact absurd hgb.2 hT.2.2
theorem AccS.neb (h : AccS X T sz w W x n cs) (hT : Strange T) (hA : At X W s ns u) {g : Nat} (hg : x.ownBlock = some g) : g ≠ X.b := fun e => by
  obtain ⟨-, -, c, hb⟩ := h.blk hg
  have h1 := hA.blk
  unfold Blk at h1
  rw [← e, hb] at h1
  simp at h1
  exact absurd h1.2 hT.1
theorem AccS.kept (h : AccS X T sz w W x n cs) (hT : Strange T) (hA : At X W s ns u) (hk : Kp X W u W' u') : AccS X T sz w W' x n cs :=
  ⟨row_keep h.row fun i hi => hk.block i (h.row.lt i hi).2 (h.neb hT hA hi) (h.own hT hA hi), h.new⟩
theorem AccS.far (h : AccS X T sz w W x n cs) {j : Nat} (hne : ∀ g, x.ownBlock = some g → g ≠ j) (o : Nat) (y : Value) : AccS X T sz w (W.setCell ⟨j, o, none⟩ y) x n cs :=
  ⟨row_keep h.row fun i hi => Below.heap_setCell W ⟨j, o, none⟩ y i (hne i hi), h.new⟩
theorem AccS.go (h : AccS X T sz w W x n cs) (hb : Below W.heap.size W W') : AccS X T sz w W' x n cs :=
  ⟨row_keep h.row fun i hi => hb.block i (h.row.lt i hi).2, h.new⟩
theorem AccS.grown (h : AccS X T sz w W x n cs) {r : Option Nat} (hg : W.grownBy W' r) (hr : ∀ i, x.ownBlock = some i → r ≠ some i) : AccS X T sz w W' x n cs :=
  ⟨row_keep h.row fun i hi => hg.block i (h.row.lt i hi).2 (fun e => hr i hi (by rw [← e])), h.new⟩
/-- One more. -/
theorem AccS.push {w1 : World} {x1 : Value} {cs1 : List Value} (h : AccS X T sz w W x n cs) (hT : Strange T) (hC : Cur X w v W s ns u) {o : Obj}
    (hr : w1.ownsRow X.base T sz x1 (n + 1) cs1) (hg : (W.alloc o).grownBy w1 x.ownBlock) (hgl : x1.ownBlock = x.ownBlock ∨ ∀ g, x1.ownBlock = some g → W.heap.size ≤ g) :
    Cur X w v w1 s ns u ∧ AccS X T sz w w1 x1 (n + 1) cs1 := by
  have hA : At X w1 s ns u := by
    cases hx : x.ownBlock with
    | none =>
      rw [hx] at hg
      exact (hC.alloc o).at_.below (below_none hg)
    | some g =>
      obtain ⟨hb1, hb2, c, hb⟩ := h.blk hx
      have hb1' : (W.alloc o).heap[g]? = some (.cells c T (0, 0)) := (heap_alloc_old _ _ _ hb2).trans hb
      exact (hC.alloc o).at_.far hb1' ⟨hT.1, hT.2.1⟩ hb1 (h.own hT hC.at_ hx) (fun i hi hne => hg.block i hi (fun e => by rw [hx] at e; cases e; exact hne rfl)) hg.size
  have hlow : Below w.heap.size (W.alloc o) w1 := ⟨hg.os, hg.tape, hg.output, hg.size, fun k hk => hg.block k (Nat.lt_of_lt_of_le hk (hC.alloc o).kp.size) (fun e => by have := h.new k e.symm; omega)⟩
  refine ⟨⟨hA, (hC.alloc o).kp.down hlow, (hC.alloc o).low.trans ⟨hg.os, hg.tape, hg.output, hg.size, fun k hk => hg.block k (by have := (hC.alloc o).at_.baselt; omega) (fun e => by have := (h.blk e.symm).1; omega)⟩⟩, hr, ?_⟩
  rcases hgl with e | e
  · rw [e]; exact h.new
  · intro g hg1; have := e g hg1; have := hC.kp.size; omega
end
end Go.Proofs.YtfaoiajhoifalaaGreatDoor
/-! Pazd -/
namespace Go.Proofs.YtfaoiajhoifalaaGreatDoor
open Go.RowKit Go.MapKept
set_option linter.unusedVariables false
set_option linter.unusedSimpArgs false

theorem upd_last (w : World) (es : Array MapEntry) (clock : Nat) (s : List UInt8) (v : Value) (hf : Instr.findNow .string (.string (str s)) es.toList 0 = some none) :
    (Instr.mapUpdate tM (.map (some w.heap.size)) (.string (str s)) v).run Tryz.prog (w.alloc (.map es clock)) = .ok () (w.alloc (.map (es.push ⟨.string (str s), v, clock⟩) (clock + 1))) := by
  have hb : (w.alloc (.map es clock)).heap[w.heap.size]? = some (.map es clock) := heap_alloc_new w _
  have hc : (Instr.checkKey false 10000 9 (.string (str s))).run Tryz.prog (w.alloc (.map es clock)) = .ok () (w.alloc (.map es clock)) := run_checkKey (k := .string (str s)) Tryz.underlying9 (by simp [IsKey]) false 9999
  have hw : ∀ o : Obj, { w.alloc (.map es clock) with heap := (w.alloc (.map es clock)).heap.setIfInBounds w.heap.size o } = w.alloc o := fun o => by
    have e : (w.heap.push (.map es clock)).setIfInBounds w.heap.size o = w.heap.push o := by
      apply Array.ext'
      simp [List.set_append]
    show { w.alloc (.map es clock) with heap := (w.heap.push (.map es clock)).setIfInBounds w.heap.size o } = { w with heap := w.heap.push o }
    rw [e]
    rfl
  simp [Instr.mapUpdate, run_underlying Tryz.underlying124, MapKept.run_getObj_map hb, hc, run_findKey Tryz.underlying9 hf, MapKept.run_setObj_map _ hb, Result.andThen]
  exact hw _
def fnc (f : Nat) : Value := .func (.func f) #[] #[]
def es1 : Array MapEntry := #[⟨.string (str [123]), fnc 109, 0⟩]
def es2 : Array MapEntry := es1.push ⟨.string (str wInt), fnc 110, 1⟩
def es3 : Array MapEntry := es2.push ⟨.string (str wLong), fnc 110, 2⟩
def es4 : Array MapEntry := es3.push ⟨.string (str wIf), fnc 111, 3⟩
def es5 : Array MapEntry := es4.push ⟨.string (str wWhile), fnc 112, 4⟩
def es6 : Array MapEntry := es5.push ⟨.string (str wGoto), fnc 113, 5⟩
def es7 : Array MapEntry := es6.push ⟨.string (str wReturn), fnc 114, 6⟩
def es8 : Array MapEntry := es7.push ⟨.string (str wOut), fnc 115, 7⟩
theorem es8_list : es8.toList = stEs := rfl

set_option maxHeartbeats 1000000 in
theorem statements_any (w : World) : Calls Tryz.prog 76 #[] w fun e w' => e = .returned (.map (some w.heap.size)) ∧ w' = w.alloc (.map es8 8) := by
  have hmm := @run_makeMap Tryz.prog
  have u1 := upd_last w #[] 0 [123] (fnc 109) rfl
  have u2 := upd_last w es1 1 wInt (fnc 110) rfl
  have u3 := upd_last w es2 2 wLong (fnc 110) rfl
  have u4 := upd_last w es3 3 wIf (fnc 111) rfl
  have u5 := upd_last w es4 4 wWhile (fnc 112) rfl
  have u6 := upd_last w es5 5 wGoto (fnc 113) rfl
  have u7 := upd_last w es6 6 wReturn (fnc 114) rfl
  have u8 := upd_last w es7 7 wOut (fnc 115) rfl
  change _ = Result.ok () (w.alloc (.map es1 1)) at u1
  change _ = Result.ok () (w.alloc (.map es2 2)) at u2
  change _ = Result.ok () (w.alloc (.map es3 3)) at u3
  change _ = Result.ok () (w.alloc (.map es4 4)) at u4
  change _ = Result.ok () (w.alloc (.map es5 5)) at u5
  change _ = Result.ok () (w.alloc (.map es6 6)) at u6
  change _ = Result.ok () (w.alloc (.map es7 7)) at u7
  change _ = Result.ok () (w.alloc (.map es8 8)) at u8
  generalize es8 = e8 at *
  generalize es7 = e7 at *
  generalize es6 = e6 at *
  generalize es5 = e5 at *
  generalize es4 = e4 at *
  generalize es3 = e3 at *
  generalize es2 = e2 at *
  generalize es1 = e1 at *
  simp only [fnc, str, wInt, wLong, wIf, wWhile, wGoto, wReturn, wOut] at u1 u2 u3 u4 u5 u6 u7 u8
  go_enter Tryz.func76, Tryz.ntmps76
  go_wp2
  go_ret
  exact ⟨rfl, rfl⟩

set_option maxHeartbeats 400000 in
theorem isEnd_any (t : Tok) (w : World) : Calls Tryz.prog 78 #[tokV t] w fun e w' => e = .returned (.bool (decide (t.k = 4))) ∧ Below w.heap.size w w' := by
  rw [str_eta]
  go_enter Tryz.func78, Tryz.ntmps78
  go_wp2
  go_ret
  exact ⟨ret_bool (by rw [Bool.eq_iff_iff]; simp), (Below.refl _ w).alloc (Nat.le_refl _) _⟩

/-- Where the first end stands, if there is one. -/
def IxPost (toks : List Tok) (w : World) (e : Ending) (w' : World) : Prop :=
  Below w.heap.size w w' ∧ ((∃ i : Nat, ∃ h : i < toks.length, e = .returned (.int .i64 i) ∧ (toks[i]).k = 4 ∧ ∀ t ∈ toks.take i, t.k ≠ 4) ∨ (e = .returned (.int .i64 (-1)) ∧ ∀ t ∈ toks, t.k ≠ 4))
set_option maxHeartbeats 2000000 in
set_option maxRecDepth 100000 in
theorem ixfR_any (toks : List Tok) (m c : Nat) (hm : toks.length = m) (hm2 : m ≤ 2000000) (A : Option Addr) (B : Nat) (w : World) (hB : B ≤ w.heap.size) (hr : RdT w B A toks) :
    Calls Tryz.prog 77 #[.slice A m c, .func (.func 78) #[] #[]] w (IxPost toks w) := by
  have HM := Lib.hid hm
  have HR := Lib.hid hr
  clear hm hr
  go_enter Tryz.func77, Tryz.ntmps77
  go_wp2_with fail
  go_loopw [8] (fun x wr => ∃ k : Nat, k ≤ m ∧ x = .int .i64 k ∧ Below w.heap.size w wr ∧ ∀ t ∈ toks.take k, t.k ≠ 4) (fun x _ => m - (intOf x).toNat)
  case atStart => exact ⟨0, by omega, rfl, Below.refl _ _, by simp⟩
  case round =>
    obtain ⟨k, hk, rfl, hb, hno⟩ := hrel
    have HB := Lib.hid hb
    have HNO := Lib.hid hno
    have hlm := HM.out
    by_cases hlt : k < m
    · obtain ⟨g, o, rfl, hg, x0, x1, x2, x3⟩ := (HR.out.below (hb.mono hB)).at_ (by omega : k < toks.length)
      have hts : toks.take (k + 1) = toks.take k ++ [toks[k]'(by omega)] := List.take_succ_eq_append_getElem (by omega)
      have hgl : g < wr.heap.size := by have := hb.size; omega
      have hT : toks[k]? = some (toks[k]'(by omega)) := List.getElem?_eq_getElem _
      generalize toks[k]'(by omega) = t at *
      have HTS := Lib.hid (And.intro hts hT)
      clear hts hT hb hno hlm
      by_cases h4 : t.k = 4
      · have d4 : decide (t.k = 4) = true := by simpa using h4
        have H4 := Lib.hid h4
        clear h4
        go_wp2_with fail
        refine (isEnd_any t _).mono ?_
        rw [d4]
        rintro e w2 ⟨rfl, hb2⟩
        have HB2 := Lib.hid (HB.out.trans (hb2.mono HB.out.size))
        clear hb2
        go_wp2_with fail
        go_ret
        exact ⟨HB2.out, .inl ⟨k, by rw [HM.out]; exact hlt, rfl, by have := HTS.out.2; rw [List.getElem?_eq_getElem (by rw [HM.out]; exact hlt)] at this; rw [Option.some.inj this]; exact H4.out, HNO.out⟩⟩
      · have d4 : decide (t.k = 4) = false := by simpa using h4
        have H4 := Lib.hid h4
        clear h4
        go_wp2_with fail
        refine (isEnd_any t _).mono ?_
        rw [d4]
        rintro e w2 ⟨rfl, hb2⟩
        have HB2 := Lib.hid (HB.out.trans (hb2.mono HB.out.size))
        clear hb2
        go_wp2_with fail
        go_roundw
        case rel => exact ⟨k + 1, by omega, by go_num, HB2.out, fun x hx => by rw [HTS.out.1] at hx; rcases List.mem_append.1 hx with hx | hx; exact HNO.out x hx; simp at hx; rw [hx]; exact H4.out⟩
        case measure => simp [intOf]; omega
    · obtain rfl : k = m := by omega
      have hnx : ∀ t ∈ toks, t.k ≠ 4 := by rw [← HM.out, List.take_length] at hno; exact hno
      have HNX := Lib.hid hnx
      clear hnx hno hb hlm
      go_wp2_with fail
      go_ret
      exact ⟨HB.out, .inr ⟨rfl, HNX.out⟩⟩

theorem relT_some {toks : List Tok} {i : Nat} (h : i < toks.length) (h4 : (toks[i]).k = 4) (hno : ∀ t ∈ toks.take i, t.k ≠ 4) : relT toks = toks.take i ∧ endT toks = toks[i] := by
  have e : toks = toks.take i ++ toks[i] :: toks.drop (i + 1) := by rw [← List.drop_eq_getElem_cons h, List.take_append_drop]
  constructor
  · unfold relT
    conv => lhs; rw [e]
    rw [List.takeWhile_append_of_pos (by simpa using hno), List.takeWhile_cons_of_neg (by simp [h4]), List.append_nil]
  · unfold endT
    conv => lhs; rw [e]
    rw [List.find?_append, List.find?_eq_none.2 (by simpa using hno), List.find?_cons_of_pos (by simp [h4])]
    rfl
theorem relT_none {toks : List Tok} (hno : ∀ t ∈ toks, t.k ≠ 4) : relT toks = toks ∧ endT toks = ⟨4, (toks.getLast?.map (·.p)).getD 0, 0, []⟩ := by
  constructor
  · unfold relT
    induction toks with
    | nil => rfl
    | cons t l ih => rw [List.takeWhile_cons_of_pos (by simpa using hno t (by simp)), ih (fun x hx => hno x (List.mem_cons_of_mem _ hx))]
  · unfold endT; rw [List.find?_eq_none.2 (by simpa using hno)]; rfl

/-- The answer of newReader: a reader that stands at the first token. -/
def NewP (toks : List Tok) (base : Nat) (w : World) (e : Ending) (w' : World) : Prop :=
  ∃ X : Rdr, e = .returned (rd X) ∧ At X w' ⟨relT toks, 0⟩ [] (.slice none 0 0) ∧ Below w.heap.size w w' ∧ X.T = relT toks ∧ X.e = endT toks ∧ X.base = base ∧ X.mo = .map es8 8 ∧ w.heap.size ≤ X.b
theorem At.first {X : Rdr} {W : World} (hb : Blk W X.b tR (rdCells X 0 (.slice none 0 0))) (hl : X.T.length ≤ 2000000) (ht : RdT W X.base X.A X.T) (htx : ∀ t ∈ X.T, t.s.length ≤ 140737488355328) (hf : X.e.k = 4) (hB : X.base ≤ X.b) (hE : EnvY W) (hz : gY < X.base)
    (hm : W.heap[X.mb]? = some X.mo) (hmo : X.mo = .map es8 8) : At X W ⟨X.T, 0⟩ [] (.slice none 0 0) where
  blk := by simpa using hb
  suf := List.suffix_refl _
  len := hl
  toks := ht
  txt := htx
  fin := hf
  cnt := rfl
  max := Nat.zero_le _
  rows := World.ownsRow_nil _ _ _ _
  kids := fun x hx => by cases hx
  hb := hB
  env := hE
  szE := hz
  mph := hm
  mpc := by rw [hmo]; rfl

theorem newP_mk {toks : List Tok} {m c : Nat} {A : Option Addr} {base : Nat} {w W : World} {cs : Array Value} (hb : Blk W (w.heap.size + 1) tR cs)
    (hcs : cs = #[.slice A (relT toks).length c, .int .i64 (endT toks).k, .int .i64 (endT toks).p, .int .i64 (endT toks).n, .string (str (endT toks).s), .int .i64 0, .slice none 0 0, .map (some w.heap.size)])
    (hbw : Below w.heap.size w W) (hmp : W.heap[w.heap.size]? = some (.map es8 8)) (hf : (endT toks).k = 4) (hpre : relT toks <+: toks)
    (hm2 : toks.length ≤ 2000000) (hB : base ≤ w.heap.size) (hr : RdT w base A toks) (htx : ∀ t ∈ toks, t.s.length ≤ 140737488355328) (hE : EnvY w) (hsz : gY < base) :
    NewP toks base w (.returned (.pointer (some ⟨w.heap.size + 1, 0, none⟩))) W := by
  obtain ⟨r, hpr⟩ := hpre
  refine ⟨⟨w.heap.size + 1, A, c, relT toks, endT toks, base, w.heap.size, .map es8 8⟩, rfl, ?_, hbw, rfl, rfl, rfl, rfl, Nat.le_succ _⟩
  refine At.first (X := ⟨w.heap.size + 1, A, c, relT toks, endT toks, base, w.heap.size, .map es8 8⟩) ?_ ?_ ?_ ?_ hf (by simp; omega) (hE.below hbw (Nat.le_refl _)) hsz hmp rfl
  · rw [hcs] at hb; exact hb
  · have := congrArg List.length hpr; simp at this; simp; omega
  · have h1 := hr.below (hbw.mono hB)
    rw [← hpr] at h1
    exact h1.take
  · intro t ht; exact htx t (by rw [← hpr]; exact List.mem_append_left _ ht)

set_option maxHeartbeats 4000000 in
set_option maxRecDepth 100000 in
theorem newReader_any (toks : List Tok) (m c : Nat) (hm : toks.length = m) (hm2 : m ≤ 2000000) (hmc : m ≤ c) (hcm : c ≤ maxLen) (A : Option Addr) (base : Nat) (w : World) (hB : base ≤ w.heap.size) (hr : RdT w base A toks) (hA : A = none → c = 0) (htx : ∀ t ∈ toks, t.s.length ≤ 140737488355328) (hE : EnvY w) (hsz : gY < base) :
    Calls Tryz.prog 43 #[.slice A m c] w (NewP toks base w) := by
  have HM := Lib.hid hm
  have HR := Lib.hid hr
  have HTX := Lib.hid htx
  have HE := Lib.hid hE
  clear hm hr htx hE
  go_enter Tryz.func43, Tryz.ntmps43
  go_wp2_with fail
  refine (statements_any _).mono ?_
  rintro e w1 ⟨rfl, rfl⟩
  go_wp2_with fail
  have hb0 : Below w.heap.size w ((w.alloc (.map es8 8)).alloc (.cells #[.slice A m c, .int .i64 4, .int .i64 0, .int .i64 0, .string ⟨#[]⟩, .int .i64 0, .slice none 0 0, .map (some w.heap.size)] tR)) := ((Below.refl _ _).alloc (Nat.le_refl _) _).alloc (by simp) _
  refine (ixfR_any toks m c HM.out hm2 A base _ (by simp; omega) (HR.out.below (hb0.mono hB))).mono ?_
  rintro e w2 ⟨hb2, h⟩
  have hmp : w2.heap[w.heap.size]? = some (.map es8 8) := (hb2.block _ (by simp; omega)).trans (by rw [heap_alloc_old _ _ _ (by simp)]; exact heap_alloc_new w _)
  have hbk : Blk w2 (w.heap.size + 1) tR #[.slice A m c, .int .i64 4, .int .i64 0, .int .i64 0, .string ⟨#[]⟩, .int .i64 0, .slice none 0 0, .map (some w.heap.size)] := by
    have h1 := heap_alloc_new (w.alloc (.map es8 8)) (.cells #[.slice A m c, .int .i64 4, .int .i64 0, .int .i64 0, .string ⟨#[]⟩, .int .i64 0, .slice none 0 0, .map (some w.heap.size)] tR)
    have e1 : (w.alloc (.map es8 8)).heap.size = w.heap.size + 1 := by simp
    rw [e1] at h1
    exact (hb2.block _ (by simp)).trans h1
  have hbw : Below w.heap.size w w2 := hb0.trans (hb2.mono (by simp; omega))
  have hs2 : w.heap.size + 1 < w2.heap.size := hbk.lt
  have c0 : w2.cell? ⟨w.heap.size + 1, 0, none⟩ = _ := hbk.cell 0
  have c1 : w2.cell? ⟨w.heap.size + 1, 1, none⟩ = _ := hbk.cell 1
  have c2 : w2.cell? ⟨w.heap.size + 1, 2, none⟩ = _ := hbk.cell 2
  have c3 : w2.cell? ⟨w.heap.size + 1, 3, none⟩ = _ := hbk.cell 3
  have c4 : w2.cell? ⟨w.heap.size + 1, 4, none⟩ = _ := hbk.cell 4
  simp only [List.getElem?_toArray, List.getElem?_cons_zero, List.getElem?_cons_succ] at c0 c1 c2 c3 c4
  have f0 := hbk.frozen 0
  have f1 := hbk.frozen 1
  have f2 := hbk.frozen 2
  have f3 := hbk.frozen 3
  have f4 := hbk.frozen 4
  have HBK := Lib.hid hbk
  have HBW := Lib.hid hbw
  have HMP := Lib.hid hmp
  clear hb0 hb2 hbk hbw hmp
  rcases h with ⟨i, hi, rfl, h4, hno⟩ | ⟨rfl, hno⟩
  · obtain ⟨hrel1, hrel2⟩ := relT_some hi h4 hno
    have hlm := HM.out
    obtain ⟨g, o, rfl, hg, x0, x1, x2, x3⟩ := (HR.out.below (HBW.out.mono hB)).at_ hi
    have him : i < m := by omega
    have hgl : g < w2.heap.size := by omega
    have hgn : g ≠ w.heap.size + 1 := by omega
    have hT : toks[i]? = some (toks[i]'hi) := List.getElem?_eq_getElem _
    generalize toks[i]'hi = t at *
    have HT := Lib.hid (And.intro hT (And.intro hrel1 (And.intro hrel2 (And.intro h4 hno))))
    clear hT hrel1 hrel2 h4 hno hlm
    have hic : (i : Int) ≤ (c : Int) := by omega
    go_wp2_with fail
    go_region
    all_goals
      go_wp2
      go_ret
      obtain ⟨hT, hrel1, hrel2, h4, hno⟩ := HT.out
      refine newP_mk (m := m) (c := c) (((((HBK.out.set_ 0 (.slice (some ⟨g, o, none⟩) i c)).set_ 1 (.int .i64 t.k)).set_ 2 (.int .i64 t.p)).set_ 3 (.int .i64 t.n)).set_ 4 (.string (str t.s))) ?_ ?_ ?_ (by rw [hrel2]; exact h4) (by rw [hrel1]; exact List.take_prefix _ _) (by rw [HM.out]; exact hm2) hB HR.out HTX.out HE.out hsz
      · rw [hrel1, hrel2, List.length_take, Nat.min_eq_left (by omega)]; rfl
      · exact HBW.out.trans (((((((Below.refl _ _).setCell (p := ⟨w.heap.size + 1, 0, none⟩) (by simp) _).setCell (p := ⟨w.heap.size + 1, 1, none⟩) (by simp) _).setCell (p := ⟨w.heap.size + 1, 2, none⟩) (by simp) _).setCell (p := ⟨w.heap.size + 1, 3, none⟩) (by simp) _).setCell (p := ⟨w.heap.size + 1, 4, none⟩) (by simp) _).drew)
      · have hk : ∀ (W : World) (j : Nat) (x : Value), (W.setCell ⟨w.heap.size + 1, j, none⟩ x).heap[w.heap.size]? = W.heap[w.heap.size]? := fun W j x => Below.heap_setCell _ _ _ _ (by simp)
        exact (((((hk _ _ _).trans (hk _ _ _)).trans (hk _ _ _)).trans (hk _ _ _)).trans (hk _ _ _)).trans HMP.out
  · obtain ⟨hrel1, hrel2⟩ := relT_none hno
    have HREL := Lib.hid (And.intro hrel1 hrel2)
    clear hrel1 hrel2 hno
    rcases List.eq_nil_or_concat toks with h0 | ⟨l, t, hl⟩
    · have hm0 : m = 0 := by rw [← HM.out, h0]; rfl
      subst hm0
      have H0 := Lib.hid h0
      clear h0
      go_wp2_with fail
      go_ret
      refine newP_mk (m := 0) (c := c) HBK.out ?_ HBW.out HMP.out (by rw [HREL.out.2]) (by rw [HREL.out.1]; exact List.prefix_refl _) (by rw [HM.out]; exact hm2) hB HR.out HTX.out HE.out hsz
      rw [HREL.out.1, HREL.out.2, H0.out]; rfl
    · have hmp : 0 < m := by rw [← HM.out, hl]; simp
      have hm1 : m - 1 < toks.length := by have := HM.out; omega
      obtain ⟨g, o, rfl, hg, x0, x1, x2, x3⟩ := (HR.out.below (HBW.out.mono hB)).at_ hm1
      have hgl : g < w2.heap.size := by omega
      have hgn : g ≠ w.heap.size + 1 := by omega
      have hT : toks[m - 1]'hm1 = t := by
        have e : toks[m - 1]? = some t := by
          rw [hl, ← HM.out, hl]; simp
        rw [List.getElem?_eq_getElem hm1] at e
        exact Option.some.inj e
      rw [hT] at x1
      have HT := Lib.hid hl
      clear hl hT x0 x2 x3
      obtain ⟨n, rfl⟩ : ∃ n, m = n + 1 := ⟨m - 1, by omega⟩
      clear hm1
      simp only [Nat.add_sub_cancel] at x1
      have hn1 : (((n + 1 : Nat) : Int) - 1) = (n : Int) := by omega
      go_wp2_with fail
      go_ret
      refine newP_mk (m := n + 1) (c := c) (HBK.out.set_ 2 (.int .i64 t.p)) ?_ ?_ ?_ (by rw [HREL.out.2]) (by rw [HREL.out.1]; exact List.prefix_refl _) (by rw [HM.out]; exact hm2) hB HR.out HTX.out HE.out hsz
      · rw [HREL.out.1, HREL.out.2, HM.out]
        have : (toks.getLast?.map (·.p)).getD 0 = t.p := by rw [HT.out]; simp
        rw [this]; rfl
      · exact HBW.out.trans ((Below.refl _ _).setCell (p := ⟨w.heap.size + 1, 2, none⟩) (by simp) _)
      · exact (Below.heap_setCell _ _ _ _ (by simp)).trans HMP.out
end Go.Proofs.YtfaoiajhoifalaaGreatDoor
/-! Paze -/
namespace Go.Proofs.YtfaoiajhoifalaaGreatDoor
open Go.RowKit
set_option linter.unusedVariables false
set_option linter.unusedSimpArgs false

abbrev tPg : TypeId := 27
def glCells (l : List Gl) : List Value := l.flatMap fun g => (glA g).toList
def fnCells (l : List (Fn' × Value)) : List Value := l.flatMap fun x => (fnA x.1 x.2 x.1.b).toList
theorem glCells_snoc (l : List Gl) (x : Gl) : glCells (l ++ [x]) = glCells l ++ (glA x).toList := by simp [glCells]
theorem fnCells_snoc (l : List (Fn' × Value)) (x : Fn' × Value) : fnCells (l ++ [x]) = fnCells l ++ (fnA x.1 x.2 x.1.b).toList := by simp [fnCells]
theorem strG : Strange tG := by unfold Strange; decide
theorem strFn : Strange tFn := by unfold Strange; decide
theorem infoG : (Tryz.prog.info? tG).map (fun i => (i.zero, i.size, i.bytes)) = some (some (.agg #[.string ⟨#[]⟩, .int .i64 0, .int .i64 0, .int .i64 0]), 4, 40) := by kernel_rfl
theorem infoFn : (Tryz.prog.info? tFn).map (fun i => (i.zero, i.size, i.bytes)) = some (some (.agg #[.string ⟨#[]⟩, .int .i64 0, .slice none 0 0, .int .i64 0, .int .i64 0, .slice none 0 0]), 6, 88) := by kernel_rfl

/-- What has been read of a program, in memory. -/
structure PgS (X : Rdr) (w W : World) (pg : Pg) (gv fv : Value) (fl : List (Fn' × Value)) : Prop where
  gs : AccS X tG 4 w W gv pg.g.length (glCells pg.g)
  fs : AccS X tFn 6 w W fv fl.length (fnCells fl)
  fe : fl.map (·.1) = pg.f
  ps : ∀ x ∈ fl, PmS X w W x.2 x.1.ps
section
variable {X : Rdr} {w W W' : World} {v u u' : Value} {s : St} {ns : List NV} {pg : Pg} {gv fv : Value} {fl : List (Fn' × Value)}
theorem PgS.nil (X : Rdr) (w W : World) : PgS X w W ⟨[], [], .nil⟩ (.slice none 0 0) (.slice none 0 0) [] := ⟨AccS.nil _ _ _ _ _, AccS.nil _ _ _ _ _, rfl, fun x h => by cases h⟩
theorem PgS.kept (h : PgS X w W pg gv fv fl) (hA : At X W s ns u) (hk : Kp X W u W' u') : PgS X w W' pg gv fv fl :=
  ⟨h.gs.kept strG hA hk, h.fs.kept strFn hA hk, h.fe, fun x hx => (h.ps x hx).kept hA hk⟩
theorem PmS.go {pv : Value} {l : List Pm} (h : PmS X w W pv l) (hb : Below W.heap.size W W') : PmS X w W' pv l :=
  h.imp id fun ⟨g, n, cp, h1, h2⟩ => ⟨g, n, cp, h1, row_keep h2.row fun i hi => hb.block i (h2.row.lt i hi).2, h2.new⟩
theorem PgS.go (h : PgS X w W pg gv fv fl) (hb : Below W.heap.size W W') : PgS X w W' pg gv fv fl :=
  ⟨h.gs.go hb, h.fs.go hb, h.fe, fun x hx => (h.ps x hx).go hb⟩
theorem AccS.away {T : TypeId} {sz n : Nat} {x : Value} {cs : List Value} (h : AccS X T sz w W x n cs) {j : Nat} {t : TypeId} {c : Array Value} (hl : W.heap[j]? = some (.cells c t (0, 0))) (ht : t ≠ T) : ∀ g, x.ownBlock = some g → g ≠ j := fun g hg e => by
  obtain ⟨-, -, c2, hb⟩ := h.blk hg
  rw [e, hl] at hb
  simp at hb
  exact ht hb.2
theorem PmS.away {pv : Value} {l : List Pm} (h : PmS X w W pv l) {j : Nat} {t : TypeId} {c : Array Value} (hl : W.heap[j]? = some (.cells c t (0, 0))) (ht : t ≠ tP) : ∀ g, pv.ownBlock = some g → g ≠ j := fun g hg e => by
  rcases h with ⟨_, hv⟩ | ⟨g', n, cp, hv, hA⟩
  · rw [hv] at hg; cases hg
  · rw [hv] at hg
    simp [Value.ownBlock] at hg
    obtain ⟨c2, hb⟩ := hA.blk
    rw [hg, e, hl] at hb
    simp at hb
    exact ht hb.2
theorem PgS.set_ (h : PgS X w W pg gv fv fl) {j : Nat} {c : Array Value} (hl : W.heap[j]? = some (.cells c tPg (0, 0))) (o : Nat) (y : Value) : PgS X w (W.setCell ⟨j, o, none⟩ y) pg gv fv fl :=
  ⟨h.gs.far (h.gs.away hl (by decide)) o y, h.fs.far (h.fs.away hl (by decide)) o y, h.fe, fun x hx => (h.ps x hx).far ((h.ps x hx).away hl (by decide)) o y⟩
theorem PmS.grown {pv : Value} {l : List Pm} (h : PmS X w W pv l) {r : Option Nat} (hg : W.grownBy W' r) (hr : ∀ i, pv.ownBlock = some i → r ≠ some i) : PmS X w W' pv l :=
  h.imp id fun ⟨g, n, cp, h1, h2⟩ => ⟨g, n, cp, h1, row_keep h2.row fun i hi => hg.block i (h2.row.lt i hi).2 (fun e => hr i (by rw [h1]; exact hi) e.symm), h2.new⟩
/-- A global more. -/
theorem PgS.pushG {w1 : World} {x : Gl} {g1 cp1 : Nat} (h : PgS X w W pg gv fv fl) (hC : Cur X w v W s ns u)
    (hr : w1.ownsRow X.base tG 4 (.slice (some ⟨g1, 0, none⟩) (pg.g.length + 1) cp1) (pg.g.length + 1) (glCells pg.g ++ (glA x).toList)) (hg : (W.alloc (.cells (glA x) tG)).grownBy w1 gv.ownBlock) (hgl : gv.ownBlock = some g1 ∨ g1 = W.heap.size + 1) :
    Cur X w v w1 s ns u ∧ PgS X w w1 ⟨pg.g ++ [x], pg.f, pg.t⟩ (.slice (some ⟨g1, 0, none⟩) (pg.g.length + 1) cp1) fv fl := by
  obtain ⟨h1, h2⟩ := h.gs.push strG hC hr hg (by
    rcases hgl with e | e
    · exact .inl (by rw [e]; rfl)
    · exact .inr fun g e1 => by simp [Value.ownBlock] at e1; omega)
  have hb : Below W.heap.size W (W.alloc (.cells (glA x) tG)) := (Below.refl _ _).alloc (Nat.le_refl _) _
  refine ⟨h1, ⟨by rw [glCells_snoc, List.length_append]; exact h2, (h.fs.go hb).grown hg fun i hi e => ?_, h.fe, fun y hy => ((h.ps y hy).go hb).grown hg fun i hi e => ?_⟩⟩
  · obtain ⟨-, -, c, hc⟩ := h.gs.blk e
    exact (h.fs.away hc (by decide) i hi) rfl
  · obtain ⟨-, -, c, hc⟩ := h.gs.blk e
    exact ((h.ps y hy).away hc (by decide) i hi) rfl
/-- A function more. -/
theorem PgS.pushF {w1 : World} {x : Fn'} {pv : Value} {g1 cp1 : Nat} {t : Fo} (h : PgS X w W pg gv fv fl) (hC : Cur X w v W s ns u) (hp : PmS X w W pv x.ps)
    (hr : w1.ownsRow X.base tFn 6 (.slice (some ⟨g1, 0, none⟩) (fl.length + 1) cp1) (fl.length + 1) (fnCells fl ++ (fnA x pv x.b).toList)) (hg : (W.alloc (.cells (fnA x pv x.b) tFn)).grownBy w1 fv.ownBlock) (hgl : fv.ownBlock = some g1 ∨ g1 = W.heap.size + 1) :
    Cur X w v w1 s ns u ∧ PgS X w w1 ⟨pg.g, pg.f ++ [x], t⟩ gv (.slice (some ⟨g1, 0, none⟩) (fl.length + 1) cp1) (fl ++ [(x, pv)]) := by
  obtain ⟨h1, h2⟩ := h.fs.push strFn hC hr hg (by
    rcases hgl with e | e
    · exact .inl (by rw [e]; rfl)
    · exact .inr fun g e1 => by simp [Value.ownBlock] at e1; omega)
  have hb : Below W.heap.size W (W.alloc (.cells (fnA x pv x.b) tFn)) := (Below.refl _ _).alloc (Nat.le_refl _) _
  refine ⟨h1, ⟨(h.gs.go hb).grown hg fun i hi e => ?_, by rw [fnCells_snoc, List.length_append]; exact h2, by rw [List.map_append, h.fe]; rfl, fun y hy => ?_⟩⟩
  · obtain ⟨-, -, c, hc⟩ := h.fs.blk e
    exact (h.gs.away hc (by decide) i hi) rfl
  · rcases List.mem_append.1 hy with hy | hy
    · refine ((h.ps y hy).go hb).grown hg fun i hi e => ?_
      obtain ⟨-, -, c, hc⟩ := h.fs.blk e
      exact ((h.ps y hy).away hc (by decide) i hi) rfl
    · simp at hy
      subst hy
      refine (hp.go hb).grown hg fun i hi e => ?_
      obtain ⟨-, -, c, hc⟩ := h.fs.blk e
      exact (hp.away hc (by decide) i hi) rfl
end

theorem shape_row {w : World} {base size n : Nat} {t : TypeId} {v : Value} {xs : List Value} (h : w.ownsRow base t size v n xs) : ∃ A c, v = .slice A n c := by
  rcases h.2 with ⟨hv, h0⟩ | ⟨g, cap, cur, hv, _⟩
  · exact ⟨none, 0, by rw [hv, h0]⟩
  · exact ⟨_, _, hv⟩
theorem Cur.row_2 {X : Rdr} {w W : World} {v u : Value} {s : St} {ns : List NV} {j : Nat} {t : TypeId} {cs : Array Value} (h : Cur X w v W s ns u) (hl : Loc X W u j t cs) (hw : w.heap.size ≤ j) (ht : t ≠ tR ∧ t ≠ tI) (cs' : Array Value) : Cur X w v (W.setRow j cs') s ns u := h.row_ hl hw ht cs'
theorem PgS.row_ {X : Rdr} {w W : World} {pg : Pg} {gv fv : Value} {fl : List (Fn' × Value)} (h : PgS X w W pg gv fv fl) {j : Nat} {c : Array Value} (hl : W.heap[j]? = some (.cells c tPg (0, 0))) (cs : Array Value) : PgS X w (W.setRow j cs) pg gv fv fl :=
  ⟨⟨row_keep h.gs.row fun i hi => setRow_other W j i cs (h.gs.away hl (by decide) i hi), h.gs.new⟩, ⟨row_keep h.fs.row fun i hi => setRow_other W j i cs (h.fs.away hl (by decide) i hi), h.fs.new⟩, h.fe, fun x hx => (h.ps x hx).row_ ((h.ps x hx).away hl (by decide)) cs⟩

theorem Loc.grow {X : Rdr} {W W' : World} {u : Value} {j : Nat} {t : TypeId} {cs : Array Value} {r : Option Nat} (h : Loc X W u j t cs) (hg : W.grownBy W' r) (hne : ∀ i, r = some i → i ≠ j) : Loc X W' u j t cs :=
  ⟨(hg.block j h.blk.lt (fun e => hne j e.symm rfl)).trans h.blk, h.neb, h.neo, h.base⟩
theorem PmS.old {X : Rdr} {w W0 W : World} {pv : Value} {l : List Pm} (h : PmS X W0 W pv l) (hs : w.heap.size ≤ W0.heap.size) : PmS X w W pv l := h.imp id fun ⟨g, n, cp, h1, h2⟩ => ⟨g, n, cp, h1, h2.old hs⟩
theorem flat3 {w : World} {ns nk : List NV} {a b : Fo} (h : Fl w ns a 0) (k : Fl w nk b ns.length) : Fl w (ns ++ nk) (a.app b) 0 := by
  refine flat2 h ?_
  rw [len_of_flat h] at k
  simpa using k
theorem gl_cases {X : Rdr} {w : World} {v : Value} {W : World} {ns : List NV} {u : Value} {R : Rs Gl} {e : Ending} {w' : World} (h : RC X w v W ns u glV R e w') :
    (∃ no p, R = .er no p ∧ e = .panicked [{ v := .iface tF (faultV no p), recovered := false }] ∧ Below X.base w w') ∨ (∃ x s', R = .ok x s' ∧ e = .returned (.agg #[.string (str x.s), .int .i64 x.ty, .int .i64 x.n, .int .i64 x.p]) ∧ Cur X w v w' s' ns u ∧ Kp X W u w' u) := h.cases
theorem RFn.cases {X : Rdr} {w : World} {ns : List NV} {v : Value} {R : Rs (Fn' × Fo)} {e : Ending} {w' : World} (h : RFn X w ns v R e w') :
    (∃ no p, R = .er no p ∧ e = .panicked [{ v := .iface tF (faultV no p), recovered := false }] ∧ Below X.base w w') ∨
    (∃ x t s' v' nk A n c, R = .ok (x, t) s' ∧ e = .returned (.agg #[.string (str x.s), .int .i64 x.ty, .slice A n c, .int .i64 (x.b : Nat), .int .i64 x.p, .slice none 0 0]) ∧ PmS X w w' (.slice A n c) x.ps ∧ At X w' s' (ns ++ nk) v' ∧ Kp X w v w' v' ∧ Fl w nk t ns.length) := by
  cases R with
  | ok x s' =>
    obtain ⟨v', nk, pv, h1, h2, h3, h4, h5⟩ := h
    obtain ⟨A, n, c, rfl⟩ : ∃ A n c, pv = .slice A n c := by
      rcases h2 with ⟨_, hv⟩ | ⟨g, n, cp, hv, _⟩
      · exact ⟨_, _, _, hv⟩
      · exact ⟨_, _, _, hv⟩
    exact .inr ⟨x.1, x.2, s', v', nk, A, n, c, rfl, h1, h2, h3, h4, h5⟩
  | er no p => exact .inl ⟨no, p, rfl, h⟩
  | out => exact h.elim

/-- The answer of program. -/
def RPg (X : Rdr) (w : World) (v : Value) (R : Rs Pg) (e : Ending) (w' : World) : Prop :=
  match R with
  | .ok pg s => ∃ u ns gv fv fl, e = .returned (.agg #[gv, fv, u]) ∧ Cur X w v w' s ns u ∧ Fl w ns pg.t 0 ∧ PgS X w w' pg gv fv fl
  | .er no p => e = Pan no p ∧ Below X.base w w'
  | .out => False
theorem fld_0 (t : Tok) (w : World) : (Instr.field tE (.agg #[.int .i64 t.k, .int .i64 t.p, .int .i64 t.n, .string (str t.s)]) 0).run Tryz.prog w = .ok (.int .i64 t.k) w := by
  kernel_rfl
theorem pgInfo : (Tryz.prog.info? tPg).map (·.size) = some 3 := by kernel_rfl
theorem ret_pg {fn : Func} {R : Ending → World → Prop} {a : Act} {w : World} {b : Nat} {p : Nat} {x y z : Value} {T : TypeId} {fr : Nat × Nat} (hf : fn.results = #[.cell p tPg]) (hd : a.defers = [])
    (h2 : a.tmps.getD p undef = .pointer (some ⟨b, 0, none⟩)) (hb : w.heap[b]? = some (.cells #[x, y, z] T fr))
    (hR : R (.returned (.agg #[x, y, z])) w) : bodyPost Tryz.prog fn R .ret a w :=
  bodyPost_ret (v := .agg #[x, y, z]) (results_cell_row hf _ _ b T _ fr _ h2 hb Tryz.underlying27 rfl pgInfo) hd hR

set_option maxHeartbeats 4000000 in
set_option maxRecDepth 100000 in
theorem program_any {X : Rdr} {es : Array MapEntry} {clock : Nat} (hmo : X.mo = .map es clock) (hes : es.toList = stEs) (n : Nat) {w : World} {s : St} (h : At X w s [] (.slice none 0 0)) (hfu : 4 * s.l.length + 5 ≤ n) :
    Calls Tryz.prog 44 #[rd X] w (RPg X w (.slice none 0 0) (progM X.e n ⟨[], [], .nil⟩ s)) := by
  obtain ⟨ig, hig, hgz0, hgz1, hgz2⟩ := info_parts infoG
  obtain ⟨ifn, hif, hfz0, hfz1, hfz2⟩ := info_parts infoFn
  have h0 := Cur.start h
  have e1 : (w.alloc (.cells #[.slice none 0 0, .slice none 0 0, .slice none 0 0] tPg)).heap.size = w.heap.size + 1 := by simp
  have R0 := Lib.hid ((h0.new tPg #[.slice none 0 0, .slice none 0 0, .slice none 0 0]).alloc (.cells #[.slice none 0 0, .slice none 0 0, .slice none 0 0] tPg))
  have N0' := (h0.alloc (.cells #[.slice none 0 0, .slice none 0 0, .slice none 0 0] tPg)).new tPg #[.slice none 0 0, .slice none 0 0, .slice none 0 0]
  rw [e1] at N0'
  have N0 := Lib.hid N0'
  have C0 := Lib.hid ((h0.alloc (.cells #[.slice none 0 0, .slice none 0 0, .slice none 0 0] tPg)).alloc (.cells #[.slice none 0 0, .slice none 0 0, .slice none 0 0] tPg))
  obtain ⟨M, hM⟩ : ∃ M, progM X.e n ⟨[], [], .nil⟩ s = M := ⟨_, rfl⟩
  rw [hM]
  have HM := Lib.hid hM
  have HMo : Hid (M ≠ .out) := Lib.hid (by
    rw [← hM]
    intro h'
    have := prog_ends h.fin n ⟨[], [], .nil⟩ s hfu
    rw [h'] at this
    exact this)
  have HF := Lib.hid h.fin
  have HT := Lib.hid h.len
  have hfl := fun t W => fld_0 t W
  clear hM h h0 e1 N0'
  go_enter Tryz.func44, Tryz.ntmps44
  go_wp2_with fail
  go_loopg [] n (fun g wx => ∃ (pg : Pg) (s' : St) (ns : List NV) (u gv fv : Value) (fl : List (Fn' × Value)), (g ≤ n ∧ 4 * s'.l.length + 5 ≤ g) ∧ Cur X w (.slice none 0 0) wx s' ns u ∧ Fl w ns pg.t 0 ∧ PgS X w wx pg gv fv fl ∧ Loc X wx u (w.heap.size + 1) tPg #[gv, fv, .slice none 0 0] ∧ Loc X wx u w.heap.size tPg #[.slice none 0 0, .slice none 0 0, .slice none 0 0] ∧ pg.g.length + fl.length + s'.l.length ≤ X.T.length ∧ M = progM X.e g pg s')
  case atStart => exact ⟨⟨[], [], .nil⟩, s, [], _, _, _, [], ⟨Nat.le_refl _, hfu⟩, C0.out, Fl.nil _ _, PgS.nil _ _ _, N0.out, R0.out, by have := C0.out.at_.pos.2; simp; omega, HM.out.symm⟩
  case round =>
    obtain ⟨pg, s', ns, u, gv, fv, fl, hg, hC, hF, hP, hN, hR, hL, hM1⟩ := hrel
    cases gk with
    | zero => exact absurd hM1 HMo.out
    | succ j =>
    have hM2 : M = if (pk X.e s').k = 4 then .ok pg s' else (itemM X.e j pg s').bind fun p s => progM X.e j p s := hM1
    have C1 := Lib.hid hC
    have F1 := Lib.hid hF
    have P1 := Lib.hid hP
    have N1 := Lib.hid hN
    have R1 := Lib.hid hR
    have HM2 := Lib.hid hM2
    have HL := Lib.hid hL
    clear hC hF hP hN hR hM1 hM2 hL
    go_wp2_with fail
    refine (c_peek C1.out).mono ?_
    rintro e w2 ⟨rfl, hC, hK⟩
    have C2 := Lib.hid hC
    have P2 := Lib.hid (P1.out.kept C1.out.at_ hK)
    have N2 := Lib.hid (N1.out.kept hK)
    have R2 := Lib.hid (R1.out.kept hK)
    clear hC hK P1 N1 R1
    rw [str_eta]
    by_cases h4 : (pk X.e s').k = 4
    · have d4 : ((pk X.e s').k != 4) = false := by simpa using h4
      have HE := Lib.hid (show M = .ok pg s' by rw [HM2.out, if_pos h4])
      clear h4
      obtain ⟨gA, gc, rfl⟩ := shape_row P2.out.gs.row
      obtain ⟨fA, fc, rfl⟩ := shape_row P2.out.fs.row
      obtain ⟨uA, uc, rfl⟩ := shape_row C2.out.at_.rows
      generalize hgn : pg.g.length = gn at *
      generalize hfn : fl.length = fn at *
      generalize hun : ns.length = un at *
      have HL3 := Lib.hid (And.intro hgn (And.intro hfn hun))
      clear hgn hfn hun
      have Nc2 := N2.out.blk.cell 2
      have Nf2 := N2.out.blk.frozen 2
      have Ncl := N2.out.blk.lt
      have hc6 := C2.out.at_.blk.cell 6
      simp only [rdCells, List.getElem?_toArray, List.getElem?_cons_zero, List.getElem?_cons_succ] at Nc2 hc6
      have hXb := C2.out.at_.blk.lt
      unfold rd
      go_upto_region 9 with (fail)
      clear Nc2 Nf2 Ncl hc6 hXb
      have C5 := C2.out.set_ N2.out (by omega) (by decide) 2 (.slice uA un uc)
      have N5 : Loc X (w2.setCell ⟨w.heap.size + 1, 2, none⟩ (.slice uA un uc)) (.slice uA un uc) (w.heap.size + 1) tPg #[.slice gA gn gc, .slice fA fn fc, .slice uA un uc] := N2.out.set_ 2 (.slice uA un uc)
      have R5 := (R2.out.far (i := w.heap.size + 1) (by omega) 2 (.slice uA un uc))
      have P5 := P2.out.set_ N2.out.blk 2 (.slice uA un uc)
      generalize w2.setCell ⟨w.heap.size + 1, 2, none⟩ (.slice uA un uc) = W5 at C5 N5 R5 P5 ⊢
      have NB := Lib.hid N5.blk
      have RB := Lib.hid R5.blk
      have C9 := Lib.hid (C5.row_ R5 (Nat.le_refl _) (by decide) #[.slice gA gn gc, .slice fA fn fc, .slice uA un uc])
      have P9 := Lib.hid (P5.row_ R5.blk #[.slice gA gn gc, .slice fA fn fc, .slice uA un uc])
      have HR9 := Lib.hid (setRow_heap W5 w.heap.size _ #[.slice gA gn gc, .slice fA fn fc, .slice uA un uc] tPg (0, 0) R5.blk)
      clear C5 N5 R5 P5
      refine wp_region_list ?_
      refine wpList_load_row rfl tPg _ rfl (w.heap.size + 1) rfl tPg #[.slice gA gn gc, .slice fA fn fc, .slice uA un uc] (0, 0) _ NB.out Tryz.underlying27 rfl pgInfo ?_
      refine wpList_store_row rfl tPg _ _ rfl w.heap.size #[.slice gA gn gc, .slice fA fn fc, .slice uA un uc] rfl rfl tPg #[.slice none 0 0, .slice none 0 0, .slice none 0 0] RB.out pgInfo rfl (by simp [Value.oneCell']) ?_
      refine wpList_nil ?_
      go_wp2_with fail
      refine ret_pg (b := w.heap.size) (T := tPg) (fr := (0, 0)) (x := .slice gA gn gc) (y := .slice fA fn fc) (z := .slice uA un uc) rfl rfl rfl HR9.out ?_
      rw [HE.out]
      exact ⟨_, ns, _, _, fl, rfl, C9.out, F1.out, P9.out⟩
    · have d4 : ((pk X.e s').k != 4) = true := by simpa using h4
      have HE := Lib.hid (show M = (itemM X.e j pg s').bind fun p s => progM X.e j p s by rw [HM2.out, if_neg h4])
      clear h4
      go_wp2_with fail
      refine (c_typed4 C2.out rfl 0 1 2 3).mono ?_
      intro e w3 hR
      rcases hR.cases with ⟨no, p, hm, rfl, hb⟩ | ⟨kind, s3, hm, rfl, hC, hK⟩
      · have HH := Lib.hid (And.intro (show M = .er no p by rw [HE.out]; simp only [itemM, hm, Rs.bind_er]) hb)
        clear hm hb hR
        go_wp2_with fail
        refine panic_end rfl ?_
        rw [HH.out.1]
        exact ⟨rfl, HH.out.2⟩
      have HI3 := Lib.hid (show itemM X.e j pg s' = (nameM X.e s3).bind fun t s => if kind = 0 ∨ (kind ≠ 3 ∧ isT X.e [40] s) then (functionM X.e j kind t s).bind fun x s => .ok ⟨pg.g, pg.f ++ [x.1], pg.t.app x.2⟩ s else (globalM X.e kind t s).bind fun g s => .ok ⟨pg.g ++ [g], pg.f, pg.t⟩ s by simp only [itemM, hm, Rs.bind_ok])
      have C3 := Lib.hid hC
      have P3 := Lib.hid (P2.out.kept C2.out.at_ hK)
      have N3 := Lib.hid (N2.out.kept hK)
      have R3 := Lib.hid (R2.out.kept hK)
      clear hm hC hK hR P2 N2 R2 C1
      go_wp2_with fail
      refine (c_name C3.out).mono ?_
      intro e w4 hR
      rcases hR.cases with ⟨no, p, hm, rfl, hb⟩ | ⟨t, s4, hm, rfl, hC, hK⟩
      · have HH := Lib.hid (And.intro (show M = .er no p by rw [HE.out, HI3.out]; simp only [hm, Rs.bind_er]) hb)
        clear hm hb hR
        go_wp2_with fail
        refine panic_end rfl ?_
        rw [HH.out.1]
        exact ⟨rfl, HH.out.2⟩
      have HI4 := Lib.hid (show itemM X.e j pg s' = if kind = 0 ∨ (kind ≠ 3 ∧ isT X.e [40] s4) then (functionM X.e j kind t s4).bind fun x s => .ok ⟨pg.g, pg.f ++ [x.1], pg.t.app x.2⟩ s else (globalM X.e kind t s4).bind fun g s => .ok ⟨pg.g ++ [g], pg.f, pg.t⟩ s by rw [HI3.out, hm]; rfl)
      have T4 := Lib.hid (hC.new tE #[.int .i64 t.k, .int .i64 t.p, .int .i64 t.n, .string (str t.s)])
      have C4 := Lib.hid (hC.alloc (.cells #[.int .i64 t.k, .int .i64 t.p, .int .i64 t.n, .string (str t.s)] tE))
      have P4 := Lib.hid ((P3.out.kept C3.out.at_ hK).go ((Below.refl _ w4).alloc (Nat.le_refl _) (.cells #[.int .i64 t.k, .int .i64 t.p, .int .i64 t.n, .string (str t.s)] tE)))
      have N4 := Lib.hid ((N3.out.kept hK).alloc (.cells #[.int .i64 t.k, .int .i64 t.p, .int .i64 t.n, .string (str t.s)] tE))
      have R4 := Lib.hid ((R3.out.kept hK).alloc (.cells #[.int .i64 t.k, .int .i64 t.p, .int .i64 t.n, .string (str t.s)] tE))
      have hbt : w.heap.size ≤ w4.heap.size := hC.kp.size
      clear hm hC hK hR P3 N3 R3 C3 HI3
      rw [str_eta]
      by_cases hk0 : kind = 0
      · have dk0 : (kind == 0) = true := by simpa using hk0
        have HK0 := Lib.hid hk0
        clear hk0
        go_upto_region 6 with (fail)
        generalize w4.alloc (.cells #[.int .i64 t.k, .int .i64 t.p, .int .i64 t.n, .string (str t.s)] tE) = w5 at *
        have HI5 := Lib.hid (show itemM X.e j pg s' = (functionM X.e j kind t s4).bind fun x s => .ok ⟨pg.g, pg.f ++ [x.1], pg.t.app x.2⟩ s by rw [HI4.out, if_pos (.inl HK0.out)])
        have hno5 : functionM X.e j kind t s4 ≠ .out := fun h' => HMo.out (by rw [HE.out, HI5.out, h']; rfl)
        have HX5 := Lib.hid (fun (W : World) (hW : Below (w5).heap.size w5 W) => (function_any hmo hes j (C4.out.go hW).at_ kind t hno5).mono fun e w' hr => hr.cases)
        have HXe := Lib.hid (show ∀ no p, functionM X.e j kind t s4 = .er no p → M = .er no p from fun no p hm => by rw [HE.out, HI5.out, hm]; rfl)
        have hlen : fl.length ≤ 2000000 := by have := HL.out; have := HT.out; omega
        obtain ⟨t0, t1, t2, t3, tl⟩ := T4.out.blk.tok
        have Mc1 := N4.out.blk.cell 1
        have Mf1 := N4.out.blk.frozen 1
        have Ml := N4.out.blk.lt
        simp only [List.getElem?_toArray, List.getElem?_cons_zero, List.getElem?_cons_succ] at Mc1
        clear hno5
        go_wp2_with fail
        go_region_law (first | (go_simp; go_at_call 83; refine (HX5.out _ (by exact bd1 _)).mono ?_; intro e w6 hR; rcases hR with ⟨no, p, hm, rfl, hb⟩ | ⟨x, tr, s6, u6, nk, pA, pn, pc, hm, rfl, hPm, hA, hK, hF⟩; (refine panic_end rfl ?_; rw [HXe.out no p hm]; exact ⟨rfl, (C4.out.go (bd1 _)).low.trans hb⟩); have C6 := Lib.hid ((C4.out.go (bd1 _)).step hA hK); have P6 := Lib.hid ((P4.out.go (bd1 _)).kept (C4.out.go (bd1 _)).at_ hK); have N6 := Lib.hid ((N4.out.go (bd1 _)).kept hK); have R6 := Lib.hid ((R4.out.go (bd1 _)).kept hK); have M6 := Lib.hid (hPm.old (w := w) (C4.out.kp.size)); have F6 := Lib.hid (flat3 F1.out (hF.old (w := w) (C4.out.kp.size))); have E6 := Lib.hid hm; have HR6 := Lib.hid (P6.out.fs.row.alloc (.cells (fnA x (.slice pA pn pc) x.b) tFn)); have Pc1 := N6.out.blk.cell 1; have Pf1 := N6.out.blk.frozen 1; have Pl := N6.out.blk.lt; simp only [List.getElem?_toArray, List.getElem?_cons_zero, List.getElem?_cons_succ] at Pc1; clear hm hPm hA hK hF) | (refine step_append_lies _ rfl (.tmp 26) (.tmp 31) 24 rfl X.base tFn ifn _ 6 88 Tryz.underlying24 hif hfz0 hfz1 hfz2 rfl (by decide) fv fl.length (fnCells fl) (by simp [Act.eval, Act.put]) HR6.out ⟨w6.heap.size, 0, none⟩ 1 1 (fnA x (.slice pA pn pc) x.b).toList (by simp [Act.eval, Act.put]) rfl (World.news_of_block (cs := fnA x (.slice pA pn pc) x.b) (heap_alloc_new w6 _)) (by simp [fnA, Value.oneCell']) (by decide) (by unfold maxLen; omega) (by omega) (by have := C6.out.at_.baselt; simp; omega) (w6.heap.size + 1) (by simp) ?_; intro g7 cp7 w7 hr7 hg7 hgl7 hlt7; have hp := P6.out.pushF (t := pg.t.app tr) C6.out M6.out hr7 hg7 hgl7; have N7 := Lib.hid ((N6.out.alloc (.cells (fnA x (.slice pA pn pc) x.b) tFn)).grow hg7 (fun i hi => P6.out.fs.away N6.out.blk (by decide) i hi)); have R7 := Lib.hid ((R6.out.alloc (.cells (fnA x (.slice pA pn pc) x.b) tFn)).grow hg7 (fun i hi => P6.out.fs.away R6.out.blk (by decide) i hi)); have HP := Lib.hid hp; have Qc1 := N7.out.blk.cell 1; have Qf1 := N7.out.blk.frozen 1; have Ql := N7.out.blk.lt; simp only [List.getElem?_toArray, List.getElem?_cons_zero, List.getElem?_cons_succ] at Qc1; clear hp hr7 hg7 hgl7))
        all_goals
          have C8 := Lib.hid (HP.out.1.set_ N7.out (Nat.le_succ _) (by decide) 1 (.slice (some ⟨g7, 0, none⟩) (fl.length + 1) cp7))
          have P8 := Lib.hid (HP.out.2.set_ N7.out.blk 1 (.slice (some ⟨g7, 0, none⟩) (fl.length + 1) cp7))
          have N8 : Hid (Loc X _ u6 (w.heap.size + 1) tPg #[gv, .slice (some ⟨g7, 0, none⟩) (fl.length + 1) cp7, .slice none 0 0]) := Lib.hid (N7.out.set_ 1 (.slice (some ⟨g7, 0, none⟩) (fl.length + 1) cp7))
          have R8 := Lib.hid (R7.out.far (i := w.heap.size + 1) (by omega) 1 (.slice (some ⟨g7, 0, none⟩) (fl.length + 1) cp7))
          have HM8 : Hid (M = progM X.e j ⟨pg.g, pg.f ++ [x], pg.t.app tr⟩ s6) := Lib.hid (by rw [HE.out, HI5.out, E6.out]; rfl)
          have hs6 : s6.l.length + 1 ≤ s'.l.length := by
            have h1 := item_ends HF.out j pg s' (by have := hg.2; omega)
            rw [HI5.out, E6.out] at h1
            exact h1
          have HL8 : Hid (pg.g.length + (fl ++ [(x, Value.slice pA pn pc)]).length + s6.l.length ≤ X.T.length) := Lib.hid (by have := HL.out; rw [List.length_append]; simp; omega)
          go_wp2_with fail
          go_roundg j
          case measure => omega
          case rel => exact ⟨⟨pg.g, pg.f ++ [x], pg.t.app tr⟩, s6, ns ++ nk, u6, gv, .slice (some ⟨g7, 0, none⟩) (fl.length + 1) cp7, fl ++ [(x, .slice pA pn pc)], ⟨by omega, by omega⟩, C8.out, F6.out, P8.out, N8.out, R8.out, HL8.out, HM8.out⟩
      · have dk0 : (kind == 0) = false := by simpa using hk0
        by_cases hk3 : kind = 3
        · have dk3 : (kind != 3) = false := by simpa using hk3
          have HK := Lib.hid (And.intro hk0 hk3)
          clear hk0 hk3
          go_upto_region 7 with (fail)
          generalize w4.alloc (.cells #[.int .i64 t.k, .int .i64 t.p, .int .i64 t.n, .string (str t.s)] tE) = w5 at *
          have HI5 := Lib.hid (show itemM X.e j pg s' = (globalM X.e kind t s4).bind fun g s => .ok ⟨pg.g ++ [g], pg.f, pg.t⟩ s by rw [HI4.out, if_neg (fun h => h.elim (fun h => HK.out.1 h) fun h => h.1 HK.out.2)])
          have HX5 := Lib.hid (fun (W : World) (hW : Below (w5).heap.size w5 W) => (global_any (C4.out.go hW) kind t).mono fun e w' hr => gl_cases hr)
          have HXe := Lib.hid (show ∀ no p, globalM X.e kind t s4 = .er no p → M = .er no p from fun no p hm => by rw [HE.out, HI5.out, hm]; rfl)
          have hlen : pg.g.length ≤ 2000000 := by have := HL.out; have := HT.out; omega
          obtain ⟨t0, t1, t2, t3, tl⟩ := T4.out.blk.tok
          have Mc1 := N4.out.blk.cell 0
          have Mf1 := N4.out.blk.frozen 0
          have Ml := N4.out.blk.lt
          simp only [List.getElem?_toArray, List.getElem?_cons_zero, List.getElem?_cons_succ] at Mc1
          go_wp2_with fail
          go_region_law (first | (go_simp; go_at_call 84; refine (HX5.out _ (by exact bd1 _)).mono ?_; intro e w6 hR; rcases hR with ⟨no, p, hm, rfl, hb⟩ | ⟨x, s6, hm, rfl, hC, hK⟩; (refine panic_end rfl ?_; rw [HXe.out no p hm]; exact ⟨rfl, hb⟩); have C6 := Lib.hid hC; have P6 := Lib.hid ((P4.out.go (bd1 _)).kept (C4.out.go (bd1 _)).at_ hK); have N6 := Lib.hid ((N4.out.go (bd1 _)).kept hK); have R6 := Lib.hid ((R4.out.go (bd1 _)).kept hK); have E6 := Lib.hid hm; have HR6 := Lib.hid (P6.out.gs.row.alloc (.cells (glA x) tG)); have Pc1 := N6.out.blk.cell 0; have Pf1 := N6.out.blk.frozen 0; have Pl := N6.out.blk.lt; simp only [List.getElem?_toArray, List.getElem?_cons_zero, List.getElem?_cons_succ] at Pc1; clear hm hC hK) | (refine step_append_lies _ rfl (.tmp 35) (.tmp 40) 23 rfl X.base tG ig _ 4 40 Tryz.underlying23 hig hgz0 hgz1 hgz2 rfl (by decide) gv pg.g.length (glCells pg.g) (by simp [Act.eval, Act.put]) HR6.out ⟨w6.heap.size, 0, none⟩ 1 1 (glA x).toList (by simp [Act.eval, Act.put]) rfl (World.news_of_block (cs := glA x) (heap_alloc_new w6 _)) (by simp [glA, Value.oneCell']) (by decide) (by unfold maxLen; omega) (by omega) (by have := C6.out.at_.baselt; simp; omega) (w6.heap.size + 1) (by simp) ?_; intro g7 cp7 w7 hr7 hg7 hgl7 hlt7; have hp := P6.out.pushG C6.out hr7 hg7 hgl7; have N7 := Lib.hid ((N6.out.alloc (.cells (glA x) tG)).grow hg7 (fun i hi => P6.out.gs.away N6.out.blk (by decide) i hi)); have R7 := Lib.hid ((R6.out.alloc (.cells (glA x) tG)).grow hg7 (fun i hi => P6.out.gs.away R6.out.blk (by decide) i hi)); have HP := Lib.hid hp; have Qc1 := N7.out.blk.cell 0; have Qf1 := N7.out.blk.frozen 0; have Ql := N7.out.blk.lt; simp only [List.getElem?_toArray, List.getElem?_cons_zero, List.getElem?_cons_succ] at Qc1; clear hp hr7 hg7 hgl7))
          all_goals
            have C8 := Lib.hid (HP.out.1.set_ N7.out (Nat.le_succ _) (by decide) 0 (.slice (some ⟨g7, 0, none⟩) (pg.g.length + 1) cp7))
            have P8 := Lib.hid (HP.out.2.set_ N7.out.blk 0 (.slice (some ⟨g7, 0, none⟩) (pg.g.length + 1) cp7))
            have N8 : Hid (Loc X _ u (w.heap.size + 1) tPg #[.slice (some ⟨g7, 0, none⟩) (pg.g.length + 1) cp7, fv, .slice none 0 0]) := Lib.hid (N7.out.set_ 0 (.slice (some ⟨g7, 0, none⟩) (pg.g.length + 1) cp7))
            have R8 := Lib.hid (R7.out.far (i := w.heap.size + 1) (by omega) 0 (.slice (some ⟨g7, 0, none⟩) (pg.g.length + 1) cp7))
            have HM8 : Hid (M = progM X.e j ⟨pg.g ++ [x], pg.f, pg.t⟩ s6) := Lib.hid (by rw [HE.out, HI5.out, E6.out]; rfl)
            have hs6 : s6.l.length + 1 ≤ s'.l.length := by
              have h1 := item_ends HF.out j pg s' (by have := hg.2; omega)
              rw [HI5.out, E6.out] at h1
              exact h1
            have HL8 : Hid ((pg.g ++ [x]).length + fl.length + s6.l.length ≤ X.T.length) := Lib.hid (by have := HL.out; rw [List.length_append]; simp; omega)
            go_wp2_with fail
            go_roundg j
            case measure => omega
            case rel => exact ⟨⟨pg.g ++ [x], pg.f, pg.t⟩, s6, ns, u, .slice (some ⟨g7, 0, none⟩) (pg.g.length + 1) cp7, fv, fl, ⟨by omega, by omega⟩, C8.out, F1.out, P8.out, N8.out, R8.out, HL8.out, HM8.out⟩
        · have dk3 : (kind != 3) = true := by simpa using hk3
          have HK := Lib.hid (And.intro hk0 hk3)
          clear hk0 hk3
          go_wp2_with fail
          refine (c_is C4.out [40]).mono ?_
          rintro e w5 ⟨rfl, hC, hK⟩
          have C5 := Lib.hid hC
          have P5 := Lib.hid (P4.out.kept C4.out.at_ hK)
          have N5 := Lib.hid (N4.out.kept hK)
          have R5 := Lib.hid (R4.out.kept hK)
          have T5 := Lib.hid (T4.out.kept hK)
          clear hC hK P4 N4 R4 T4 C4
          cases hq : isT X.e [40] s4
          · have HQ := Lib.hid hq
            clear hq
            have HI5 := Lib.hid (show itemM X.e j pg s' = (globalM X.e kind t s4).bind fun g s => .ok ⟨pg.g ++ [g], pg.f, pg.t⟩ s by rw [HI4.out, if_neg (fun h => h.elim (fun h => HK.out.1 h) fun h => by rw [HQ.out] at h; exact absurd h.2 (by decide))])
            have HX5 := Lib.hid (fun (W : World) (hW : Below (w5).heap.size w5 W) => (global_any (C5.out.go hW) kind t).mono fun e w' hr => gl_cases hr)
            have HXe := Lib.hid (show ∀ no p, globalM X.e kind t s4 = .er no p → M = .er no p from fun no p hm => by rw [HE.out, HI5.out, hm]; rfl)
            have hlen : pg.g.length ≤ 2000000 := by have := HL.out; have := HT.out; omega
            obtain ⟨t0, t1, t2, t3, tl⟩ := T5.out.blk.tok
            have Mc1 := N5.out.blk.cell 0
            have Mf1 := N5.out.blk.frozen 0
            have Ml := N5.out.blk.lt
            simp only [List.getElem?_toArray, List.getElem?_cons_zero, List.getElem?_cons_succ] at Mc1
            go_wp2_with fail
            go_region_law (first | (go_simp; go_at_call 84; refine (HX5.out _ (by exact bd1 _)).mono ?_; intro e w6 hR; rcases hR with ⟨no, p, hm, rfl, hb⟩ | ⟨x, s6, hm, rfl, hC, hK⟩; (refine panic_end rfl ?_; rw [HXe.out no p hm]; exact ⟨rfl, hb⟩); have C6 := Lib.hid hC; have P6 := Lib.hid ((P5.out.go (bd1 _)).kept (C5.out.go (bd1 _)).at_ hK); have N6 := Lib.hid ((N5.out.go (bd1 _)).kept hK); have R6 := Lib.hid ((R5.out.go (bd1 _)).kept hK); have E6 := Lib.hid hm; have HR6 := Lib.hid (P6.out.gs.row.alloc (.cells (glA x) tG)); have Pc1 := N6.out.blk.cell 0; have Pf1 := N6.out.blk.frozen 0; have Pl := N6.out.blk.lt; simp only [List.getElem?_toArray, List.getElem?_cons_zero, List.getElem?_cons_succ] at Pc1; clear hm hC hK) | (refine step_append_lies _ rfl (.tmp 35) (.tmp 40) 23 rfl X.base tG ig _ 4 40 Tryz.underlying23 hig hgz0 hgz1 hgz2 rfl (by decide) gv pg.g.length (glCells pg.g) (by simp [Act.eval, Act.put]) HR6.out ⟨w6.heap.size, 0, none⟩ 1 1 (glA x).toList (by simp [Act.eval, Act.put]) rfl (World.news_of_block (cs := glA x) (heap_alloc_new w6 _)) (by simp [glA, Value.oneCell']) (by decide) (by unfold maxLen; omega) (by omega) (by have := C6.out.at_.baselt; simp; omega) (w6.heap.size + 1) (by simp) ?_; intro g7 cp7 w7 hr7 hg7 hgl7 hlt7; have hp := P6.out.pushG C6.out hr7 hg7 hgl7; have N7 := Lib.hid ((N6.out.alloc (.cells (glA x) tG)).grow hg7 (fun i hi => P6.out.gs.away N6.out.blk (by decide) i hi)); have R7 := Lib.hid ((R6.out.alloc (.cells (glA x) tG)).grow hg7 (fun i hi => P6.out.gs.away R6.out.blk (by decide) i hi)); have HP := Lib.hid hp; have Qc1 := N7.out.blk.cell 0; have Qf1 := N7.out.blk.frozen 0; have Ql := N7.out.blk.lt; simp only [List.getElem?_toArray, List.getElem?_cons_zero, List.getElem?_cons_succ] at Qc1; clear hp hr7 hg7 hgl7))
            all_goals
              have C8 := Lib.hid (HP.out.1.set_ N7.out (Nat.le_succ _) (by decide) 0 (.slice (some ⟨g7, 0, none⟩) (pg.g.length + 1) cp7))
              have P8 := Lib.hid (HP.out.2.set_ N7.out.blk 0 (.slice (some ⟨g7, 0, none⟩) (pg.g.length + 1) cp7))
              have N8 : Hid (Loc X _ u (w.heap.size + 1) tPg #[.slice (some ⟨g7, 0, none⟩) (pg.g.length + 1) cp7, fv, .slice none 0 0]) := Lib.hid (N7.out.set_ 0 (.slice (some ⟨g7, 0, none⟩) (pg.g.length + 1) cp7))
              have R8 := Lib.hid (R7.out.far (i := w.heap.size + 1) (by omega) 0 (.slice (some ⟨g7, 0, none⟩) (pg.g.length + 1) cp7))
              have HM8 : Hid (M = progM X.e j ⟨pg.g ++ [x], pg.f, pg.t⟩ s6) := Lib.hid (by rw [HE.out, HI5.out, E6.out]; rfl)
              have hs6 : s6.l.length + 1 ≤ s'.l.length := by
                have h1 := item_ends HF.out j pg s' (by have := hg.2; omega)
                rw [HI5.out, E6.out] at h1
                exact h1
              have HL8 : Hid ((pg.g ++ [x]).length + fl.length + s6.l.length ≤ X.T.length) := Lib.hid (by have := HL.out; rw [List.length_append]; simp; omega)
              go_wp2_with fail
              go_roundg j
              case measure => omega
              case rel => exact ⟨⟨pg.g ++ [x], pg.f, pg.t⟩, s6, ns, u, .slice (some ⟨g7, 0, none⟩) (pg.g.length + 1) cp7, fv, fl, ⟨by omega, by omega⟩, C8.out, F1.out, P8.out, N8.out, R8.out, HL8.out, HM8.out⟩
          · have HQ := Lib.hid hq
            clear hq
            have HI5 := Lib.hid (show itemM X.e j pg s' = (functionM X.e j kind t s4).bind fun x s => .ok ⟨pg.g, pg.f ++ [x.1], pg.t.app x.2⟩ s by rw [HI4.out, if_pos (.inr ⟨HK.out.2, HQ.out⟩)])
            have hno5 : functionM X.e j kind t s4 ≠ .out := fun h' => HMo.out (by rw [HE.out, HI5.out, h']; rfl)
            have HX5 := Lib.hid (fun (W : World) (hW : Below (w5).heap.size w5 W) => (function_any hmo hes j (C5.out.go hW).at_ kind t hno5).mono fun e w' hr => hr.cases)
            have HXe := Lib.hid (show ∀ no p, functionM X.e j kind t s4 = .er no p → M = .er no p from fun no p hm => by rw [HE.out, HI5.out, hm]; rfl)
            have hlen : fl.length ≤ 2000000 := by have := HL.out; have := HT.out; omega
            obtain ⟨t0, t1, t2, t3, tl⟩ := T5.out.blk.tok
            have Mc1 := N5.out.blk.cell 1
            have Mf1 := N5.out.blk.frozen 1
            have Ml := N5.out.blk.lt
            simp only [List.getElem?_toArray, List.getElem?_cons_zero, List.getElem?_cons_succ] at Mc1
            clear hno5
            go_wp2_with fail
            go_region_law (first | (go_simp; go_at_call 83; refine (HX5.out _ (by exact bd1 _)).mono ?_; intro e w6 hR; rcases hR with ⟨no, p, hm, rfl, hb⟩ | ⟨x, tr, s6, u6, nk, pA, pn, pc, hm, rfl, hPm, hA, hK, hF⟩; (refine panic_end rfl ?_; rw [HXe.out no p hm]; exact ⟨rfl, (C5.out.go (bd1 _)).low.trans hb⟩); have C6 := Lib.hid ((C5.out.go (bd1 _)).step hA hK); have P6 := Lib.hid ((P5.out.go (bd1 _)).kept (C5.out.go (bd1 _)).at_ hK); have N6 := Lib.hid ((N5.out.go (bd1 _)).kept hK); have R6 := Lib.hid ((R5.out.go (bd1 _)).kept hK); have M6 := Lib.hid (hPm.old (w := w) (C5.out.kp.size)); have F6 := Lib.hid (flat3 F1.out (hF.old (w := w) (C5.out.kp.size))); have E6 := Lib.hid hm; have HR6 := Lib.hid (P6.out.fs.row.alloc (.cells (fnA x (.slice pA pn pc) x.b) tFn)); have Pc1 := N6.out.blk.cell 1; have Pf1 := N6.out.blk.frozen 1; have Pl := N6.out.blk.lt; simp only [List.getElem?_toArray, List.getElem?_cons_zero, List.getElem?_cons_succ] at Pc1; clear hm hPm hA hK hF) | (refine step_append_lies _ rfl (.tmp 26) (.tmp 31) 24 rfl X.base tFn ifn _ 6 88 Tryz.underlying24 hif hfz0 hfz1 hfz2 rfl (by decide) fv fl.length (fnCells fl) (by simp [Act.eval, Act.put]) HR6.out ⟨w6.heap.size, 0, none⟩ 1 1 (fnA x (.slice pA pn pc) x.b).toList (by simp [Act.eval, Act.put]) rfl (World.news_of_block (cs := fnA x (.slice pA pn pc) x.b) (heap_alloc_new w6 _)) (by simp [fnA, Value.oneCell']) (by decide) (by unfold maxLen; omega) (by omega) (by have := C6.out.at_.baselt; simp; omega) (w6.heap.size + 1) (by simp) ?_; intro g7 cp7 w7 hr7 hg7 hgl7 hlt7; have hp := P6.out.pushF (t := pg.t.app tr) C6.out M6.out hr7 hg7 hgl7; have N7 := Lib.hid ((N6.out.alloc (.cells (fnA x (.slice pA pn pc) x.b) tFn)).grow hg7 (fun i hi => P6.out.fs.away N6.out.blk (by decide) i hi)); have R7 := Lib.hid ((R6.out.alloc (.cells (fnA x (.slice pA pn pc) x.b) tFn)).grow hg7 (fun i hi => P6.out.fs.away R6.out.blk (by decide) i hi)); have HP := Lib.hid hp; have Qc1 := N7.out.blk.cell 1; have Qf1 := N7.out.blk.frozen 1; have Ql := N7.out.blk.lt; simp only [List.getElem?_toArray, List.getElem?_cons_zero, List.getElem?_cons_succ] at Qc1; clear hp hr7 hg7 hgl7))
            all_goals
              have C8 := Lib.hid (HP.out.1.set_ N7.out (Nat.le_succ _) (by decide) 1 (.slice (some ⟨g7, 0, none⟩) (fl.length + 1) cp7))
              have P8 := Lib.hid (HP.out.2.set_ N7.out.blk 1 (.slice (some ⟨g7, 0, none⟩) (fl.length + 1) cp7))
              have N8 : Hid (Loc X _ u6 (w.heap.size + 1) tPg #[gv, .slice (some ⟨g7, 0, none⟩) (fl.length + 1) cp7, .slice none 0 0]) := Lib.hid (N7.out.set_ 1 (.slice (some ⟨g7, 0, none⟩) (fl.length + 1) cp7))
              have R8 := Lib.hid (R7.out.far (i := w.heap.size + 1) (by omega) 1 (.slice (some ⟨g7, 0, none⟩) (fl.length + 1) cp7))
              have HM8 : Hid (M = progM X.e j ⟨pg.g, pg.f ++ [x], pg.t.app tr⟩ s6) := Lib.hid (by rw [HE.out, HI5.out, E6.out]; rfl)
              have hs6 : s6.l.length + 1 ≤ s'.l.length := by
                have h1 := item_ends HF.out j pg s' (by have := hg.2; omega)
                rw [HI5.out, E6.out] at h1
                exact h1
              have HL8 : Hid (pg.g.length + (fl ++ [(x, Value.slice pA pn pc)]).length + s6.l.length ≤ X.T.length) := Lib.hid (by have := HL.out; rw [List.length_append]; simp; omega)
              go_wp2_with fail
              go_roundg j
              case measure => omega
              case rel => exact ⟨⟨pg.g, pg.f ++ [x], pg.t.app tr⟩, s6, ns ++ nk, u6, gv, .slice (some ⟨g7, 0, none⟩) (fl.length + 1) cp7, fl ++ [(x, .slice pA pn pc)], ⟨by omega, by omega⟩, C8.out, F6.out, P8.out, N8.out, R8.out, HL8.out, HM8.out⟩
end Go.Proofs.YtfaoiajhoifalaaGreatDoor
/-! Pazf -/
namespace Go.Proofs.YtfaoiajhoifalaaGreatDoor
open Go.RowKit
set_option linter.unusedVariables false
set_option linter.unusedSimpArgs false

theorem as_fault (no p : Int) (w : World) : (Instr.typeAssert (.iface tF (.agg #[.int .i64 no, .int .i64 p])) 20 tF true).run Tryz.prog w = .ok (.tuple #[.agg #[.int .i64 no, .int .i64 p], .bool true]) w := by kernel_rfl
theorem as_none (w : World) : (Instr.typeAssert .nilIface 20 tF true).run Tryz.prog w = .ok (.tuple #[.agg #[.int .i64 0, .int .i64 0], .bool false]) w := by kernel_rfl

set_option maxHeartbeats 2000000 in
theorem catch_fault (b : Nat) (no p : Int) (w : World) (hb : Blk w b tD #[.int .i64 0, .int .i64 0]) :
    CallsD Tryz.prog 42 #[.pointer (some ⟨b, 0, none⟩)] (.panicking [{ v := .iface tF (faultV no p), recovered := false }]) w fun e u' w' =>
      e = .returned (.tuple #[]) ∧ u' = .panicking [{ v := .iface tF (faultV no p), recovered := true }] ∧ w' = ((w.alloc (.cells #[.int .i64 no, .int .i64 p] tF)).setCell ⟨b, 0, none⟩ (.int .i64 no)).setCell ⟨b, 1, none⟩ (.int .i64 p) := by
  have hf := as_fault no p
  have HB := Lib.hid hb
  have hfv : faultV no p = .agg #[.int .i64 no, .int .i64 p] := rfl
  rw [hfv]
  clear hb hfv
  refine callsD_of_wpS Tryz.func42 rfl fun c₀ cs hu => ?_
  apply wpS_seq
  apply wpS_region
  simp [wpOpsS, go_sem, recoverD, hu, Tryz.ntmps42, Exit.thenS, hf]
  apply wpS_seq
  apply wpS_region
  simp [wpOpsS, go_sem, Exit.thenS]
  refine wpS_cond (t := true) (by simp [Act.eval]) ?_
  simp only [if_true]
  apply wpS_region
  have hbW : Blk (w.alloc (.cells #[.int .i64 no, .int .i64 p] tF)) b tD #[.int .i64 0, .int .i64 0] := HB.out.alloc _
  have hnW := heap_alloc_new w (.cells #[.int .i64 no, .int .i64 p] tF)
  have hnB : Blk (w.alloc (.cells #[.int .i64 no, .int .i64 p] tF)) w.heap.size tF #[.int .i64 no, .int .i64 p] := hnW
  generalize w.alloc (.cells #[.int .i64 no, .int .i64 p] tF) = W at *
  have c0 : W.cell? ⟨b, 0, none⟩ = some (.int .i64 0) := hbW.cell 0
  have c1 : W.cell? ⟨b, 1, none⟩ = some (.int .i64 0) := hbW.cell 1
  have f0 := hbW.frozen 0
  have f1 := hbW.frozen 1
  have n0 : W.cell? ⟨w.heap.size, 0, none⟩ = some (.int .i64 no) := hnB.cell 0
  have n1 : W.cell? ⟨w.heap.size, 1, none⟩ = some (.int .i64 p) := hnB.cell 1
  have d1 : (W.setCell ⟨b, 0, none⟩ (.int .i64 no)).cell? ⟨b, 1, none⟩ = some (.int .i64 0) := (hbW.set_ 0 _).cell 1
  have g1 := (hbW.set_ 0 (.int .i64 no)).frozen 1
  simp [wpOpsS, go_sem, c0, c1, f0, f1, n0, n1, d1, g1]
  cases c₀
  simp_all [bodyPostS, results, Tryz.results42]
set_option maxHeartbeats 2000000 in
theorem catch_none (b : Nat) (w : World) :
    CallsD Tryz.prog 42 #[.pointer (some ⟨b, 0, none⟩)] .returning w fun e u' w' => e = .returned (.tuple #[]) ∧ u' = .returning ∧ w' = w.alloc (.cells #[.int .i64 0, .int .i64 0] tF) := by
  have hf := as_none
  refine callsD_of_wpS Tryz.func42 rfl fun c₀ cs hu => ?_
  apply wpS_seq
  apply wpS_region
  simp [wpOpsS, go_sem, recoverD, hu, Tryz.ntmps42, Exit.thenS, hf]
  refine wpS_of_wp ?_
  go_wp2
  cases c₀
  simp_all [bodyPostS, results, Tryz.results42]
end Go.Proofs.YtfaoiajhoifalaaGreatDoor
/-! Pazg -/
namespace Go.Proofs.YtfaoiajhoifalaaGreatDoor
open Go.RowKit
set_option linter.unusedVariables false
set_option linter.unusedSimpArgs false

/-- A program in memory of its own (from block B on): globals, functions, parameters, nodes, kids. -/
structure PgM (B : Nat) (w : World) (pg : Pg) (gv fv nv : Value) (fl : List (Fn' × Value)) (ns : List NV) : Prop where
  gs : w.ownsRow B tG 4 gv pg.g.length (glCells pg.g)
  fs : w.ownsRow B tFn 6 fv fl.length (fnCells fl)
  fe : fl.map (·.1) = pg.f
  ps : ∀ x ∈ fl, ∃ n, w.ownsRow B tP 2 x.2 n (pmCells x.1.ps)
  nl : ns.map NV.nd = pg.t.flat 0
  nm : ns.length ≤ 4000
  rows : w.ownsRow B tN 8 nv ns.length (cellsN ns)
  kids : ∀ x ∈ ns, w.ownsRow B tI 1 x.v x.kids.length (kidCells x.kids)
theorem PgM.keep {B : Nat} {w w' : World} {pg : Pg} {gv fv nv : Value} {fl : List (Fn' × Value)} {ns : List NV} (h : PgM B w pg gv fv nv fl ns) (hk : ∀ i, B ≤ i → i < w.heap.size → w'.heap[i]? = w.heap[i]?) : PgM B w' pg gv fv nv fl ns :=
  ⟨row_keep h.gs fun i hi => hk i (h.gs.lt i hi).1 (h.gs.lt i hi).2, row_keep h.fs fun i hi => hk i (h.fs.lt i hi).1 (h.fs.lt i hi).2, h.fe, fun x hx => let ⟨n, hr⟩ := h.ps x hx; ⟨n, row_keep hr fun i hi => hk i (hr.lt i hi).1 (hr.lt i hi).2⟩, h.nl, h.nm,
   row_keep h.rows fun i hi => hk i (h.rows.lt i hi).1 (h.rows.lt i hi).2, fun x hx => row_keep (h.kids x hx) fun i hi => hk i ((h.kids x hx).lt i hi).1 ((h.kids x hx).lt i hi).2⟩
theorem PgM.of {X : Rdr} {w w' : World} {s : St} {pg : Pg} {gv fv u v : Value} {fl : List (Fn' × Value)} {ns : List NV} (hC : Cur X w v w' s ns u) (hF : Fl w ns pg.t 0) (hP : PgS X w w' pg gv fv fl) : PgM X.base w' pg gv fv u fl ns where
  gs := hP.gs.row
  fs := hP.fs.row
  fe := hP.fe
  ps := fun x hx => by
    rcases hP.ps x hx with ⟨h1, h2⟩ | ⟨g, n, cp, h1, h2⟩
    · exact ⟨0, by rw [h1, h2]; exact World.ownsRow_nil _ _ _ _⟩
    · exact ⟨n, by rw [h1]; exact h2.row⟩
  nl := hF.eq
  nm := by have := hC.at_.cnt; have := hC.at_.max; omega
  rows := hC.at_.rows
  kids := hC.at_.kids

theorem row_down {w : World} {base base' size n : Nat} {t : TypeId} {v : Value} {xs : List Value} (h : w.ownsRow base t size v n xs) (hb : base' ≤ base) : w.ownsRow base' t size v n xs :=
  ⟨h.1, h.2.imp id fun ⟨g, cap, cur, h1, h2, h3⟩ => ⟨g, cap, cur, h1, Nat.le_trans hb h2, h3⟩⟩
theorem PgM.down {B B' : Nat} {w : World} {pg : Pg} {gv fv nv : Value} {fl : List (Fn' × Value)} {ns : List NV} (h : PgM B w pg gv fv nv fl ns) (hb : B' ≤ B) : PgM B' w pg gv fv nv fl ns :=
  ⟨row_down h.gs hb, row_down h.fs hb, h.fe, fun x hx => let ⟨n, hr⟩ := h.ps x hx; ⟨n, row_down hr hb⟩, h.nl, h.nm, row_down h.rows hb, fun x hx => row_down (h.kids x hx) hb⟩

/-- The answer of Parse. -/
def PPost (toks : List Tok) (w : World) (e : Ending) (w' : World) : Prop :=
  Below w.heap.size w w' ∧ match parseL toks with
  | .ok pg s => ∃ gv fv nv fl ns, e = .returned (.tuple #[.agg #[gv, fv, nv], .agg #[.int .i64 0, .int .i64 0]]) ∧ PgM w.heap.size w' pg gv fv nv fl ns
  | .er no p => e = .returned (.tuple #[.agg #[.slice none 0 0, .slice none 0 0, .slice none 0 0], .agg #[.int .i64 no, .int .i64 p]])
  | .out => False

set_option maxHeartbeats 4000000 in
set_option maxRecDepth 100000 in
theorem parse_any (toks : List Tok) (m c : Nat) (hm : toks.length = m) (hm2 : m ≤ 2000000) (hmc : m ≤ c) (hcm : c ≤ maxLen) (A : Option Addr) (hA : A = none → c = 0) (w : World) (hr : RdT w w.heap.size A toks) (htx : ∀ t ∈ toks, t.s.length ≤ 140737488355328) (hE : EnvY w) :
    Calls Tryz.prog 18 #[.slice A m c] w (PPost toks w) := by
  have hmf : ∀ (fn : Fn) (first cap : Array Value) (w : World), (Instr.makeFunc fn first cap).run Tryz.prog w = .ok (.func fn first cap) w := fun _ _ _ _ => rfl
  have HM := Lib.hid hm
  have HTX := Lib.hid htx
  have hb0 : Below w.heap.size w ((w.alloc (.cells #[.slice none 0 0, .slice none 0 0, .slice none 0 0] tPg)).alloc (.cells #[.int .i64 0, .int .i64 0] tD)) := ((Below.refl _ _).alloc (Nat.le_refl _) _).alloc (by simp) _
  have HB0 := Lib.hid hb0
  have HR := Lib.hid (hr.below hb0)
  have HE := Lib.hid (hE.below hb0 (Nat.le_refl _))
  have HSZ := Lib.hid hE.szY
  have b0 : Blk ((w.alloc (.cells #[.slice none 0 0, .slice none 0 0, .slice none 0 0] tPg)).alloc (.cells #[.int .i64 0, .int .i64 0] tD)) w.heap.size tPg #[.slice none 0 0, .slice none 0 0, .slice none 0 0] := (Blk.new w tPg _).alloc _
  have b1 := Blk.new (w.alloc (.cells #[.slice none 0 0, .slice none 0 0, .slice none 0 0] tPg)) tD #[.int .i64 0, .int .i64 0]
  have e1 : (w.alloc (.cells #[.slice none 0 0, .slice none 0 0, .slice none 0 0] tPg)).heap.size = w.heap.size + 1 := by simp
  rw [e1] at b1
  have B0 := Lib.hid b0
  have B1 := Lib.hid b1
  clear hm hr htx hE hb0 b0 b1 e1
  go_enter_defers Tryz.func18, Tryz.ntmps18
  go_wp2_with fail
  refine (newReader_any toks m c HM.out hm2 hmc hcm A (w.heap.size + 2) _ (by simp) (HR.out.more (by omega)) hA HTX.out HE.out (by have := HSZ.out; omega)).mono ?_
  rintro e w1 ⟨X, rfl, hA1, hb1, hT, hEe, hbase, hmo, hXb⟩
  have hfu : 4 * (relT toks).length + 5 ≤ fuelT toks := by
    have := (List.takeWhile_sublist (l := toks) fun t => decide (t.k ≠ 4)).length_le
    unfold fuelT relT
    omega
  have h9 := program_any hmo es8_list (fuelT toks) hA1 hfu
  have hPL : progM X.e (fuelT toks) ⟨[], [], .nil⟩ ⟨relT toks, 0⟩ = parseL toks := by rw [hEe]; rfl
  rw [hPL] at h9
  have H9 := Lib.hid h9
  have HX := Lib.hid (And.intro hb1 (And.intro hbase (And.intro hXb hA1)))
  clear h9 hPL hfu hT hEe hmo hA1 hb1
  go_wp2_with fail
  refine H9.out.mono ?_
  intro e w2 hR
  have hb1 : Below (w.heap.size + 2) ((w.alloc (.cells #[.slice none 0 0, .slice none 0 0, .slice none 0 0] tPg)).alloc (.cells #[.int .i64 0, .int .i64 0] tD)) w1 := HX.out.1.mono (by simp)
  have hlow : parseL toks ≠ .out → Below (w.heap.size + 2) w1 w2 := fun _ => by
    rw [← hbase]
    cases h : parseL toks with
    | ok pg s => rw [h] at hR; obtain ⟨u, ns, gv, fv, fl, -, hC, -⟩ := hR; exact hC.low
    | er no p => rw [h] at hR; exact hR.2
    | out => rw [h] at hR; exact hR.elim
  have hl2 := hb1.trans (hlow (parse_ends toks))
  have b0 : Blk w2 w.heap.size tPg #[.slice none 0 0, .slice none 0 0, .slice none 0 0] := (hl2.block _ (by omega)).trans B0.out
  have b1 : Blk w2 (w.heap.size + 1) tD #[.int .i64 0, .int .i64 0] := (hl2.block _ (by omega)).trans B1.out
  have hbw : Below w.heap.size w w2 := HB0.out.trans (hl2.mono (by omega))
  have B0' := Lib.hid b0
  have B1' := Lib.hid b1
  have HBW := Lib.hid hbw
  clear hb1 hlow hl2 hbw B0 B1
  cases hP : parseL toks with
  | out => exact absurd hP (parse_ends toks)
  | er no p =>
    rw [hP] at hR
    obtain ⟨rfl, -⟩ := hR
    have HP := Lib.hid hP
    clear hP b0 b1 hbase hXb
    unfold Pan
    refine leaves_cons (f := 42) (args := #[.pointer (some ⟨w.heap.size + 1, 0, none⟩)]) (by simp) (by simp [go_sem]) ?_
    refine (catch_fault (w.heap.size + 1) no p _ B1'.out).mono ?_
    rintro e u' w'' ⟨rfl, rfl, rfl⟩
    have r0 : Blk (((w2.alloc (.cells #[.int .i64 no, .int .i64 p] tF)).setCell ⟨w.heap.size + 1, 0, none⟩ (.int .i64 no)).setCell ⟨w.heap.size + 1, 1, none⟩ (.int .i64 p)) w.heap.size tPg #[.slice none 0 0, .slice none 0 0, .slice none 0 0] := ((B0'.out.alloc _).far (p := ⟨w.heap.size + 1, 0, none⟩) (by simp) _).far (p := ⟨w.heap.size + 1, 1, none⟩) (by simp) _
    have r1 : Blk (((w2.alloc (.cells #[.int .i64 no, .int .i64 p] tF)).setCell ⟨w.heap.size + 1, 0, none⟩ (.int .i64 no)).setCell ⟨w.heap.size + 1, 1, none⟩ (.int .i64 p)) (w.heap.size + 1) tD #[.int .i64 no, .int .i64 p] := ((B1'.out.alloc _).set_ 0 _).set_ 1 _
    have hbl : Below w.heap.size w (((w2.alloc (.cells #[.int .i64 no, .int .i64 p] tF)).setCell ⟨w.heap.size + 1, 0, none⟩ (.int .i64 no)).setCell ⟨w.heap.size + 1, 1, none⟩ (.int .i64 p)) := ((HBW.out.alloc HBW.out.size _).setCell (p := ⟨w.heap.size + 1, 0, none⟩) (by simp) _).setCell (p := ⟨w.heap.size + 1, 1, none⟩) (by simp) _
    generalize ((w2.alloc (.cells #[.int .i64 no, .int .i64 p] tF)).setCell ⟨w.heap.size + 1, 0, none⟩ (.int .i64 no)).setCell ⟨w.heap.size + 1, 1, none⟩ (.int .i64 p) = W3 at *
    have q0 : W3.cell? ⟨w.heap.size, 0, none⟩ = some (.slice none 0 0) := r0.cell 0
    have q1 : W3.cell? ⟨w.heap.size, 1, none⟩ = some (.slice none 0 0) := r0.cell 1
    have q2 : W3.cell? ⟨w.heap.size, 2, none⟩ = some (.slice none 0 0) := r0.cell 2
    have d0 : W3.cell? ⟨w.heap.size + 1, 0, none⟩ = some (.int .i64 no) := r1.cell 0
    have d1 : W3.cell? ⟨w.heap.size + 1, 1, none⟩ = some (.int .i64 p) := r1.cell 1
    simp [Leaves, settle, results, Tryz.results18, go_sem, q0, q1, q2, d0, d1]
    refine ⟨hbl, ?_⟩
    rw [HP.out]
  | ok pg s =>
    rw [hP] at hR
    obtain ⟨u, ns, gv, fv, fl, rfl, hC, hF, hPg⟩ := hR
    have HP := Lib.hid hP
    obtain ⟨gA, gc, rfl⟩ := shape_row hPg.gs.row
    obtain ⟨fA, fc, rfl⟩ := shape_row hPg.fs.row
    obtain ⟨uA, uc, rfl⟩ := shape_row hC.at_.rows
    have hM := (PgM.of hC hF hPg)
    rw [hbase] at hM
    have hbs : w.heap.size + 1 < X.base := by rw [hbase]; omega
    have HPM := Lib.hid hM
    have c0 : w2.cell? ⟨w.heap.size, 0, none⟩ = some (.slice none 0 0) := b0.cell 0
    have c1 : w2.cell? ⟨w.heap.size, 1, none⟩ = some (.slice none 0 0) := b0.cell 1
    have c2 : w2.cell? ⟨w.heap.size, 2, none⟩ = some (.slice none 0 0) := b0.cell 2
    have d0 : w2.cell? ⟨w.heap.size + 1, 0, none⟩ = some (.int .i64 0) := b1.cell 0
    have d1 : w2.cell? ⟨w.heap.size + 1, 1, none⟩ = some (.int .i64 0) := b1.cell 1
    have f0 := b0.frozen 0
    have f1 := b0.frozen 1
    have f2 := b0.frozen 2
    have g0 := b1.frozen 0
    have g1 := b1.frozen 1
    have hsz := b1.lt
    generalize hgn : pg.g.length = gn at *
    generalize hfn : fl.length = fn at *
    generalize hun : ns.length = un at *
    clear hP b0 b1 hbase hXb hC hF hPg hM hbs hgn hfn hun
    go_wp2_with fail
    refine leaves_cons (f := 42) (args := #[.pointer (some ⟨w.heap.size + 1, 0, none⟩)]) (by simp) (by simp [go_sem]) ?_
    refine (catch_none (w.heap.size + 1) _).mono ?_
    rintro e u' w'' ⟨rfl, rfl, rfl⟩
    have r0 : Blk ((((((w2.setCell ⟨w.heap.size, 0, none⟩ (.slice gA gn gc)).setCell ⟨w.heap.size, 1, none⟩ (.slice fA fn fc)).setCell ⟨w.heap.size, 2, none⟩ (.slice uA un uc)).setCell ⟨w.heap.size + 1, 0, none⟩ (.int .i64 0)).setCell ⟨w.heap.size + 1, 1, none⟩ (.int .i64 0)).alloc (.cells #[.int .i64 0, .int .i64 0] tF)) w.heap.size tPg #[.slice gA gn gc, .slice fA fn fc, .slice uA un uc] := (((((B0'.out.set_ 0 (.slice gA gn gc)).set_ 1 (.slice fA fn fc)).set_ 2 (.slice uA un uc)).far (p := ⟨w.heap.size + 1, 0, none⟩) (by simp) _).far (p := ⟨w.heap.size + 1, 1, none⟩) (by simp) _).alloc _
    have r1 : Blk ((((((w2.setCell ⟨w.heap.size, 0, none⟩ (.slice gA gn gc)).setCell ⟨w.heap.size, 1, none⟩ (.slice fA fn fc)).setCell ⟨w.heap.size, 2, none⟩ (.slice uA un uc)).setCell ⟨w.heap.size + 1, 0, none⟩ (.int .i64 0)).setCell ⟨w.heap.size + 1, 1, none⟩ (.int .i64 0)).alloc (.cells #[.int .i64 0, .int .i64 0] tF)) (w.heap.size + 1) tD #[.int .i64 0, .int .i64 0] := ((((((B1'.out.far (p := ⟨w.heap.size, 0, none⟩) (by simp) _).far (p := ⟨w.heap.size, 1, none⟩) (by simp) _).far (p := ⟨w.heap.size, 2, none⟩) (by simp) _).set_ 0 _).set_ 1 _).alloc _)
    have hbl : Below w.heap.size w ((((((w2.setCell ⟨w.heap.size, 0, none⟩ (.slice gA gn gc)).setCell ⟨w.heap.size, 1, none⟩ (.slice fA fn fc)).setCell ⟨w.heap.size, 2, none⟩ (.slice uA un uc)).setCell ⟨w.heap.size + 1, 0, none⟩ (.int .i64 0)).setCell ⟨w.heap.size + 1, 1, none⟩ (.int .i64 0)).alloc (.cells #[.int .i64 0, .int .i64 0] tF)) := (((((HBW.out.setCell (p := ⟨w.heap.size, 0, none⟩) (by simp) _).setCell (p := ⟨w.heap.size, 1, none⟩) (by simp) _).setCell (p := ⟨w.heap.size, 2, none⟩) (by simp) _).setCell (p := ⟨w.heap.size + 1, 0, none⟩) (by simp) _).setCell (p := ⟨w.heap.size + 1, 1, none⟩) (by simp) _).alloc (by simp; omega) _
    have hk : ∀ i, w.heap.size + 2 ≤ i → i < w2.heap.size → ((((((w2.setCell ⟨w.heap.size, 0, none⟩ (.slice gA gn gc)).setCell ⟨w.heap.size, 1, none⟩ (.slice fA fn fc)).setCell ⟨w.heap.size, 2, none⟩ (.slice uA un uc)).setCell ⟨w.heap.size + 1, 0, none⟩ (.int .i64 0)).setCell ⟨w.heap.size + 1, 1, none⟩ (.int .i64 0)).alloc (.cells #[.int .i64 0, .int .i64 0] tF)).heap[i]? = w2.heap[i]? := fun i h1 h2 => by
      have hc : ∀ (W : World) (j o : Nat) (x : Value), j < i → (W.setCell ⟨j, o, none⟩ x).heap[i]? = W.heap[i]? := fun W j o x h => Below.heap_setCell _ _ _ _ (by simp; omega)
      rw [heap_alloc_old _ _ _ (by simp; omega), hc _ _ _ _ (by omega), hc _ _ _ _ (by omega), hc _ _ _ _ (by omega), hc _ _ _ _ (by omega), hc _ _ _ _ (by omega)]
    have hM := (HPM.out.keep hk).down (B' := w.heap.size) (by omega)
    clear c0 c1 c2 d0 d1 f0 f1 f2 g0 g1 hk
    generalize (((((w2.setCell ⟨w.heap.size, 0, none⟩ (.slice gA gn gc)).setCell ⟨w.heap.size, 1, none⟩ (.slice fA fn fc)).setCell ⟨w.heap.size, 2, none⟩ (.slice uA un uc)).setCell ⟨w.heap.size + 1, 0, none⟩ (.int .i64 0)).setCell ⟨w.heap.size + 1, 1, none⟩ (.int .i64 0)).alloc (.cells #[.int .i64 0, .int .i64 0] tF) = W3 at *
    have HM3 := Lib.hid (And.intro hbl hM)
    have q0 : W3.cell? ⟨w.heap.size, 0, none⟩ = some (.slice gA gn gc) := r0.cell 0
    have q1 : W3.cell? ⟨w.heap.size, 1, none⟩ = some (.slice fA fn fc) := r0.cell 1
    have q2 : W3.cell? ⟨w.heap.size, 2, none⟩ = some (.slice uA un uc) := r0.cell 2
    have d0 : W3.cell? ⟨w.heap.size + 1, 0, none⟩ = some (.int .i64 0) := r1.cell 0
    have d1 : W3.cell? ⟨w.heap.size + 1, 1, none⟩ = some (.int .i64 0) := r1.cell 1
    clear hM hbl r0 r1
    simp [Leaves, settle, results, Tryz.results18, go_sem, q0, q1, q2, d0, d1]
    refine ⟨HM3.out.1, ?_⟩
    rw [HP.out]
    exact ⟨_, _, _, fl, ns, rfl, HM3.out.2⟩
end Go.Proofs.YtfaoiajhoifalaaGreatDoor
