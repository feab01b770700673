/-
  Copies of lists that lie in memory: numbers, parameters, globals (mortisekit). Copies of nodes and of functions (mortisekit). Copies of functions and of programs (mortisekit). Programs that lie in memory, held against one another (mortisekit): where they are the same, the answer is true. Programs that lie in memory, held against one another (mortisekit): lists of nodes, functions, the whole. Programs that lie in memory, held against one another (mortisekit): functions, the whole. A program without its places (Bare): a copy, each place written over.
-/
import Derived.Test.YtlbjjpfhkgagiaaGreatDoorMg
import Derived.Deep.RegionHeld3
/-! Pta -/
namespace Go.Proofs.YtlbjjpfhkgagiaaGreatDoor
open Go.RowKit
set_option linter.unusedVariables false
set_option linter.unusedSimpArgs false

/-- 'out = append(out, x)': the new element's cells are laid; out is the call's own. -/
theorem appC {ops : Array Oper} {rest : List Oper} {op : Oper} {a : Act} {Q : Exit → Act → World → Prop} (T TL : TypeId) (i0 : TypeInfo) (z : Value) (sz bt : Nat)
    (hu : Tryz.prog.underlying TL = some (.slice T)) (hi : Tryz.prog.info? T = some i0) (hz0 : i0.zero = some z) (hz1 : i0.size = sz) (hz2 : i0.bytes = bt) (hzs : z.cells.size = sz) (hsz : 0 < sz) (hbt : bt ≤ 100)
    (B : Nat) (w0 W : World) (H : Nat) (hH : W.heap.size = H) (v : Value) (n : Nat) (xs : List Value) (x : Array Value) (hx : x.size = sz) (h1 : ∀ u ∈ x.toList, u.oneCell' = true) (s y : Operand)
    (hgd : op.guard = none) (ho : op.op = .call { callee := .builtin .append, args := #[s, y], argTypes := #[TL, TL] }) (hs : a.eval s = v) (hy : a.eval y = .slice (some ⟨H, 0, none⟩) 1 1)
    (hrow : W.ownsRow B T sz v n xs) (hb : Below B w0 W) (hB : B ≤ w0.heap.size) (hn : n ≤ 1400000)
    (h : ∀ v' w1, w1.ownsRow B T sz v' (n + 1) (xs ++ x.toList) → Below B w0 w1 → (W.alloc (.cells x T)).grownBy w1 v.ownBlock → (∃ g cap, v' = .slice (some ⟨g, 0, none⟩) (n + 1) cap) → wpList Tryz.prog ops Q rest (a.put op.dst v') w1) :
    wpList Tryz.prog ops Q (op :: rest) a (W.alloc (.cells x T)) := by
  subst hH
  have hBW : B ≤ W.heap.size := Nat.le_trans hB hb.size
  have hnews : ∀ j u, x.toList[j]? = some u → (W.alloc (.cells x T)).cell? ((⟨W.heap.size, 0, none⟩ : Addr).add j) = some u :=
    World.news_of_block (cs := x) (heap_alloc_new W _)
  refine wpList_append_own _ hgd s y TL ho B T i0 z sz bt hu hi hz0 hz1 hz2 hzs hsz v n _ hs (hrow.alloc _) ⟨W.heap.size, 0, none⟩ 1 1 x.toList hy (by rw [Array.length_toList, hx, Nat.one_mul]) hnews h1 (by unfold maxLen; omega) ?_ (by simp; omega) ?_
  · have : (n + 1) * bt ≤ 1400001 * 100 := Nat.mul_le_mul (by omega) hbt
    omega
  · intro v' w1 hown hgrow _
    refine h v' w1 hown (hb.trans (((Below.refl _ W).alloc hBW _).grown hgrow (by simp; omega) (fun j ej => ?_))) hgrow (ownsRow_succ hown)
    rcases hrow.2 with ⟨rfl, _⟩ | ⟨g, cap, cur, rfl, hbg, _, _⟩
    · simp [Value.ownBlock] at ej
    · obtain rfl : g = j := by simpa [Value.ownBlock] using ej
      exact hbg

theorem kidCells_snoc (l : List Nat) (k : Nat) : kidCells (l ++ [k]) = kidCells l ++ #[Value.int .i64 (k : Nat)].toList := by simp [kidCells]

set_option maxHeartbeats 2000000 in
set_option maxRecDepth 100000 in
theorem copyI_any (ks : List Nat) (n : Nat) (hn : ks.length = n) (A : Option Addr) (c : Nat) (hc : n ≤ 1400000) (w : World) (h1 : RdI w w.heap.size A ks) :
    Calls Tryz.prog 100 #[.slice A n c] w fun e w' => ∃ v, e = .returned v ∧ w'.ownsRow w.heap.size tI 1 v n (kidCells ks) ∧ Below w.heap.size w w' ∧ (n = 0 → v = .slice none 0 0) := by
  obtain ⟨i0, hi, hz0, hz1, hz2⟩ := info_parts infoI
  go_enter Tryz.func100, Tryz.ntmps100
  go_wp2
  go_loopw [3, 4] (fun v3 v wr => ∃ k : Nat, k ≤ n ∧ v = .int .i64 k ∧ wr.ownsRow w.heap.size tI 1 v3 k (kidCells (ks.take k)) ∧ Below w.heap.size w wr ∧ (k = 0 → v3 = .slice none 0 0)) (fun _ v _ => n - (intOf v).toNat)
  case atStart => exact ⟨0, by omega, rfl, World.ownsRow_nil _ _ _ _, Below.refl _ _, fun _ => rfl⟩
  case round =>
    obtain ⟨k, hk, rfl, hrow, hb, h0⟩ := hrel
    by_cases hlt : k < n
    · have hkl : k < ks.length := by omega
      obtain ⟨g, o, rfl, hg, hx⟩ : ∃ g o, A = some ⟨g, o, none⟩ ∧ g < w.heap.size ∧ wr.cell? ⟨g, o + k, none⟩ = some (.int .i64 (ks[k] : Nat)) := by
        rcases h1 with rfl | ⟨g, o, e, hg, hc⟩
        · simp at hkl
        · exact ⟨g, o, e, hg, (hb.cell (p := ⟨g, o + k, none⟩) hg).trans (hc k _ (List.getElem?_eq_getElem hkl))⟩
      have ht : ks.take (k + 1) = ks.take k ++ [ks[k]] := by rw [List.take_succ_eq_append_getElem (by omega)]
      have hgw : g < wr.heap.size := by have := hb.size; omega
      generalize ks[k] = t at *
      have HT := Lib.hid ht
      clear ht h1 h0
      go_wp2_with (at_builtin; refine appC tI 43 i0 _ 1 8 Tryz.underlying43 hi hz0 hz1 hz2 rfl (by omega) (by omega) w.heap.size w wr _ rfl _ k _ #[.int .i64 (t : Nat)] rfl (by simp [Value.oneCell']) _ _ rfl rfl rfl rfl hrow hb (Nat.le_refl _) (by omega) ?_; intro v' w1 hr1 hb1 hg1 hsh)
      go_roundw
      case rel => exact ⟨k + 1, by omega, by go_num, by rw [HT.out, kidCells_snoc]; assumption, by assumption, fun h => by omega⟩
      case measure => simp [intOf]; omega
    · obtain rfl : k = n := by omega
      rw [← hn, List.take_length] at hrow
      go_wp2
      go_ret
      exact ⟨_, rfl, by rw [← hn]; exact hrow, hb, h0⟩

set_option maxHeartbeats 2000000 in
set_option maxRecDepth 100000 in
theorem copyP_any (ps : List Pm) (n : Nat) (hn : ps.length = n) (A : Option Addr) (c : Nat) (hc : n ≤ 1400000) (w : World) (h1 : PmI w w.heap.size (.slice A n c) ps) :
    Calls Tryz.prog 99 #[.slice A n c] w fun e w' => ∃ v, e = .returned v ∧ w'.ownsRow w.heap.size tP 2 v n (pmCells ps) ∧ Below w.heap.size w w' := by
  obtain ⟨i0, hi, hz0, hz1, hz2⟩ := info_parts infoPm
  obtain ⟨A', c', hv, h1⟩ := h1
  simp only [Value.slice.injEq] at hv
  obtain ⟨rfl, -, rfl⟩ := hv
  go_enter Tryz.func99, Tryz.ntmps99
  go_wp2
  go_loopw [3, 4] (fun v3 v wr => ∃ k : Nat, k ≤ n ∧ v = .int .i64 k ∧ wr.ownsRow w.heap.size tP 2 v3 k (pmCells (ps.take k)) ∧ Below w.heap.size w wr) (fun _ v _ => n - (intOf v).toNat)
  case atStart => exact ⟨0, by omega, rfl, World.ownsRow_nil _ _ _ _, Below.refl _ _⟩
  case round =>
    obtain ⟨k, hk, rfl, hrow, hb⟩ := hrel
    by_cases hlt : k < n
    · have hkl : k < ps.length := by omega
      obtain ⟨g, o, rfl, hg, hx⟩ : ∃ g o, A = some ⟨g, o, none⟩ ∧ g < w.heap.size ∧ (wr.cell? ⟨g, o + k * 2, none⟩ = some (.string (str (ps[k]).s)) ∧ wr.cell? ⟨g, o + k * 2 + 1, none⟩ = some (.int .i64 (ps[k]).ty)) := by
        rcases h1 with rfl | ⟨g, o, e, hg, hc⟩
        · simp at hkl
        · have := hc k _ (List.getElem?_eq_getElem hkl)
          exact ⟨g, o, e, hg, (hb.cell (p := ⟨g, o + k * 2, none⟩) hg).trans this.1, (hb.cell (p := ⟨g, o + k * 2 + 1, none⟩) hg).trans this.2⟩
      obtain ⟨x0, x1⟩ := hx
      have ht : ps.take (k + 1) = ps.take k ++ [ps[k]] := by rw [List.take_succ_eq_append_getElem (by omega)]
      have hgw : g < wr.heap.size := by have := hb.size; omega
      generalize ps[k] = t at *
      have HT := Lib.hid ht
      clear ht h1
      go_wp2_with (at_builtin; refine appC tP 48 i0 _ 2 24 Tryz.underlying48 hi hz0 hz1 hz2 rfl (by omega) (by omega) w.heap.size w wr _ rfl _ k _ #[.string (str t.s), .int .i64 t.ty] rfl (by simp [Value.oneCell']) _ _ rfl rfl rfl rfl hrow hb (Nat.le_refl _) (by omega) ?_; intro v' w1 hr1 hb1 hg1 hsh)
      go_roundw
      case rel => exact ⟨k + 1, by omega, by go_num, by rw [HT.out, pmCells_snoc]; assumption, by assumption⟩
      case measure => simp [intOf]; omega
    · obtain rfl : k = n := by omega
      rw [← hn, List.take_length] at hrow
      go_wp2
      go_ret
      exact ⟨_, rfl, by rw [← hn]; exact hrow, hb⟩

set_option maxHeartbeats 2000000 in
set_option maxRecDepth 100000 in
theorem copyG_any (gs : List Gl) (n : Nat) (hn : gs.length = n) (A : Option Addr) (c : Nat) (hc : n ≤ 1400000) (w : World) (h1 : GlI w w.heap.size (.slice A n c) gs) :
    Calls Tryz.prog 26 #[.slice A n c] w fun e w' => ∃ v, e = .returned v ∧ w'.ownsRow w.heap.size tG 4 v n (glCells gs) ∧ Below w.heap.size w w' := by
  obtain ⟨i0, hi, hz0, hz1, hz2⟩ := info_parts infoG
  obtain ⟨A', c', hv, h1⟩ := h1
  simp only [Value.slice.injEq] at hv
  obtain ⟨rfl, -, rfl⟩ := hv
  go_enter Tryz.func26, Tryz.ntmps26
  go_wp2
  go_loopw [3, 4] (fun v3 v wr => ∃ k : Nat, k ≤ n ∧ v = .int .i64 k ∧ wr.ownsRow w.heap.size tG 4 v3 k (glCells (gs.take k)) ∧ Below w.heap.size w wr) (fun _ v _ => n - (intOf v).toNat)
  case atStart => exact ⟨0, by omega, rfl, World.ownsRow_nil _ _ _ _, Below.refl _ _⟩
  case round =>
    obtain ⟨k, hk, rfl, hrow, hb⟩ := hrel
    by_cases hlt : k < n
    · have hkl : k < gs.length := by omega
      obtain ⟨g, o, rfl, hg, hx⟩ : ∃ g o, A = some ⟨g, o, none⟩ ∧ g < w.heap.size ∧ ∀ j, j < 4 → wr.cell? ⟨g, o + k * 4 + j, none⟩ = (glA gs[k])[j]? := by
        rcases h1 with rfl | ⟨g, o, e, hg, hc⟩
        · simp at hkl
        · exact ⟨g, o, e, hg, fun j hj => (hb.cell (p := ⟨g, o + k * 4 + j, none⟩) hg).trans (hc k _ (List.getElem?_eq_getElem hkl) j hj)⟩
      have x0 : wr.cell? ⟨g, o + k * 4, none⟩ = _ := hx 0 (by omega)
      have x1 : wr.cell? ⟨g, o + k * 4 + 1, none⟩ = _ := hx 1 (by omega)
      have x2 : wr.cell? ⟨g, o + k * 4 + 2, none⟩ = _ := hx 2 (by omega)
      have x3 : wr.cell? ⟨g, o + k * 4 + 3, none⟩ = _ := hx 3 (by omega)
      have ht : gs.take (k + 1) = gs.take k ++ [gs[k]] := by rw [List.take_succ_eq_append_getElem (by omega)]
      have hgw : g < wr.heap.size := by have := hb.size; omega
      generalize gs[k] = t at *
      simp only [glA, List.getElem?_toArray, List.getElem?_cons_zero, List.getElem?_cons_succ] at x0 x1 x2 x3
      have HT := Lib.hid ht
      clear ht h1 hx
      go_wp2_with (at_builtin; refine appC tG 29 i0 _ 4 40 Tryz.underlying29 hi hz0 hz1 hz2 rfl (by omega) (by omega) w.heap.size w wr _ rfl _ k _ #[.string (str t.s), .int .i64 t.ty, .int .i64 t.n, .int .i64 t.p] rfl (by simp [Value.oneCell']) _ _ rfl rfl rfl rfl hrow hb (Nat.le_refl _) (by omega) ?_; intro v' w1 hr1 hb1 hg1 hsh)
      go_roundw
      case rel => exact ⟨k + 1, by omega, by go_num, by rw [HT.out, glCells_snoc]; assumption, by assumption⟩
      case measure => simp [intOf]; omega
    · obtain rfl : k = n := by omega
      rw [← hn, List.take_length] at hrow
      go_wp2
      go_ret
      exact ⟨_, rfl, by rw [← hn]; exact hrow, hb⟩
end Go.Proofs.YtlbjjpfhkgagiaaGreatDoor
/-! Ptb -/
namespace Go.Proofs.YtlbjjpfhkgagiaaGreatDoor
open Go.RowKit
set_option linter.unusedVariables false
set_option linter.unusedSimpArgs false

theorem own_ne {W : World} {B B' n n' sz sz' : Nat} {T T' : TypeId} {v v' : Value} {cs cs' : List Value} (h : W.ownsRow B T sz v n cs) (h' : W.ownsRow B' T' sz' v' n' cs') (hT : T ≠ T') {i : Nat} (hi : v.ownBlock = some i) : v'.ownBlock ≠ some i := by
  intro hi'
  rcases h.2 with ⟨hv, _⟩ | ⟨g, cap, cur, hv, _, hb, _⟩
  · rw [hv] at hi; cases hi
  · rcases h'.2 with ⟨hv', _⟩ | ⟨g', cap', cur', hv', _, hb', _⟩
    · rw [hv'] at hi'; cases hi'
    · rw [hv] at hi
      rw [hv'] at hi'
      simp [Value.ownBlock] at hi hi'
      subst hi hi'
      rw [hb] at hb'
      simp at hb'
      exact hT hb'.2
theorem row_grown {W w1 : World} {B n sz : Nat} {T : TypeId} {v : Value} {cs : List Value} {o : Obj} {r : Option Nat} (h : W.ownsRow B T sz v n cs) (hg : (W.alloc o).grownBy w1 r) (hr : ∀ i, v.ownBlock = some i → r ≠ some i) : w1.ownsRow B T sz v n cs :=
  row_keep h fun i hi => (hg.block i (by have := (h.lt i hi).2; simp; omega) (fun e => hr i hi e.symm)).trans (heap_alloc_old _ _ _ (h.lt i hi).2)
theorem row_low {W w1 : World} {B n sz : Nat} {T : TypeId} {v : Value} {cs : List Value} (h : W.ownsRow B T sz v n cs) (hb : Below W.heap.size W w1) : w1.ownsRow B T sz v n cs :=
  row_keep h fun i hi => hb.block i (h.lt i hi).2

abbrev zN : Array Value := #[.int .i64 0, .int .i64 0, .int .i64 0, .string ⟨#[]⟩, .int .i64 0, .slice none 0 0, .int .i64 0, .int .i64 0]
theorem ndInfo : (Tryz.prog.info? tN).map (·.size) = some 8 := by kernel_rfl

set_option maxHeartbeats 2000000 in
set_option maxRecDepth 100000 in
theorem copyN_any (x : NV) (w : World) (hx : NdI w w.heap.size x) (hk : x.kids.length ≤ 4000) :
    Calls Tryz.prog 57 #[nodeV x] w fun e w' => ∃ v', e = .returned (nodeV ⟨x.h, x.kids, v'⟩) ∧ w'.ownsRow w.heap.size tI 1 v' x.kids.length (kidCells x.kids) ∧ Below w.heap.size w w' := by
  obtain ⟨A, c, hv, hlc, hcm, hr⟩ := hx
  obtain ⟨n, hn⟩ : ∃ n, x.kids.length = n := ⟨_, rfl⟩
  unfold nodeV cells8
  rw [hv]
  simp only [hn] at hk ⊢
  have b1 : Blk ((w.alloc (.cells #[.int .i64 x.h.op, .int .i64 x.h.p, .int .i64 x.h.n, .string (str x.h.s), .int .i64 x.h.to, .slice A n c, .int .i64 x.h.ty, .int .i64 0] tN)).alloc (.cells zN tN)) w.heap.size tN #[.int .i64 x.h.op, .int .i64 x.h.p, .int .i64 x.h.n, .string (str x.h.s), .int .i64 x.h.to, .slice A n c, .int .i64 x.h.ty, .int .i64 0] := (Blk.new w tN _).alloc _
  have b2 := Blk.new (w.alloc (.cells #[.int .i64 x.h.op, .int .i64 x.h.p, .int .i64 x.h.n, .string (str x.h.s), .int .i64 x.h.to, .slice A n c, .int .i64 x.h.ty, .int .i64 0] tN)) tN zN
  have e2 : (w.alloc (.cells #[.int .i64 x.h.op, .int .i64 x.h.p, .int .i64 x.h.n, .string (str x.h.s), .int .i64 x.h.to, .slice A n c, .int .i64 x.h.ty, .int .i64 0] tN)).heap.size = w.heap.size + 1 := by simp
  rw [e2] at b2
  have hb : Below w.heap.size w ((w.alloc (.cells #[.int .i64 x.h.op, .int .i64 x.h.p, .int .i64 x.h.n, .string (str x.h.s), .int .i64 x.h.to, .slice A n c, .int .i64 x.h.ty, .int .i64 0] tN)).alloc (.cells zN tN)) := ((Below.refl _ _).alloc (Nat.le_refl _) _).alloc (by simp) _
  have HR := Lib.hid (And.intro hr hn)
  clear hr hv hlc e2 hn
  go_enter Tryz.func57, Tryz.ntmps57
  go_upto_region 1 with (fail)
  generalize (w.alloc (.cells #[.int .i64 x.h.op, .int .i64 x.h.p, .int .i64 x.h.n, .string (str x.h.s), .int .i64 x.h.to, .slice A n c, .int .i64 x.h.ty, .int .i64 0] tN)).alloc (.cells zN tN) = W1 at *
  have m5 : W1.cell? ⟨w.heap.size, 5, none⟩ = some (.slice A n c) := b1.cell 5
  have ml := b1.lt
  have hbs := hb.size
  have HC := Lib.hid (copyI_any x.kids n HR.out.2 A c (by omega) W1 ((HR.out.1.below hb).more hbs))
  have B1 := Lib.hid b1
  have B2 := Lib.hid b2
  have HB := Lib.hid hb
  clear b1 b2 hb
  go_wp2_with fail
  refine HC.out.mono ?_
  clear HC
  rintro e w2 ⟨v', rfl, hrow, hb2, -⟩
  obtain ⟨gA, gc, rfl⟩ := shape_row hrow
  have b1 : Blk w2 w.heap.size tN _ := (hb2.block _ B1.out.lt).trans B1.out
  have b2 : Blk w2 (w.heap.size + 1) tN zN := (hb2.block _ B2.out.lt).trans B2.out
  have f5 := b1.frozen 5
  have m5' : w2.cell? ⟨w.heap.size, 5, none⟩ = some (.slice A n c) := b1.cell 5
  have ml2 := b1.lt
  have b1s : Blk (w2.setCell ⟨w.heap.size, 5, none⟩ (.slice gA n gc)) w.heap.size tN #[.int .i64 x.h.op, .int .i64 x.h.p, .int .i64 x.h.n, .string (str x.h.s), .int .i64 x.h.to, .slice gA n gc, .int .i64 x.h.ty, .int .i64 0] := b1.set_ 5 _
  have b2s : Blk (w2.setCell ⟨w.heap.size, 5, none⟩ (.slice gA n gc)) (w.heap.size + 1) tN zN := b2.far (p := ⟨w.heap.size, 5, none⟩) (by simp) _
  have hrs : (w2.setCell ⟨w.heap.size, 5, none⟩ (.slice gA n gc)).ownsRow w.heap.size tI 1 (.slice gA n gc) n (kidCells x.kids) := row_down (row_keep hrow fun i hi => Below.heap_setCell _ _ _ _ (by have := (hrow.lt i hi).1; simp; omega)) hbs
  have hbl : Below w.heap.size w (w2.setCell ⟨w.heap.size, 5, none⟩ (.slice gA n gc)) := (HB.out.trans (hb2.mono hbs)).setCell (p := ⟨w.heap.size, 5, none⟩) (by simp) _
  clear b1 b2 hrow hb2 m5 ml
  go_upto_region 2 with (fail)
  generalize w2.setCell ⟨w.heap.size, 5, none⟩ (.slice gA n gc) = W3 at *
  have hr4 := setRow_heap W3 (w.heap.size + 1) _ #[.int .i64 x.h.op, .int .i64 x.h.p, .int .i64 x.h.n, .string (str x.h.s), .int .i64 x.h.to, .slice gA n gc, .int .i64 x.h.ty, .int .i64 0] tN (0, 0) b2s
  have HE := Lib.hid (And.intro hr4 (And.intro (below_setRow (B := w.heap.size) W3 (w.heap.size + 1) #[.int .i64 x.h.op, .int .i64 x.h.p, .int .i64 x.h.n, .string (str x.h.s), .int .i64 x.h.to, .slice gA n gc, .int .i64 x.h.ty, .int .i64 0] (by omega)) (row_keep hrs fun i hi => setRow_other W3 (w.heap.size + 1) i #[.int .i64 x.h.op, .int .i64 x.h.p, .int .i64 x.h.n, .string (str x.h.s), .int .i64 x.h.to, .slice gA n gc, .int .i64 x.h.ty, .int .i64 0] (fun e => by
    have h1 := own_ne hrs (T' := tN) (B' := 0) (sz' := 8) (n' := 1) (cs' := zN.toList) (v' := .slice (some ⟨w.heap.size + 1, 0, none⟩) 1 1) ⟨rfl, .inr ⟨w.heap.size + 1, 1, zN, rfl, Nat.zero_le _, b2s, by omega, by unfold maxLen; omega, rfl, rfl⟩⟩ (by decide) hi
    exact h1 (by simp [Value.ownBlock, e])))))
  have HBL := Lib.hid hbl
  clear hr4 hbl hrs f5 m5' ml2
  refine wp_region_list ?_
  refine wpList_load_row rfl tN _ rfl w.heap.size rfl tN _ (0, 0) _ b1s Tryz.underlying45 rfl ndInfo ?_
  refine wpList_store_row rfl tN _ _ rfl (w.heap.size + 1) _ rfl rfl tN zN b2s ndInfo rfl (by simp [Value.oneCell']) ?_
  refine wpList_nil ?_
  go_wp2_with fail
  refine bodyPost_ret (results_cell_row rfl _ _ (w.heap.size + 1) tN _ (0, 0) _ rfl HE.out.1 Tryz.underlying45 rfl ndInfo) rfl ?_
  exact ⟨.slice gA n gc, rfl, HE.out.2.2, HBL.out.trans HE.out.2.1⟩

set_option maxHeartbeats 2000000 in
set_option maxRecDepth 100000 in
theorem copyNs_any (ns : List NV) (N : Nat) (hN : ns.length = N) (A : Option Addr) (c : Nat) (w : World) (h : Nds w w.heap.size (.slice A N c) ns) (hkl : ∀ x ∈ ns, x.kids.length ≤ 4000) :
    Calls Tryz.prog 28 #[.slice A N c] w fun e w' => ∃ v ms, e = .returned v ∧ ms.map NV.nd = ns.map NV.nd ∧ w'.ownsRow w.heap.size tN 8 v N (cellsN ms) ∧ (∀ x ∈ ms, w'.ownsRow w.heap.size tI 1 x.v x.kids.length (kidCells x.kids)) ∧ Below w.heap.size w w' := by
  obtain ⟨i0, hi, hz0, hz1, hz2⟩ := info_parts infoN
  have hN4 : N ≤ 4000 := by have := h.len; omega
  obtain ⟨A', c', hv, h1⟩ := h.sl
  simp only [Value.slice.injEq] at hv
  obtain ⟨rfl, -, rfl⟩ := hv
  have HK := Lib.hid (And.intro h.kids hkl)
  clear h hkl
  go_enter Tryz.func28, Tryz.ntmps28
  go_wp2
  go_loopw [3, 4] (fun v3 v wr => ∃ (k : Nat) (ms : List NV), k ≤ N ∧ v = .int .i64 k ∧ ms.map NV.nd = (ns.take k).map NV.nd ∧ wr.ownsRow w.heap.size tN 8 v3 k (cellsN ms) ∧ (∀ x ∈ ms, wr.ownsRow w.heap.size tI 1 x.v x.kids.length (kidCells x.kids)) ∧ Below w.heap.size w wr) (fun _ v _ => N - (intOf v).toNat)
  case atStart => exact ⟨0, [], by omega, rfl, rfl, World.ownsRow_nil _ _ _ _, fun x hx => (by cases hx), Below.refl _ _⟩
  case round =>
    obtain ⟨k, ms, hk, rfl, hms, hrow, hkr, hb⟩ := hrel
    by_cases hlt : k < N
    · have hkn : k < ns.length := by omega
      obtain ⟨g, o, rfl, hg, hc⟩ : ∃ g o, A = some ⟨g, o, none⟩ ∧ g < w.heap.size ∧ ∀ j, j < 8 → wr.cell? ⟨g, o + k * 8 + j, none⟩ = (cells8 ns[k])[j]? := by
        rcases h1 with h9 | ⟨g, o, e, hg, hc⟩
        · rw [h9] at hkn; simp at hkn
        · exact ⟨g, o, e, hg, fun j hj => (hb.cell (p := ⟨g, o + k * 8 + j, none⟩) hg).trans (hc k _ (List.getElem?_eq_getElem hkn) j hj)⟩
      have y0 : wr.cell? ⟨g, o + k * 8, none⟩ = _ := hc 0 (by omega)
      have y1 : wr.cell? ⟨g, o + k * 8 + 1, none⟩ = _ := hc 1 (by omega)
      have y2 : wr.cell? ⟨g, o + k * 8 + 2, none⟩ = _ := hc 2 (by omega)
      have y3 : wr.cell? ⟨g, o + k * 8 + 3, none⟩ = _ := hc 3 (by omega)
      have y4 : wr.cell? ⟨g, o + k * 8 + 4, none⟩ = _ := hc 4 (by omega)
      have y5 : wr.cell? ⟨g, o + k * 8 + 5, none⟩ = _ := hc 5 (by omega)
      have y6 : wr.cell? ⟨g, o + k * 8 + 6, none⟩ = _ := hc 6 (by omega)
      have y7 : wr.cell? ⟨g, o + k * 8 + 7, none⟩ = _ := hc 7 (by omega)
      have ht : ns.take (k + 1) = ns.take k ++ [ns[k]] := by rw [List.take_succ_eq_append_getElem (by omega)]
      have hnd := (HK.out.1 _ (List.getElem_mem hkn)).below hb
      have hkl := HK.out.2 _ (List.getElem_mem hkn)
      have hgw : g < wr.heap.size := by have := hb.size; omega
      have hnd2 : NdI wr wr.heap.size ns[k] := by
        obtain ⟨A2, c2, a1, a2, a3, a4⟩ := hnd
        exact ⟨A2, c2, a1, a2, a3, a4.more hb.size⟩
      generalize ns[k] = t at *
      have HCP := Lib.hid (copyN_any t wr hnd2 hkl)
      simp only [cells8, List.getElem?_cons_zero, List.getElem?_cons_succ] at y0 y1 y2 y3 y4 y5 y6 y7
      obtain ⟨A2, c2, hxv, -, -, -⟩ := hnd
      rw [hxv] at y5
      unfold nodeV cells8 at HCP
      rw [hxv] at HCP
      have HT := Lib.hid (And.intro ht hms)
      have HR := Lib.hid (And.intro hrow (And.intro hkr hb))
      clear ht hms hrow hkr hb hnd2 hc h1 hkl
      go_wp2_with fail
      refine HCP.out.mono ?_
      clear HCP
      rintro e w2 ⟨v', rfl, hr2, hb2⟩
      obtain ⟨gA, gc, rfl⟩ := shape_row hr2
      simp only
      have hbw : Below w.heap.size w w2 := HR.out.2.2.trans (hb2.mono HR.out.2.2.size)
      have hrow := row_low HR.out.1 hb2
      have hkr : ∀ x ∈ ms, w2.ownsRow w.heap.size tI 1 x.v x.kids.length (kidCells x.kids) := fun x hx => row_low (HR.out.2.1 x hx) hb2
      have hr3 := row_down hr2 HR.out.2.2.size
      have HS := Lib.hid (And.intro hkr (And.intro hr3 hrow))
      clear hkr hr2 hr3 hb2 hgw y0 y1 y2 y3 y4 y5 y6 y7
      generalize hkln : t.kids.length = kl at *
      go_wp2_with (at_builtin; refine appC tN 31 i0 _ 8 88 Tryz.underlying31 hi hz0 hz1 hz2 rfl (by omega) (by omega) w.heap.size w w2 _ rfl _ k _ #[.int .i64 t.h.op, .int .i64 t.h.p, .int .i64 t.h.n, .string (str t.h.s), .int .i64 t.h.to, .slice gA kl gc, .int .i64 t.h.ty, .int .i64 0] rfl (by simp [Value.oneCell']) _ _ rfl rfl rfl rfl hrow hbw (Nat.le_refl _) (by omega) ?_; intro v' w1 hr1 hb1 hg1 hsh)
      go_roundw
      case rel =>
        refine ⟨k + 1, ms ++ [⟨t.h, t.kids, .slice gA kl gc⟩], by omega, by go_num, ?_, ?_, ?_, by assumption⟩
        · rw [HT.out.1, List.map_append, List.map_append, HT.out.2]; rfl
        · rw [cellsN_snoc]; assumption
        · intro x hx
          rcases List.mem_append.1 hx with hx | hx
          · exact row_grown (HS.out.1 x hx) hg1 fun i hi => own_ne (HS.out.1 x hx) HS.out.2.2 (by decide) hi
          · simp at hx
            subst hx
            simp only [hkln]
            exact row_grown HS.out.2.1 hg1 fun i hi => own_ne HS.out.2.1 HS.out.2.2 (by decide) hi
      case measure => simp [intOf]; omega
    · obtain rfl : k = N := by omega
      rw [← hN, List.take_length] at hms
      go_wp2
      go_ret
      exact ⟨_, ms, rfl, hms, hrow, hkr, hb⟩

abbrev zF : Array Value := #[.string ⟨#[]⟩, .int .i64 0, .slice none 0 0, .int .i64 0, .int .i64 0, .slice none 0 0]
set_option maxHeartbeats 2000000 in
set_option maxRecDepth 100000 in
theorem copyF_any (f : Fn') (pv : Value) (b : Nat) (w : World) (hP : PmI w w.heap.size pv f.ps) (hp : f.ps.length ≤ 1400000) :
    Calls Tryz.prog 56 #[fnV f pv b] w fun e w' => ∃ pv', e = .returned (fnV f pv' b) ∧ w'.ownsRow w.heap.size tP 2 pv' f.ps.length (pmCells f.ps) ∧ Below w.heap.size w w' := by
  obtain ⟨A, c, rfl, hr⟩ := id hP
  obtain ⟨n, hn⟩ : ∃ n, f.ps.length = n := ⟨_, rfl⟩
  rw [hn] at hP hp ⊢
  unfold fnV fnA
  have b1 : Blk ((w.alloc (.cells #[.string (str f.s), .int .i64 f.ty, .slice A n c, .int .i64 (b : Nat), .int .i64 f.p, .slice none 0 0] tFn)).alloc (.cells zF tFn)) w.heap.size tFn #[.string (str f.s), .int .i64 f.ty, .slice A n c, .int .i64 (b : Nat), .int .i64 f.p, .slice none 0 0] := (Blk.new w tFn _).alloc _
  have b2 := Blk.new (w.alloc (.cells #[.string (str f.s), .int .i64 f.ty, .slice A n c, .int .i64 (b : Nat), .int .i64 f.p, .slice none 0 0] tFn)) tFn zF
  have e2 : (w.alloc (.cells #[.string (str f.s), .int .i64 f.ty, .slice A n c, .int .i64 (b : Nat), .int .i64 f.p, .slice none 0 0] tFn)).heap.size = w.heap.size + 1 := by simp
  rw [e2] at b2
  have hb : Below w.heap.size w ((w.alloc (.cells #[.string (str f.s), .int .i64 f.ty, .slice A n c, .int .i64 (b : Nat), .int .i64 f.p, .slice none 0 0] tFn)).alloc (.cells zF tFn)) := ((Below.refl _ _).alloc (Nat.le_refl _) _).alloc (by simp) _
  have HR := Lib.hid (And.intro hP hn)
  clear hr hP e2 hn
  go_enter Tryz.func56, Tryz.ntmps56
  go_upto_region 1 with (fail)
  generalize (w.alloc (.cells #[.string (str f.s), .int .i64 f.ty, .slice A n c, .int .i64 (b : Nat), .int .i64 f.p, .slice none 0 0] tFn)).alloc (.cells zF tFn) = W1 at *
  have m2 : W1.cell? ⟨w.heap.size, 2, none⟩ = some (.slice A n c) := b1.cell 2
  have ml := b1.lt
  have hbs := hb.size
  have HC := Lib.hid (copyP_any f.ps n HR.out.2 A c (by omega) W1 ((HR.out.1.below hb).more hbs))
  have B1 := Lib.hid b1
  have B2 := Lib.hid b2
  have HB := Lib.hid hb
  clear b1 b2 hb
  go_wp2_with fail
  refine HC.out.mono ?_
  clear HC
  rintro e w2 ⟨v', rfl, hrow, hb2⟩
  obtain ⟨gA, gc, rfl⟩ := shape_row hrow
  have b1 : Blk w2 w.heap.size tFn _ := (hb2.block _ B1.out.lt).trans B1.out
  have b2 : Blk w2 (w.heap.size + 1) tFn zF := (hb2.block _ B2.out.lt).trans B2.out
  have f2 := b1.frozen 2
  have m2' : w2.cell? ⟨w.heap.size, 2, none⟩ = some (.slice A n c) := b1.cell 2
  have ml2 := b1.lt
  have b1s : Blk (w2.setCell ⟨w.heap.size, 2, none⟩ (.slice gA n gc)) w.heap.size tFn #[.string (str f.s), .int .i64 f.ty, .slice gA n gc, .int .i64 (b : Nat), .int .i64 f.p, .slice none 0 0] := b1.set_ 2 _
  have b2s : Blk (w2.setCell ⟨w.heap.size, 2, none⟩ (.slice gA n gc)) (w.heap.size + 1) tFn zF := b2.far (p := ⟨w.heap.size, 2, none⟩) (by simp) _
  have hrs : (w2.setCell ⟨w.heap.size, 2, none⟩ (.slice gA n gc)).ownsRow w.heap.size tP 2 (.slice gA n gc) n (pmCells f.ps) := row_down (row_keep hrow fun i hi => Below.heap_setCell _ _ _ _ (by have := (hrow.lt i hi).1; simp; omega)) hbs
  have hbl : Below w.heap.size w (w2.setCell ⟨w.heap.size, 2, none⟩ (.slice gA n gc)) := (HB.out.trans (hb2.mono hbs)).setCell (p := ⟨w.heap.size, 2, none⟩) (by simp) _
  clear b1 b2 hrow hb2 m2 ml
  go_upto_region 2 with (fail)
  generalize w2.setCell ⟨w.heap.size, 2, none⟩ (.slice gA n gc) = W3 at *
  have m5 : W3.cell? ⟨w.heap.size, 5, none⟩ = some (.slice none 0 0) := b1s.cell 5
  have ml3 := b1s.lt
  have B1 := Lib.hid b1s
  have B2 := Lib.hid b2s
  have HC := Lib.hid (copyI_any [] 0 rfl none 0 (by omega) W3 (.inl rfl))
  have HS := Lib.hid (And.intro hrs hbl)
  clear b1s b2s hrs hbl f2 m2' ml2
  go_wp2_with fail
  refine HC.out.mono ?_
  clear HC
  rintro e w4 ⟨v4, rfl, -, hb4, h40⟩
  obtain rfl : v4 = .slice none 0 0 := by simpa using h40
  have b1 : Blk w4 w.heap.size tFn _ := (hb4.block _ B1.out.lt).trans B1.out
  have b2 : Blk w4 (w.heap.size + 1) tFn zF := (hb4.block _ B2.out.lt).trans B2.out
  have f5 := b1.frozen 5
  have m5' : w4.cell? ⟨w.heap.size, 5, none⟩ = some (.slice none 0 0) := b1.cell 5
  have ml4 := b1.lt
  have b1s : Blk (w4.setCell ⟨w.heap.size, 5, none⟩ (.slice none 0 0)) w.heap.size tFn #[.string (str f.s), .int .i64 f.ty, .slice gA n gc, .int .i64 (b : Nat), .int .i64 f.p, .slice none 0 0] := b1.set_ 5 _
  have b2s : Blk (w4.setCell ⟨w.heap.size, 5, none⟩ (.slice none 0 0)) (w.heap.size + 1) tFn zF := b2.far (p := ⟨w.heap.size, 5, none⟩) (by simp) _
  have hr4 := row_low HS.out.1 hb4
  have hrs : (w4.setCell ⟨w.heap.size, 5, none⟩ (.slice none 0 0)).ownsRow w.heap.size tP 2 (.slice gA n gc) n (pmCells f.ps) := row_keep hr4 fun i hi => Below.heap_setCell _ _ _ _ (fun e => by
    have h1 := own_ne hr4 (T' := tFn) (B' := 0) (sz' := 6) (n' := 1) (v' := .slice (some ⟨w.heap.size, 0, none⟩) 1 1) ⟨rfl, .inr ⟨w.heap.size, 1, _, rfl, Nat.zero_le _, b1, by omega, by unfold maxLen; omega, rfl, rfl⟩⟩ (by decide) hi
    exact h1 (by simp only at e; simp [Value.ownBlock, e]))
  have hbl : Below w.heap.size w (w4.setCell ⟨w.heap.size, 5, none⟩ (.slice none 0 0)) := (HS.out.2.trans (hb4.mono HS.out.2.size)).setCell (p := ⟨w.heap.size, 5, none⟩) (by simp) _
  clear b1 b2 hr4 hb4 m5 ml3
  go_upto_region 3 with (fail)
  generalize w4.setCell ⟨w.heap.size, 5, none⟩ (.slice none 0 0) = W5 at *
  have hr5 := setRow_heap W5 (w.heap.size + 1) _ #[.string (str f.s), .int .i64 f.ty, .slice gA n gc, .int .i64 (b : Nat), .int .i64 f.p, .slice none 0 0] tFn (0, 0) b2s
  have HE := Lib.hid (And.intro hr5 (And.intro (below_setRow (B := w.heap.size) W5 (w.heap.size + 1) #[.string (str f.s), .int .i64 f.ty, .slice gA n gc, .int .i64 (b : Nat), .int .i64 f.p, .slice none 0 0] (by omega)) (row_keep hrs fun i hi => setRow_other W5 (w.heap.size + 1) i #[.string (str f.s), .int .i64 f.ty, .slice gA n gc, .int .i64 (b : Nat), .int .i64 f.p, .slice none 0 0] (fun e => by
    have h1 := own_ne hrs (T' := tFn) (B' := 0) (sz' := 6) (n' := 1) (cs' := zF.toList) (v' := .slice (some ⟨w.heap.size + 1, 0, none⟩) 1 1) ⟨rfl, .inr ⟨w.heap.size + 1, 1, zF, rfl, Nat.zero_le _, b2s, by omega, by unfold maxLen; omega, rfl, rfl⟩⟩ (by decide) hi
    exact h1 (by simp [Value.ownBlock, e])))))
  have HBL := Lib.hid hbl
  clear hr5 hbl hrs f5 m5' ml4
  refine wp_region_list ?_
  refine wpList_load_row rfl tFn _ rfl w.heap.size rfl tFn _ (0, 0) _ b1s Tryz.underlying50 rfl fnInfo ?_
  refine wpList_store_row rfl tFn _ _ rfl (w.heap.size + 1) _ rfl rfl tFn zF b2s fnInfo rfl (by simp [Value.oneCell']) ?_
  refine wpList_nil ?_
  go_wp2_with fail
  refine bodyPost_ret (results_cell_row rfl _ _ (w.heap.size + 1) tFn _ (0, 0) _ rfl HE.out.1 Tryz.underlying50 rfl fnInfo) rfl ?_
  exact ⟨.slice gA n gc, rfl, HE.out.2.2, HBL.out.trans HE.out.2.1⟩
end Go.Proofs.YtlbjjpfhkgagiaaGreatDoor
/-! Ptc -/
namespace Go.Proofs.YtlbjjpfhkgagiaaGreatDoor
open Go.RowKit
set_option linter.unusedVariables false
set_option linter.unusedSimpArgs false

set_option maxHeartbeats 2000000 in
set_option maxRecDepth 100000 in
theorem copyFs_any (fl : List (Fn' × Value)) (N : Nat) (hN : fl.length = N) (hN4 : N ≤ 1400000) (A : Option Addr) (c : Nat) (w : World) (h : FnI w w.heap.size (.slice A N c) fl) (hP : ∀ x ∈ fl, PmI w w.heap.size x.2 x.1.ps) (hpl : ∀ x ∈ fl, x.1.ps.length ≤ 1400000) :
    Calls Tryz.prog 27 #[.slice A N c] w fun e w' => ∃ v ml, e = .returned v ∧ ml.map (·.1) = fl.map (·.1) ∧ w'.ownsRow w.heap.size tFn 6 v N (fnCells ml) ∧ (∀ x ∈ ml, w'.ownsRow w.heap.size tP 2 x.2 x.1.ps.length (pmCells x.1.ps)) ∧ Below w.heap.size w w' := by
  obtain ⟨i0, hi, hz0, hz1, hz2⟩ := info_parts infoFn
  obtain ⟨A', c', hv, h1⟩ := h
  simp only [Value.slice.injEq] at hv
  obtain ⟨rfl, -, rfl⟩ := hv
  have HK := Lib.hid (And.intro hP hpl)
  clear hP hpl
  go_enter Tryz.func27, Tryz.ntmps27
  go_wp2
  go_loopw [3, 4] (fun v3 v wr => ∃ (k : Nat) (ms : List (Fn' × Value)), k ≤ N ∧ v = .int .i64 k ∧ ms.map (·.1) = (fl.take k).map (·.1) ∧ wr.ownsRow w.heap.size tFn 6 v3 k (fnCells ms) ∧ (∀ x ∈ ms, wr.ownsRow w.heap.size tP 2 x.2 x.1.ps.length (pmCells x.1.ps)) ∧ Below w.heap.size w wr) (fun _ v _ => N - (intOf v).toNat)
  case atStart => exact ⟨0, [], by omega, rfl, rfl, World.ownsRow_nil _ _ _ _, fun x hx => (by cases hx), Below.refl _ _⟩
  case round =>
    obtain ⟨k, ms, hk, rfl, hms, hrow, hkr, hb⟩ := hrel
    by_cases hlt : k < N
    · have hkn : k < fl.length := by omega
      obtain ⟨g, o, rfl, hg, hc⟩ : ∃ g o, A = some ⟨g, o, none⟩ ∧ g < w.heap.size ∧ ∀ j, j < 6 → wr.cell? ⟨g, o + k * 6 + j, none⟩ = (fnA fl[k].1 fl[k].2 fl[k].1.b)[j]? := by
        rcases h1 with h9 | ⟨g, o, e, hg, hc⟩
        · rw [h9] at hkn; simp at hkn
        · exact ⟨g, o, e, hg, fun j hj => (hb.cell (p := ⟨g, o + k * 6 + j, none⟩) hg).trans (hc k _ (List.getElem?_eq_getElem hkn) j hj)⟩
      have y0 : wr.cell? ⟨g, o + k * 6, none⟩ = _ := hc 0 (by omega)
      have y1 : wr.cell? ⟨g, o + k * 6 + 1, none⟩ = _ := hc 1 (by omega)
      have y2 : wr.cell? ⟨g, o + k * 6 + 2, none⟩ = _ := hc 2 (by omega)
      have y3 : wr.cell? ⟨g, o + k * 6 + 3, none⟩ = _ := hc 3 (by omega)
      have y4 : wr.cell? ⟨g, o + k * 6 + 4, none⟩ = _ := hc 4 (by omega)
      have y5 : wr.cell? ⟨g, o + k * 6 + 5, none⟩ = _ := hc 5 (by omega)
      have ht : fl.take (k + 1) = fl.take k ++ [fl[k]] := by rw [List.take_succ_eq_append_getElem (by omega)]
      have hnd := ((HK.out.1 _ (List.getElem_mem hkn)).below hb).more hb.size
      have hkl := HK.out.2 _ (List.getElem_mem hkn)
      have hgw : g < wr.heap.size := by have := hb.size; omega
      generalize fl[k] = t at *
      obtain ⟨f, pv⟩ := t
      simp only at hnd hkl
      have hcp := copyF_any f pv f.b wr hnd hkl
      obtain ⟨pA, pc, rfl, -⟩ := hnd
      unfold fnV fnA at hcp
      have HCP := Lib.hid hcp
      simp only [fnA, List.getElem?_toArray, List.getElem?_cons_zero, List.getElem?_cons_succ] at y0 y1 y2 y3 y4 y5
      have HT := Lib.hid (And.intro ht hms)
      have HR := Lib.hid (And.intro hrow (And.intro hkr hb))
      obtain ⟨pl, hpl⟩ : ∃ pl, f.ps.length = pl := ⟨_, rfl⟩
      rw [hpl] at y2 HCP
      clear ht hms hrow hkr hb hc h1 hkl hcp
      go_wp2_with fail
      refine HCP.out.mono ?_
      clear HCP
      rintro e w2 ⟨v', rfl, hr2, hb2⟩
      obtain ⟨gA, gc, rfl⟩ := shape_row hr2
      simp only
      have hbw : Below w.heap.size w w2 := HR.out.2.2.trans (hb2.mono HR.out.2.2.size)
      have hrow := row_low HR.out.1 hb2
      have hkr : ∀ x ∈ ms, w2.ownsRow w.heap.size tP 2 x.2 x.1.ps.length (pmCells x.1.ps) := fun x hx => row_low (HR.out.2.1 x hx) hb2
      have hr3 := row_down hr2 HR.out.2.2.size
      have HS := Lib.hid (And.intro hkr (And.intro hr3 hrow))
      clear hkr hr2 hr3 hb2 hgw y0 y1 y2 y3 y4 y5
      go_wp2_with (at_builtin; refine appC tFn 30 i0 _ 6 88 Tryz.underlying30 hi hz0 hz1 hz2 rfl (by omega) (by omega) w.heap.size w w2 _ rfl _ k _ #[.string (str f.s), .int .i64 f.ty, .slice gA pl gc, .int .i64 (f.b : Nat), .int .i64 f.p, .slice none 0 0] rfl (by simp [Value.oneCell']) _ _ rfl rfl rfl rfl hrow hbw (Nat.le_refl _) (by omega) ?_; intro v' w1 hr1 hb1 hg1 hsh)
      go_roundw
      case rel =>
        refine ⟨k + 1, ms ++ [(f, .slice gA pl gc)], by omega, by go_num, ?_, ?_, ?_, by assumption⟩
        · rw [HT.out.1, List.map_append, List.map_append, HT.out.2]; rfl
        · rw [fnCells_snoc]; assumption
        · intro x hx
          rcases List.mem_append.1 hx with hx | hx
          · exact row_grown (HS.out.1 x hx) hg1 fun i hi => own_ne (HS.out.1 x hx) HS.out.2.2 (by decide) hi
          · simp at hx
            subst hx
            simp only [hpl]
            exact row_grown HS.out.2.1 hg1 fun i hi => own_ne HS.out.2.1 HS.out.2.2 (by decide) hi
      case measure => simp [intOf]; omega
    · obtain rfl : k = N := by omega
      rw [← hN, List.take_length] at hms
      go_wp2
      go_ret
      first
        | exact ⟨_, ms, rfl, hms, hrow, hkr, hb⟩
        | exact ⟨_, rfl, ms, hms, hrow, fun a b h => hkr (a, b) h, hb⟩

theorem s3_set {W : World} {b i : Nat} {x y z : Value} (h : W.cell? ⟨b, 0, none⟩ = some x ∧ W.cell? ⟨b, 1, none⟩ = some y ∧ W.cell? ⟨b, 2, none⟩ = some z ∧ b < W.heap.size) (hne : i ≠ b) (o : Nat) (u : Value) :
    (W.setCell ⟨i, o, none⟩ u).cell? ⟨b, 0, none⟩ = some x ∧ (W.setCell ⟨i, o, none⟩ u).cell? ⟨b, 1, none⟩ = some y ∧ (W.setCell ⟨i, o, none⟩ u).cell? ⟨b, 2, none⟩ = some z ∧ b < (W.setCell ⟨i, o, none⟩ u).heap.size := by
  have hb : ∀ k, (W.setCell ⟨i, o, none⟩ u).cell? ⟨b, k, none⟩ = W.cell? ⟨b, k, none⟩ := fun k => by
    simp only [World.cell?, Below.heap_setCell W ⟨i, o, none⟩ u b (fun e => hne e.symm)]
  exact ⟨(hb 0).trans h.1, (hb 1).trans h.2.1, (hb 2).trans h.2.2.1, by simpa using h.2.2.2⟩

set_option maxHeartbeats 2000000 in
set_option maxRecDepth 100000 in
/-- A copy of a program that can be read. -/
theorem copyPr_any (pg : Pg) (fl : List (Fn' × Value)) (ns : List NV) (gv fv nv : Value) (w : World) (hG : GlI w w.heap.size gv pg.g) (hF : FnI w w.heap.size fv fl) (hP : ∀ x ∈ fl, PmI w w.heap.size x.2 x.1.ps) (hN : Nds w w.heap.size nv ns)
    (hfe : fl.map (·.1) = pg.f) (hnl : ns.map NV.nd = pg.t.flat 0) (hgl : pg.g.length ≤ 1400000) (hfl : fl.length ≤ 1400000) (hpl : ∀ x ∈ fl, x.1.ps.length ≤ 1400000) (hkl : ∀ x ∈ ns, x.kids.length ≤ 4000) :
    Calls Tryz.prog 10 #[.agg #[gv, fv, nv]] w fun e w' => ∃ gv' fv' nv' ml ms, e = .returned (.agg #[gv', fv', nv']) ∧ PgM w.heap.size w' pg gv' fv' nv' ml ms ∧ Below w.heap.size w w' := by
  obtain ⟨gA, gc, rfl, -⟩ := id hG
  obtain ⟨fA, fc, rfl, -⟩ := id hF
  obtain ⟨nA, nc, rfl, -⟩ := id hN.sl
  obtain ⟨ng, hng⟩ : ∃ n, pg.g.length = n := ⟨_, rfl⟩
  obtain ⟨nf, hnf⟩ : ∃ n, fl.length = n := ⟨_, rfl⟩
  obtain ⟨N, hNN⟩ : ∃ n, ns.length = n := ⟨_, rfl⟩
  have hn4 := hN.len
  have HC : Hid ((∀ W, Below w.heap.size w W → Calls Tryz.prog 26 #[.slice gA ng gc] W fun e w' => ∃ A c, e = .returned (.slice A ng c) ∧ w'.ownsRow w.heap.size tG 4 (.slice A ng c) ng (glCells pg.g) ∧ Below W.heap.size W w') ∧
      (∀ W, Below w.heap.size w W → Calls Tryz.prog 27 #[.slice fA nf fc] W fun e w' => ∃ A c ml, e = .returned (.slice A nf c) ∧ ml.map (·.1) = fl.map (·.1) ∧ w'.ownsRow w.heap.size tFn 6 (.slice A nf c) nf (fnCells ml) ∧ (∀ x ∈ ml, w'.ownsRow w.heap.size tP 2 x.2 x.1.ps.length (pmCells x.1.ps)) ∧ Below W.heap.size W w') ∧
      (∀ W, Below w.heap.size w W → Calls Tryz.prog 28 #[.slice nA N nc] W fun e w' => ∃ A c ms, e = .returned (.slice A N c) ∧ ms.map NV.nd = ns.map NV.nd ∧ w'.ownsRow w.heap.size tN 8 (.slice A N c) N (cellsN ms) ∧ (∀ x ∈ ms, w'.ownsRow w.heap.size tI 1 x.v x.kids.length (kidCells x.kids)) ∧ Below W.heap.size W w')) := by
    rw [hng] at hG
    rw [hnf] at hF
    rw [hNN] at hN
    refine Lib.hid ⟨fun W hW => ?_, fun W hW => ?_, fun W hW => ?_⟩
    · refine (copyG_any pg.g ng hng gA gc (by omega) W ((hG.below hW).more hW.size)).mono ?_
      rintro e w' ⟨v, rfl, hr, hb⟩
      obtain ⟨A, c, rfl⟩ := shape_row hr
      exact ⟨A, c, rfl, row_down hr hW.size, hb⟩
    · refine (copyFs_any fl nf hnf (by omega) fA fc W ((hF.below hW).more hW.size) (fun x hx => ((hP x hx).below hW).more hW.size) hpl).mono ?_
      rintro e w' ⟨v, ml, rfl, hm, hr, hk, hb⟩
      obtain ⟨A, c, rfl⟩ := shape_row hr
      exact ⟨A, c, ml, rfl, hm, row_down hr hW.size, fun x hx => row_down (hk x hx) hW.size, hb⟩
    · refine (copyNs_any ns N hNN nA nc W ((hN.below hW).more hW.size) hkl).mono ?_
      rintro e w' ⟨v, ms, rfl, hm, hr, hk, hb⟩
      obtain ⟨A, c, rfl⟩ := shape_row hr
      exact ⟨A, c, ms, rfl, hm, row_down hr hW.size, fun x hx => row_down (hk x hx) hW.size, hb⟩
  have HE := Lib.hid (And.intro hfe (And.intro hnl (And.intro hng (And.intro hnf (And.intro hNN hn4)))))
  rw [hng, hnf, hNN]
  clear hG hF hP hN hfe hnl hng hnf hNN hgl hfl hpl hkl hn4
  go_enter Tryz.func10, Tryz.ntmps10
  go_upto_region 1 with (fail)
  have b1 : Blk ((w.alloc (.cells #[.slice gA ng gc, .slice fA nf fc, .slice nA N nc] tPg)).alloc (.cells #[vNil, vNil, vNil] tPg)) w.heap.size tPg #[.slice gA ng gc, .slice fA nf fc, .slice nA N nc] := (Blk.new w tPg _).alloc _
  have b2 := Blk.new (w.alloc (.cells #[.slice gA ng gc, .slice fA nf fc, .slice nA N nc] tPg)) tPg #[vNil, vNil, vNil]
  have e2 : (w.alloc (.cells #[.slice gA ng gc, .slice fA nf fc, .slice nA N nc] tPg)).heap.size = w.heap.size + 1 := by simp
  rw [e2] at b2
  have hb : Below w.heap.size w ((w.alloc (.cells #[.slice gA ng gc, .slice fA nf fc, .slice nA N nc] tPg)).alloc (.cells #[vNil, vNil, vNil] tPg)) := ((Below.refl _ _).alloc (Nat.le_refl _) _).alloc (by simp) _
  clear e2
  generalize (w.alloc (.cells #[.slice gA ng gc, .slice fA nf fc, .slice nA N nc] tPg)).alloc (.cells #[vNil, vNil, vNil] tPg) = W1 at *
  have HB := Lib.hid hb
  have B1 := Lib.hid b1
  have B2 := Lib.hid b2
  have p0 : W1.cell? ⟨w.heap.size, 0, none⟩ = some (.slice gA ng gc) := b1.cell 0
  have p1 : W1.cell? ⟨w.heap.size, 1, none⟩ = some (.slice fA nf fc) := b1.cell 1
  have p2 : W1.cell? ⟨w.heap.size, 2, none⟩ = some (.slice nA N nc) := b1.cell 2
  have pl := b1.lt
  clear hb b1 b2
  go_region_held2 (fun W => W.cell? ⟨w.heap.size, 0, none⟩ = some (.slice gA ng gc) ∧ W.cell? ⟨w.heap.size, 1, none⟩ = some (.slice fA nf fc) ∧ W.cell? ⟨w.heap.size, 2, none⟩ = some (.slice nA N nc) ∧ w.heap.size < W.heap.size) (first | exact ⟨p0, p1, p2, pl⟩ | exact ⟨q0, q1, q2, ql⟩ | exact ⟨s0, s1, s2, sl⟩ | exact ⟨t0, t1, t2, tl⟩ | exact s3_set (s3_set (s3_set ⟨t0, t1, t2, tl⟩ (by omega) _ _) (by omega) _ _) (by omega) _ _)
    (first
      | (go_at_call 26; refine (HC.out.1 _ (by first | exact HB.out | exact HB.out.drew)).mono ?_; rintro e w1 ⟨A1, c1, rfl, r1, hb1⟩; have HB1 : Hid (Below w.heap.size w w1) := Lib.hid (by first | exact HB.out.trans (hb1.mono HB.out.size) | exact HB.out.drew.trans (hb1.mono HB.out.size)); have B11 := Lib.hid (show Blk w1 w.heap.size tPg #[.slice gA ng gc, .slice fA nf fc, .slice nA N nc] from (hb1.block _ B1.out.lt).trans B1.out); have B12 := Lib.hid (show Blk w1 (w.heap.size + 1) tPg #[vNil, vNil, vNil] from (hb1.block _ B2.out.lt).trans B2.out); have R1 := Lib.hid r1; have q0 : w1.cell? ⟨w.heap.size, 0, none⟩ = some (.slice gA ng gc) := B11.out.cell 0; have q1 : w1.cell? ⟨w.heap.size, 1, none⟩ = some (.slice fA nf fc) := B11.out.cell 1; have q2 : w1.cell? ⟨w.heap.size, 2, none⟩ = some (.slice nA N nc) := B11.out.cell 2; have ql := B11.out.lt; clear hb1 r1)
      | (go_at_call 27; refine (HC.out.2.1 _ (by first | exact HB1.out | exact HB1.out.drew)).mono ?_; rintro e w2 ⟨A2, c2, ml, rfl, hm2, r2, rk2, hb2⟩; have HB2 : Hid (Below w.heap.size w w2) := Lib.hid (by first | exact HB1.out.trans (hb2.mono HB1.out.size) | exact HB1.out.drew.trans (hb2.mono HB1.out.size)); have B21 := Lib.hid (show Blk w2 w.heap.size tPg #[.slice gA ng gc, .slice fA nf fc, .slice nA N nc] from (hb2.block _ B11.out.lt).trans B11.out); have B22 := Lib.hid (show Blk w2 (w.heap.size + 1) tPg #[vNil, vNil, vNil] from (hb2.block _ B12.out.lt).trans B12.out); have R2 := Lib.hid (And.intro (row_low R1.out hb2) (And.intro r2 (And.intro rk2 hm2))); have s0 : w2.cell? ⟨w.heap.size, 0, none⟩ = some (.slice gA ng gc) := B21.out.cell 0; have s1 : w2.cell? ⟨w.heap.size, 1, none⟩ = some (.slice fA nf fc) := B21.out.cell 1; have s2 : w2.cell? ⟨w.heap.size, 2, none⟩ = some (.slice nA N nc) := B21.out.cell 2; have sl := B21.out.lt; clear hb2 r2 rk2 hm2)
      | (go_at_call 28; refine (HC.out.2.2 _ (by first | exact HB2.out | exact HB2.out.drew)).mono ?_; rintro e w3 ⟨A3, c3, ms, rfl, hm3, r3, rk3, hb3⟩; have HB3 : Hid (Below w.heap.size w w3) := Lib.hid (by first | exact HB2.out.trans (hb3.mono HB2.out.size) | exact HB2.out.drew.trans (hb3.mono HB2.out.size)); have B31 := Lib.hid (show Blk w3 w.heap.size tPg #[.slice gA ng gc, .slice fA nf fc, .slice nA N nc] from (hb3.block _ B21.out.lt).trans B21.out); have B32 := Lib.hid (show Blk w3 (w.heap.size + 1) tPg #[vNil, vNil, vNil] from (hb3.block _ B22.out.lt).trans B22.out); have R3 := Lib.hid (And.intro (row_low R2.out.1 hb3) (And.intro (row_low R2.out.2.1 hb3) (And.intro (fun x hx => row_low (R2.out.2.2.1 x hx) hb3) (And.intro R2.out.2.2.2 (And.intro r3 (And.intro rk3 hm3)))))); have t0 : w3.cell? ⟨w.heap.size, 0, none⟩ = some (.slice gA ng gc) := B31.out.cell 0; have t1 : w3.cell? ⟨w.heap.size, 1, none⟩ = some (.slice fA nf fc) := B31.out.cell 1; have t2 : w3.cell? ⟨w.heap.size, 2, none⟩ = some (.slice nA N nc) := B31.out.cell 2; have tl := B31.out.lt; have d0 : w3.cell? ⟨w.heap.size + 1, 0, none⟩ = some vNil := B32.out.cell 0; have d1 : w3.cell? ⟨w.heap.size + 1, 1, none⟩ = some vNil := B32.out.cell 1; have d2 : w3.cell? ⟨w.heap.size + 1, 2, none⟩ = some vNil := B32.out.cell 2; have dl := B32.out.lt; have df0 := B32.out.frozen 0; have df1 := B32.out.frozen 1; have df2 := B32.out.frozen 2; clear hb3 r3 rk3 hm3))
  all_goals
    have hset : ∀ i (W : World) (o : Nat) (x : Value), i ≠ w.heap.size + 1 → (W.setCell ⟨w.heap.size + 1, o, none⟩ x).heap[i]? = W.heap[i]? := fun i W o x h => Below.heap_setCell _ _ _ _ h
    have hd : Blk (((w3.setCell ⟨w.heap.size + 1, 0, none⟩ (.slice A1 ng c1)).setCell ⟨w.heap.size + 1, 1, none⟩ (.slice A2 nf c2)).setCell ⟨w.heap.size + 1, 2, none⟩ (.slice A3 N c3)) (w.heap.size + 1) tPg #[.slice A1 ng c1, .slice A2 nf c2, .slice A3 N c3] := ((B32.out.set_ 0 _).set_ 1 _).set_ 2 _
    have hbl : Below w.heap.size w (((w3.setCell ⟨w.heap.size + 1, 0, none⟩ (.slice A1 ng c1)).setCell ⟨w.heap.size + 1, 1, none⟩ (.slice A2 nf c2)).setCell ⟨w.heap.size + 1, 2, none⟩ (.slice A3 N c3)) := ((HB3.out.setCell (p := ⟨w.heap.size + 1, 0, none⟩) (by simp) _).setCell (p := ⟨w.heap.size + 1, 1, none⟩) (by simp) _).setCell (p := ⟨w.heap.size + 1, 2, none⟩) (by simp) _
    have hkeep : ∀ {B n sz : Nat} {T : TypeId} {v : Value} {cs : List Value}, w3.ownsRow B T sz v n cs → T ≠ tPg → (((w3.setCell ⟨w.heap.size + 1, 0, none⟩ (.slice A1 ng c1)).setCell ⟨w.heap.size + 1, 1, none⟩ (.slice A2 nf c2)).setCell ⟨w.heap.size + 1, 2, none⟩ (.slice A3 N c3)).ownsRow B T sz v n cs := fun {B n sz T v cs} h hT => row_keep h fun i hi => by
      have hne : i ≠ w.heap.size + 1 := fun e => by
        have h1 := own_ne h (T' := tPg) (B' := 0) (sz' := 3) (n' := 1) (cs' := [vNil, vNil, vNil]) (v' := .slice (some ⟨w.heap.size + 1, 0, none⟩) 1 1) ⟨rfl, .inr ⟨w.heap.size + 1, 1, _, rfl, Nat.zero_le _, B32.out, by omega, by unfold maxLen; omega, rfl, rfl⟩⟩ hT hi
        exact h1 (by simp [Value.ownBlock, e])
      rw [hset i _ _ _ hne, hset i _ _ _ hne, hset i _ _ _ hne]
    have hlm : ml.length = nf := by have h := congrArg List.length R3.out.2.2.2.1; rw [List.length_map, List.length_map, HE.out.2.2.2.1] at h; exact h
    have hls : ms.length = N := by have h := congrArg List.length R3.out.2.2.2.2.2.2; rw [List.length_map, List.length_map, HE.out.2.2.2.2.1] at h; exact h
    have HEND := Lib.hid (And.intro hd (And.intro hbl (show PgM w.heap.size (((w3.setCell ⟨w.heap.size + 1, 0, none⟩ (.slice A1 ng c1)).setCell ⟨w.heap.size + 1, 1, none⟩ (.slice A2 nf c2)).setCell ⟨w.heap.size + 1, 2, none⟩ (.slice A3 N c3)) pg (.slice A1 ng c1) (.slice A2 nf c2) (.slice A3 N c3) ml ms from
      { gs := by rw [HE.out.2.2.1]; exact hkeep R3.out.1 (by decide)
        fs := by rw [hlm]; exact hkeep R3.out.2.1 (by decide)
        fe := R3.out.2.2.2.1.trans HE.out.1
        ps := fun x hx => ⟨_, hkeep (R3.out.2.2.1 x hx) (by decide)⟩
        nl := R3.out.2.2.2.2.2.2.trans HE.out.2.1
        nm := by rw [hls, ← HE.out.2.2.2.2.1]; exact HE.out.2.2.2.2.2
        rows := by rw [hls]; exact hkeep R3.out.2.2.2.2.1 (by decide)
        kids := fun x hx => hkeep (R3.out.2.2.2.2.2.1 x hx) (by decide) })))
    clear hset hd hbl hkeep hlm hls
    go_wp2_with fail
    refine bodyPost_ret (results_cell_row rfl _ _ (w.heap.size + 1) tPg _ (0, 0) _ rfl HEND.out.1 Tryz.underlying33 rfl pgInfo) rfl ?_
    exact ⟨_, _, _, ml, ms, rfl, HEND.out.2.2, HEND.out.2.1⟩
end Go.Proofs.YtlbjjpfhkgagiaaGreatDoor
/-! Ptd -/
namespace Go.Proofs.YtlbjjpfhkgagiaaGreatDoor
open Go.RowKit
set_option linter.unusedVariables false
set_option linter.unusedSimpArgs false

set_option maxHeartbeats 2000000 in
set_option maxRecDepth 100000 in
theorem sameP_any (ps : List Pm) (n : Nat) (hn : ps.length = n) (A A' : Option Addr) (c c' B B' : Nat) (hc : n ≤ 1400000) (w : World) (h1 : PmI w B (.slice A n c) ps) (h2 : PmI w B' (.slice A' n c') ps) :
    Calls Tryz.prog 108 #[.slice A n c, .slice A' n c'] w fun e w' => e = .returned (.bool true) ∧ ∃ d, w' = w.drewN d := by
  obtain ⟨A1, c1, hv, h1⟩ := h1
  simp only [Value.slice.injEq] at hv
  obtain ⟨rfl, -, rfl⟩ := hv
  obtain ⟨A2, c2, hv, h2⟩ := h2
  simp only [Value.slice.injEq] at hv
  obtain ⟨rfl, -, rfl⟩ := hv
  go_enter Tryz.func108, Tryz.ntmps108
  go_wp2
  go_loopw [5] (fun v wr => ∃ k : Nat, k ≤ n ∧ v = .int .i64 k ∧ ∃ d, wr = w.drewN d) (fun v _ => n - (intOf v).toNat)
  case atStart => exact ⟨0, by omega, rfl, 0, rfl⟩
  case round =>
    obtain ⟨k, hk, rfl, d, rfl⟩ := hrel
    by_cases hlt : k < n
    · have hkl : k < ps.length := by omega
      obtain ⟨g, o, rfl, hg, x0, x1⟩ : ∃ g o, A = some ⟨g, o, none⟩ ∧ g < B ∧ w.cell? ⟨g, o + k * 2, none⟩ = some (.string (str (ps[k]).s)) ∧ w.cell? ⟨g, o + k * 2 + 1, none⟩ = some (.int .i64 (ps[k]).ty) := by
        rcases h1 with rfl | ⟨g, o, e, hg, hc⟩
        · simp at hkl
        · exact ⟨g, o, e, hg, hc k _ (List.getElem?_eq_getElem hkl)⟩
      obtain ⟨g', o', rfl, hg', y0, y1⟩ : ∃ g o, A' = some ⟨g, o, none⟩ ∧ g < B' ∧ w.cell? ⟨g, o + k * 2, none⟩ = some (.string (str (ps[k]).s)) ∧ w.cell? ⟨g, o + k * 2 + 1, none⟩ = some (.int .i64 (ps[k]).ty) := by
        rcases h2 with rfl | ⟨g, o, e, hg, hc⟩
        · simp at hkl
        · exact ⟨g, o, e, hg, hc k _ (List.getElem?_eq_getElem hkl)⟩
      generalize ps[k] = t at *
      go_wp2
      go_quiet (fail)
      go_wp2
      go_roundw
      case rel => exact ⟨k + 1, by omega, by go_num, _, rfl⟩
      case measure => simp [intOf]; omega
    · go_wp2
      go_ret
      exact ⟨rfl, d, rfl⟩

set_option maxHeartbeats 2000000 in
set_option maxRecDepth 100000 in
theorem sameG_any (gs : List Gl) (n : Nat) (hn : gs.length = n) (A A' : Option Addr) (c c' B B' : Nat) (hc : n ≤ 1400000) (w : World) (h1 : GlI w B (.slice A n c) gs) (h2 : GlI w B' (.slice A' n c') gs) :
    Calls Tryz.prog 36 #[.slice A n c, .slice A' n c'] w fun e w' => e = .returned (.bool true) ∧ ∃ d, w' = w.drewN d := by
  obtain ⟨A1, c1, hv, h1⟩ := h1
  simp only [Value.slice.injEq] at hv
  obtain ⟨rfl, -, rfl⟩ := hv
  obtain ⟨A2, c2, hv, h2⟩ := h2
  simp only [Value.slice.injEq] at hv
  obtain ⟨rfl, -, rfl⟩ := hv
  go_enter Tryz.func36, Tryz.ntmps36
  go_wp2
  go_loopw [5] (fun v wr => ∃ k : Nat, k ≤ n ∧ v = .int .i64 k ∧ ∃ d, wr = w.drewN d) (fun v _ => n - (intOf v).toNat)
  case atStart => exact ⟨0, by omega, rfl, 0, rfl⟩
  case round =>
    obtain ⟨k, hk, rfl, d, rfl⟩ := hrel
    by_cases hlt : k < n
    · have hkl : k < gs.length := by omega
      obtain ⟨g, o, rfl, hg, hx⟩ : ∃ g o, A = some ⟨g, o, none⟩ ∧ g < B ∧ ∀ j, j < 4 → w.cell? ⟨g, o + k * 4 + j, none⟩ = (glA gs[k])[j]? := by
        rcases h1 with rfl | ⟨g, o, e, hg, hc⟩
        · simp at hkl
        · exact ⟨g, o, e, hg, hc k _ (List.getElem?_eq_getElem hkl)⟩
      obtain ⟨g', o', rfl, hg', hy⟩ : ∃ g o, A' = some ⟨g, o, none⟩ ∧ g < B' ∧ ∀ j, j < 4 → w.cell? ⟨g, o + k * 4 + j, none⟩ = (glA gs[k])[j]? := by
        rcases h2 with rfl | ⟨g, o, e, hg, hc⟩
        · simp at hkl
        · exact ⟨g, o, e, hg, hc k _ (List.getElem?_eq_getElem hkl)⟩
      have x0 : w.cell? ⟨g, o + k * 4, none⟩ = _ := hx 0 (by omega)
      have x1 : w.cell? ⟨g, o + k * 4 + 1, none⟩ = _ := hx 1 (by omega)
      have x2 : w.cell? ⟨g, o + k * 4 + 2, none⟩ = _ := hx 2 (by omega)
      have x3 : w.cell? ⟨g, o + k * 4 + 3, none⟩ = _ := hx 3 (by omega)
      have y0 : w.cell? ⟨g', o' + k * 4, none⟩ = _ := hy 0 (by omega)
      have y1 : w.cell? ⟨g', o' + k * 4 + 1, none⟩ = _ := hy 1 (by omega)
      have y2 : w.cell? ⟨g', o' + k * 4 + 2, none⟩ = _ := hy 2 (by omega)
      have y3 : w.cell? ⟨g', o' + k * 4 + 3, none⟩ = _ := hy 3 (by omega)
      generalize gs[k] = t at *
      simp only [glA, List.getElem?_toArray, List.getElem?_cons_zero, List.getElem?_cons_succ] at x0 x1 x2 x3 y0 y1 y2 y3
      clear hx hy h1 h2
      go_wp2
      go_quiet (fail)
      go_wp2
      go_roundw
      case rel => exact ⟨k + 1, by omega, by go_num, _, rfl⟩
      case measure => simp [intOf]; omega
    · go_wp2
      go_ret
      exact ⟨rfl, d, rfl⟩

set_option maxHeartbeats 2000000 in
set_option maxRecDepth 100000 in
theorem sameN_any (x : NV) (v' : Value) (w : World) (hx : NdI w w.heap.size x) (hy : NdI w w.heap.size ⟨x.h, x.kids, v'⟩) (hk : x.kids.length ≤ 4000) :
    Calls Tryz.prog 64 #[nodeV x, nodeV ⟨x.h, x.kids, v'⟩] w fun e w' => e = .returned (.bool true) ∧ Below w.heap.size w w' := by
  obtain ⟨A, c, hv, hlc, hcm, hr⟩ := hx
  obtain ⟨A', c', hv', hlc', hcm', hr'⟩ := hy
  obtain ⟨n, hn⟩ : ∃ n, x.kids.length = n := ⟨_, rfl⟩
  simp only at hv' hr' hlc'
  unfold nodeV cells8
  simp only
  rw [hv, hv']
  rw [hn] at hk hlc hlc' ⊢
  have HR := Lib.hid (And.intro hr (And.intro hr' hn))
  clear hr hr' hv hv' hn
  go_enter Tryz.func64, Tryz.ntmps64
  go_upto_region 1 with (fail)
  have b1 : Blk ((w.alloc (.cells #[.int .i64 x.h.op, .int .i64 x.h.p, .int .i64 x.h.n, .string (str x.h.s), .int .i64 x.h.to, .slice A n c, .int .i64 x.h.ty, .int .i64 0] tN)).alloc (.cells #[.int .i64 x.h.op, .int .i64 x.h.p, .int .i64 x.h.n, .string (str x.h.s), .int .i64 x.h.to, .slice A' n c', .int .i64 x.h.ty, .int .i64 0] tN)) w.heap.size tN #[.int .i64 x.h.op, .int .i64 x.h.p, .int .i64 x.h.n, .string (str x.h.s), .int .i64 x.h.to, .slice A n c, .int .i64 x.h.ty, .int .i64 0] := (Blk.new w tN _).alloc _
  have b2 := Blk.new (w.alloc (.cells #[.int .i64 x.h.op, .int .i64 x.h.p, .int .i64 x.h.n, .string (str x.h.s), .int .i64 x.h.to, .slice A n c, .int .i64 x.h.ty, .int .i64 0] tN)) tN #[.int .i64 x.h.op, .int .i64 x.h.p, .int .i64 x.h.n, .string (str x.h.s), .int .i64 x.h.to, .slice A' n c', .int .i64 x.h.ty, .int .i64 0]
  have e2 : (w.alloc (.cells #[.int .i64 x.h.op, .int .i64 x.h.p, .int .i64 x.h.n, .string (str x.h.s), .int .i64 x.h.to, .slice A n c, .int .i64 x.h.ty, .int .i64 0] tN)).heap.size = w.heap.size + 1 := by simp
  rw [e2] at b2
  have hb : Below w.heap.size w ((w.alloc (.cells #[.int .i64 x.h.op, .int .i64 x.h.p, .int .i64 x.h.n, .string (str x.h.s), .int .i64 x.h.to, .slice A n c, .int .i64 x.h.ty, .int .i64 0] tN)).alloc (.cells #[.int .i64 x.h.op, .int .i64 x.h.p, .int .i64 x.h.n, .string (str x.h.s), .int .i64 x.h.to, .slice A' n c', .int .i64 x.h.ty, .int .i64 0] tN)) := ((Below.refl _ _).alloc (Nat.le_refl _) _).alloc (by simp) _
  clear e2
  generalize (w.alloc (.cells #[.int .i64 x.h.op, .int .i64 x.h.p, .int .i64 x.h.n, .string (str x.h.s), .int .i64 x.h.to, .slice A n c, .int .i64 x.h.ty, .int .i64 0] tN)).alloc (.cells #[.int .i64 x.h.op, .int .i64 x.h.p, .int .i64 x.h.n, .string (str x.h.s), .int .i64 x.h.to, .slice A' n c', .int .i64 x.h.ty, .int .i64 0] tN) = W at *
  obtain ⟨p0, p1, p2, p3, p4, p5, p6, p7, pl⟩ : _ ∧ _ ∧ _ ∧ _ ∧ _ ∧ _ ∧ _ ∧ _ ∧ _ := ⟨b1.cell 0, b1.cell 1, b1.cell 2, b1.cell 3, b1.cell 4, b1.cell 5, b1.cell 6, b1.cell 7, b1.lt⟩
  obtain ⟨q0, q1, q2, q3, q4, q5, q6, q7, ql⟩ : _ ∧ _ ∧ _ ∧ _ ∧ _ ∧ _ ∧ _ ∧ _ ∧ _ := ⟨b2.cell 0, b2.cell 1, b2.cell 2, b2.cell 3, b2.cell 4, b2.cell 5, b2.cell 6, b2.cell 7, b2.lt⟩
  simp only [List.getElem?_toArray, List.getElem?_cons_zero, List.getElem?_cons_succ] at p0 p1 p2 p3 p4 p5 p6 p7 q0 q1 q2 q3 q4 q5 q6 q7
  have HB := Lib.hid hb
  have HS := Lib.hid (sameI_any x.kids n HR.out.2.2 A A' c c' _ _ (by unfold maxLen; omega) W (HR.out.1.below hb) (HR.out.2.1.below hb))
  clear b1 b2 hb
  generalize x.h = hh at *
  obtain ⟨o1, o2, o3, o4, o5, o6⟩ := hh
  simp only at *
  go_wp2_with fail
  refine HS.out.mono ?_
  clear HS
  rintro e w1 ⟨rfl, d, rfl⟩
  go_wp2_with fail
  go_ret
  exact ⟨rfl, HB.out.trans (below_drewN _ _ _)⟩
end Go.Proofs.YtlbjjpfhkgagiaaGreatDoor
/-! Pte -/
namespace Go.Proofs.YtlbjjpfhkgagiaaGreatDoor
open Go.RowKit
set_option linter.unusedVariables false
set_option linter.unusedSimpArgs false

theorem NdI.more {w : World} {B B' : Nat} {x : NV} (h : NdI w B x) (hB : B ≤ B') : NdI w B' x := by
  obtain ⟨A2, c2, a1, a2, a3, a4⟩ := h
  exact ⟨A2, c2, a1, a2, a3, a4.more hB⟩

set_option maxHeartbeats 2000000 in
set_option maxRecDepth 100000 in
theorem sameNs_any (ns ms : List NV) (hnm : ms.map NV.nd = ns.map NV.nd) (N : Nat) (hN : ns.length = N) (A A' : Option Addr) (c c' : Nat) (w : World) (h : Nds w w.heap.size (.slice A N c) ns) (h' : Nds w w.heap.size (.slice A' N c') ms) (hkl : ∀ x ∈ ns, x.kids.length ≤ 4000) :
    Calls Tryz.prog 38 #[.slice A N c, .slice A' N c'] w fun e w' => e = .returned (.bool true) ∧ Below w.heap.size w w' := by
  have hN4 : N ≤ 4000 := by have := h.len; omega
  have hM : ms.length = N := by have h1 := congrArg List.length hnm; rw [List.length_map, List.length_map, hN] at h1; exact h1
  obtain ⟨A1, c1, hv, h1⟩ := h.sl
  simp only [Value.slice.injEq] at hv
  obtain ⟨rfl, -, rfl⟩ := hv
  obtain ⟨A2, c2, hv, h2⟩ := h'.sl
  simp only [Value.slice.injEq] at hv
  obtain ⟨rfl, -, rfl⟩ := hv
  have HK := Lib.hid (And.intro h.kids (And.intro hkl (And.intro h'.kids hnm)))
  clear h h' hkl hnm
  go_enter Tryz.func38, Tryz.ntmps38
  go_wp2
  go_loopw [5] (fun v wr => ∃ k : Nat, k ≤ N ∧ v = .int .i64 k ∧ Below w.heap.size w wr) (fun v _ => N - (intOf v).toNat)
  case atStart => exact ⟨0, by omega, rfl, Below.refl _ _⟩
  case round =>
    obtain ⟨k, hk, rfl, hb⟩ := hrel
    by_cases hlt : k < N
    · have hkn : k < ns.length := by omega
      have hkm : k < ms.length := by omega
      obtain ⟨g, o, rfl, hg, hc⟩ : ∃ g o, A = some ⟨g, o, none⟩ ∧ g < w.heap.size ∧ ∀ j, j < 8 → wr.cell? ⟨g, o + k * 8 + j, none⟩ = (cells8 ns[k])[j]? := by
        rcases h1 with h9 | ⟨g, o, e, hg, hc⟩
        · rw [h9] at hkn; simp at hkn
        · exact ⟨g, o, e, hg, fun j hj => (hb.cell (p := ⟨g, o + k * 8 + j, none⟩) hg).trans (hc k _ (List.getElem?_eq_getElem hkn) j hj)⟩
      obtain ⟨g', o', rfl, hg', hc'⟩ : ∃ g o, A' = some ⟨g, o, none⟩ ∧ g < w.heap.size ∧ ∀ j, j < 8 → wr.cell? ⟨g, o + k * 8 + j, none⟩ = (cells8 ms[k])[j]? := by
        rcases h2 with h9 | ⟨g, o, e, hg, hc⟩
        · rw [h9] at hkm; simp at hkm
        · exact ⟨g, o, e, hg, fun j hj => (hb.cell (p := ⟨g, o + k * 8 + j, none⟩) hg).trans (hc k _ (List.getElem?_eq_getElem hkm) j hj)⟩
      have hnd := ((HK.out.1 _ (List.getElem_mem hkn)).below hb).more hb.size
      have hmd := ((HK.out.2.2.1 _ (List.getElem_mem hkm)).below hb).more hb.size
      have hkl := HK.out.2.1 _ (List.getElem_mem hkn)
      have hsm : ms[k].nd = ns[k].nd := by
        have h9 := congrArg (·[k]?) HK.out.2.2.2
        simp only [List.getElem?_map, List.getElem?_eq_getElem hkn, List.getElem?_eq_getElem hkm, Option.map_some, Option.some.injEq] at h9
        exact h9
      have hgw : g < wr.heap.size := by have := hb.size; omega
      have hgw' : g' < wr.heap.size := by have := hb.size; omega
      generalize ns[k] = t at *
      generalize ms[k] = u at *
      obtain ⟨uh, uk, uv⟩ := u
      simp only [NV.nd, Nd.mk.injEq] at hsm
      obtain ⟨rfl, rfl⟩ := hsm
      have hsn := fun (W : World) (hW : Below wr.heap.size wr W) => sameN_any t uv W ((hnd.below hW).more hW.size) ((hmd.below hW).more hW.size) hkl
      unfold nodeV cells8 at hsn
      simp only at hsn
      have y0 : wr.cell? ⟨g, o + k * 8, none⟩ = _ := hc 0 (by omega)
      have y1 : wr.cell? ⟨g, o + k * 8 + 1, none⟩ = _ := hc 1 (by omega)
      have y2 : wr.cell? ⟨g, o + k * 8 + 2, none⟩ = _ := hc 2 (by omega)
      have y3 : wr.cell? ⟨g, o + k * 8 + 3, none⟩ = _ := hc 3 (by omega)
      have y4 : wr.cell? ⟨g, o + k * 8 + 4, none⟩ = _ := hc 4 (by omega)
      have y5 : wr.cell? ⟨g, o + k * 8 + 5, none⟩ = _ := hc 5 (by omega)
      have y6 : wr.cell? ⟨g, o + k * 8 + 6, none⟩ = _ := hc 6 (by omega)
      have y7 : wr.cell? ⟨g, o + k * 8 + 7, none⟩ = _ := hc 7 (by omega)
      have z0 : wr.cell? ⟨g', o' + k * 8, none⟩ = _ := hc' 0 (by omega)
      have z1 : wr.cell? ⟨g', o' + k * 8 + 1, none⟩ = _ := hc' 1 (by omega)
      have z2 : wr.cell? ⟨g', o' + k * 8 + 2, none⟩ = _ := hc' 2 (by omega)
      have z3 : wr.cell? ⟨g', o' + k * 8 + 3, none⟩ = _ := hc' 3 (by omega)
      have z4 : wr.cell? ⟨g', o' + k * 8 + 4, none⟩ = _ := hc' 4 (by omega)
      have z5 : wr.cell? ⟨g', o' + k * 8 + 5, none⟩ = _ := hc' 5 (by omega)
      have z6 : wr.cell? ⟨g', o' + k * 8 + 6, none⟩ = _ := hc' 6 (by omega)
      have z7 : wr.cell? ⟨g', o' + k * 8 + 7, none⟩ = _ := hc' 7 (by omega)
      simp only [cells8, List.getElem?_cons_zero, List.getElem?_cons_succ] at y0 y1 y2 y3 y4 y5 y6 y7 z0 z1 z2 z3 z4 z5 z6 z7
      have HSN := Lib.hid hsn
      have HB := Lib.hid hb
      obtain ⟨-, tv⟩ : True ∧ ∃ v, t.v = v := ⟨trivial, _, rfl⟩
      clear hc hc' hnd hmd hkl hsn hb h1 h2 tv
      go_wp2_with fail
      go_region_with (go_at_call 64; refine (HSN.out _ (by first | exact Below.refl _ _ | exact bd1 _ | exact (bd1 _).drew)).mono ?_; rintro e w1 ⟨rfl, hb1⟩)
      all_goals
        have hbw : Below w.heap.size w w1 := by first | exact HB.out.trans (hb1.mono HB.out.size) | exact HB.out.drew.trans (hb1.mono HB.out.size)
        have HBW := Lib.hid hbw
        clear hb1 hbw
        go_wp2
        go_roundw
        case rel => exact ⟨k + 1, by omega, by go_num, HBW.out⟩
        case measure => simp [intOf]; omega
    · go_wp2
      go_ret
      exact ⟨rfl, hb⟩
end Go.Proofs.YtlbjjpfhkgagiaaGreatDoor
/-! Ptf -/
namespace Go.Proofs.YtlbjjpfhkgagiaaGreatDoor
open Go.RowKit
set_option linter.unusedVariables false
set_option linter.unusedSimpArgs false

set_option maxHeartbeats 2000000 in
set_option maxRecDepth 100000 in
theorem sameF_any (f : Fn') (pv pv' : Value) (b : Nat) (w : World) (h : PmI w w.heap.size pv f.ps) (h' : PmI w w.heap.size pv' f.ps) (hp : f.ps.length ≤ 1400000) :
    Calls Tryz.prog 63 #[fnV f pv b, fnV f pv' b] w fun e w' => e = .returned (.bool true) ∧ Below w.heap.size w w' := by
  obtain ⟨A, c, rfl, -⟩ := id h
  obtain ⟨A', c', rfl, -⟩ := id h'
  obtain ⟨n, hn⟩ : ∃ n, f.ps.length = n := ⟨_, rfl⟩
  unfold fnV fnA
  rw [hn] at h h' hp ⊢
  have HR := Lib.hid (And.intro h (And.intro h' hn))
  clear h h' hn
  go_enter Tryz.func63, Tryz.ntmps63
  go_upto_region 1 with (fail)
  have b1 : Blk ((w.alloc (.cells #[.string (str f.s), .int .i64 f.ty, .slice A n c, .int .i64 (b : Nat), .int .i64 f.p, .slice none 0 0] tFn)).alloc (.cells #[.string (str f.s), .int .i64 f.ty, .slice A' n c', .int .i64 (b : Nat), .int .i64 f.p, .slice none 0 0] tFn)) w.heap.size tFn #[.string (str f.s), .int .i64 f.ty, .slice A n c, .int .i64 (b : Nat), .int .i64 f.p, .slice none 0 0] := (Blk.new w tFn _).alloc _
  have b2 := Blk.new (w.alloc (.cells #[.string (str f.s), .int .i64 f.ty, .slice A n c, .int .i64 (b : Nat), .int .i64 f.p, .slice none 0 0] tFn)) tFn #[.string (str f.s), .int .i64 f.ty, .slice A' n c', .int .i64 (b : Nat), .int .i64 f.p, .slice none 0 0]
  have e2 : (w.alloc (.cells #[.string (str f.s), .int .i64 f.ty, .slice A n c, .int .i64 (b : Nat), .int .i64 f.p, .slice none 0 0] tFn)).heap.size = w.heap.size + 1 := by simp
  rw [e2] at b2
  have hb : Below w.heap.size w ((w.alloc (.cells #[.string (str f.s), .int .i64 f.ty, .slice A n c, .int .i64 (b : Nat), .int .i64 f.p, .slice none 0 0] tFn)).alloc (.cells #[.string (str f.s), .int .i64 f.ty, .slice A' n c', .int .i64 (b : Nat), .int .i64 f.p, .slice none 0 0] tFn)) := ((Below.refl _ _).alloc (Nat.le_refl _) _).alloc (by simp) _
  clear e2
  generalize (w.alloc (.cells #[.string (str f.s), .int .i64 f.ty, .slice A n c, .int .i64 (b : Nat), .int .i64 f.p, .slice none 0 0] tFn)).alloc (.cells #[.string (str f.s), .int .i64 f.ty, .slice A' n c', .int .i64 (b : Nat), .int .i64 f.p, .slice none 0 0] tFn) = W at *
  obtain ⟨p0, p1, p2, p3, p4, p5, pl⟩ : _ ∧ _ ∧ _ ∧ _ ∧ _ ∧ _ ∧ _ := ⟨b1.cell 0, b1.cell 1, b1.cell 2, b1.cell 3, b1.cell 4, b1.cell 5, b1.lt⟩
  obtain ⟨q0, q1, q2, q3, q4, q5, ql⟩ : _ ∧ _ ∧ _ ∧ _ ∧ _ ∧ _ ∧ _ := ⟨b2.cell 0, b2.cell 1, b2.cell 2, b2.cell 3, b2.cell 4, b2.cell 5, b2.lt⟩
  simp only [List.getElem?_toArray, List.getElem?_cons_zero, List.getElem?_cons_succ] at p0 p1 p2 p3 p4 p5 q0 q1 q2 q3 q4 q5
  have HB := Lib.hid hb
  have HS := Lib.hid (sameP_any f.ps n HR.out.2.2 A A' c c' _ _ (by omega) W (HR.out.1.below hb) (HR.out.2.1.below hb))
  clear b1 b2 hb
  generalize f.s = f1 at *
  generalize f.ty = f2 at *
  generalize f.p = f3 at *
  go_wp2_with fail
  refine HS.out.mono ?_
  clear HS
  rintro e w1 ⟨rfl, d, rfl⟩
  have HS := Lib.hid (sameI_any [] 0 rfl none none 0 0 0 0 (by unfold maxLen; omega) (W.drewN d) (.inl rfl) (.inl rfl))
  go_wp2_with fail
  refine HS.out.mono ?_
  clear HS
  rintro e w2 ⟨rfl, d', rfl⟩
  go_wp2_with fail
  go_ret
  first
    | exact ⟨rfl, HB.out.trans (below_drewN _ _ _)⟩
    | exact ⟨rfl, (HB.out.trans (below_drewN _ _ _)).trans (below_drewN _ _ _)⟩

set_option maxHeartbeats 2000000 in
set_option maxRecDepth 100000 in
theorem sameFs_any (fl ml : List (Fn' × Value)) (hfm : ml.map (·.1) = fl.map (·.1)) (N : Nat) (hN : fl.length = N) (hN4 : N ≤ 1400000) (A A' : Option Addr) (c c' : Nat) (w : World) (h : FnI w w.heap.size (.slice A N c) fl) (h' : FnI w w.heap.size (.slice A' N c') ml)
    (hP : ∀ x ∈ fl, PmI w w.heap.size x.2 x.1.ps) (hP' : ∀ x ∈ ml, PmI w w.heap.size x.2 x.1.ps) (hpl : ∀ x ∈ fl, x.1.ps.length ≤ 1400000) :
    Calls Tryz.prog 37 #[.slice A N c, .slice A' N c'] w fun e w' => e = .returned (.bool true) ∧ Below w.heap.size w w' := by
  have hM : ml.length = N := by have h1 := congrArg List.length hfm; rw [List.length_map, List.length_map, hN] at h1; exact h1
  obtain ⟨A1, c1, hv, h1⟩ := h
  simp only [Value.slice.injEq] at hv
  obtain ⟨rfl, -, rfl⟩ := hv
  obtain ⟨A2, c2, hv, h2⟩ := h'
  simp only [Value.slice.injEq] at hv
  obtain ⟨rfl, -, rfl⟩ := hv
  have HK := Lib.hid (And.intro hP (And.intro hpl (And.intro hP' hfm)))
  clear hP hpl hP' hfm
  go_enter Tryz.func37, Tryz.ntmps37
  go_wp2
  go_loopw [5] (fun v wr => ∃ k : Nat, k ≤ N ∧ v = .int .i64 k ∧ Below w.heap.size w wr) (fun v _ => N - (intOf v).toNat)
  case atStart => exact ⟨0, by omega, rfl, Below.refl _ _⟩
  case round =>
    obtain ⟨k, hk, rfl, hb⟩ := hrel
    by_cases hlt : k < N
    · have hkn : k < fl.length := by omega
      have hkm : k < ml.length := by omega
      obtain ⟨g, o, rfl, hg, hc⟩ : ∃ g o, A = some ⟨g, o, none⟩ ∧ g < w.heap.size ∧ ∀ j, j < 6 → wr.cell? ⟨g, o + k * 6 + j, none⟩ = (fnA fl[k].1 fl[k].2 fl[k].1.b)[j]? := by
        rcases h1 with h9 | ⟨g, o, e, hg, hc⟩
        · rw [h9] at hkn; simp at hkn
        · exact ⟨g, o, e, hg, fun j hj => (hb.cell (p := ⟨g, o + k * 6 + j, none⟩) hg).trans (hc k _ (List.getElem?_eq_getElem hkn) j hj)⟩
      obtain ⟨g', o', rfl, hg', hc'⟩ : ∃ g o, A' = some ⟨g, o, none⟩ ∧ g < w.heap.size ∧ ∀ j, j < 6 → wr.cell? ⟨g, o + k * 6 + j, none⟩ = (fnA ml[k].1 ml[k].2 ml[k].1.b)[j]? := by
        rcases h2 with h9 | ⟨g, o, e, hg, hc⟩
        · rw [h9] at hkm; simp at hkm
        · exact ⟨g, o, e, hg, fun j hj => (hb.cell (p := ⟨g, o + k * 6 + j, none⟩) hg).trans (hc k _ (List.getElem?_eq_getElem hkm) j hj)⟩
      have hnd := ((HK.out.1 _ (List.getElem_mem hkn)).below hb).more hb.size
      have hmd := ((HK.out.2.2.1 _ (List.getElem_mem hkm)).below hb).more hb.size
      have hkl := HK.out.2.1 _ (List.getElem_mem hkn)
      have hsm : ml[k].1 = fl[k].1 := by
        have h9 := congrArg (·[k]?) HK.out.2.2.2
        simp only [List.getElem?_map, List.getElem?_eq_getElem hkn, List.getElem?_eq_getElem hkm, Option.map_some, Option.some.injEq] at h9
        exact h9
      have hgw : g < wr.heap.size := by have := hb.size; omega
      have hgw' : g' < wr.heap.size := by have := hb.size; omega
      generalize fl[k] = t at *
      generalize ml[k] = u at *
      obtain ⟨t1, t2⟩ := t
      obtain ⟨u1, u2⟩ := u
      (try simp only at hsm)
      subst hsm
      simp only at hnd hmd hkl hc hc'
      have hsn := fun (W : World) (hW : Below wr.heap.size wr W) => sameF_any u1 t2 u2 u1.b W ((hnd.below hW).more hW.size) ((hmd.below hW).more hW.size) hkl
      unfold fnV fnA at hsn
      (try simp only at hsn)
      have y0 : wr.cell? ⟨g, o + k * 6, none⟩ = _ := hc 0 (by omega)
      have y1 : wr.cell? ⟨g, o + k * 6 + 1, none⟩ = _ := hc 1 (by omega)
      have y2 : wr.cell? ⟨g, o + k * 6 + 2, none⟩ = _ := hc 2 (by omega)
      have y3 : wr.cell? ⟨g, o + k * 6 + 3, none⟩ = _ := hc 3 (by omega)
      have y4 : wr.cell? ⟨g, o + k * 6 + 4, none⟩ = _ := hc 4 (by omega)
      have y5 : wr.cell? ⟨g, o + k * 6 + 5, none⟩ = _ := hc 5 (by omega)
      have z0 : wr.cell? ⟨g', o' + k * 6, none⟩ = _ := hc' 0 (by omega)
      have z1 : wr.cell? ⟨g', o' + k * 6 + 1, none⟩ = _ := hc' 1 (by omega)
      have z2 : wr.cell? ⟨g', o' + k * 6 + 2, none⟩ = _ := hc' 2 (by omega)
      have z3 : wr.cell? ⟨g', o' + k * 6 + 3, none⟩ = _ := hc' 3 (by omega)
      have z4 : wr.cell? ⟨g', o' + k * 6 + 4, none⟩ = _ := hc' 4 (by omega)
      have z5 : wr.cell? ⟨g', o' + k * 6 + 5, none⟩ = _ := hc' 5 (by omega)
      simp only [fnA, List.getElem?_toArray, List.getElem?_cons_zero, List.getElem?_cons_succ] at y0 y1 y2 y3 y4 y5 z0 z1 z2 z3 z4 z5
      have HSN := Lib.hid hsn
      have HB := Lib.hid hb
      clear hc hc' hnd hmd hkl hsn hb h1 h2
      go_wp2_with fail
      go_region_with (go_at_call 63; refine (HSN.out _ (by first | exact Below.refl _ _ | exact bd1 _ | exact (bd1 _).drew)).mono ?_; rintro e w1 ⟨rfl, hb1⟩)
      all_goals
        have hbw : Below w.heap.size w w1 := by first | exact HB.out.trans (hb1.mono HB.out.size) | exact HB.out.drew.trans (hb1.mono HB.out.size)
        have HBW := Lib.hid hbw
        clear hb1 hbw
        go_wp2
        go_roundw
        case rel => exact ⟨k + 1, by omega, by go_num, HBW.out⟩
        case measure => simp [intOf]; omega
    · go_wp2
      go_ret
      exact ⟨rfl, hb⟩

set_option maxHeartbeats 2000000 in
set_option maxRecDepth 100000 in
/-- Two programs of the same text. -/
theorem samePr_any (pg : Pg) (fl ml : List (Fn' × Value)) (ns ms : List NV) (gv fv nv gv' fv' nv' : Value) (w : World) (hG : GlI w w.heap.size gv pg.g) (hF : FnI w w.heap.size fv fl) (hP : ∀ x ∈ fl, PmI w w.heap.size x.2 x.1.ps) (hN : Nds w w.heap.size nv ns)
    (hG' : GlI w w.heap.size gv' pg.g) (hF' : FnI w w.heap.size fv' ml) (hP' : ∀ x ∈ ml, PmI w w.heap.size x.2 x.1.ps) (hN' : Nds w w.heap.size nv' ms) (hfe : ml.map (·.1) = fl.map (·.1)) (hnl : ms.map NV.nd = ns.map NV.nd)
    (hgl : pg.g.length ≤ 1400000) (hfl : fl.length ≤ 1400000) (hpl : ∀ x ∈ fl, x.1.ps.length ≤ 1400000) (hkl : ∀ x ∈ ns, x.kids.length ≤ 4000) :
    Calls Tryz.prog 13 #[.agg #[gv, fv, nv], .agg #[gv', fv', nv']] w fun e w' => e = .returned (.bool true) ∧ Below w.heap.size w w' := by
  have hlf : ml.length = fl.length := by have h := congrArg List.length hfe; rw [List.length_map, List.length_map] at h; exact h
  have hln : ms.length = ns.length := by have h := congrArg List.length hnl; rw [List.length_map, List.length_map] at h; exact h
  obtain ⟨gA, gc, rfl, -⟩ := id hG
  obtain ⟨fA, fc, rfl, -⟩ := id hF
  obtain ⟨nA, nc, rfl, -⟩ := id hN.sl
  obtain ⟨gA', gc', rfl, -⟩ := id hG'
  obtain ⟨fA', fc', rfl, -⟩ := id hF'
  obtain ⟨nA', nc', rfl, -⟩ := id hN'.sl
  obtain ⟨ng, hng⟩ : ∃ n, pg.g.length = n := ⟨_, rfl⟩
  obtain ⟨nf, hnf⟩ : ∃ n, fl.length = n := ⟨_, rfl⟩
  obtain ⟨N, hNN⟩ : ∃ n, ns.length = n := ⟨_, rfl⟩
  rw [hlf] at hF' ⊢
  rw [hln] at hN' ⊢
  rw [hng] at hG hG' hgl ⊢
  rw [hnf] at hF hF' hfl ⊢
  rw [hNN] at hN hN' ⊢
  have HC : Hid ((∀ W, Below w.heap.size w W → Calls Tryz.prog 36 #[.slice gA ng gc, .slice gA' ng gc'] W fun e w' => e = .returned (.bool true) ∧ ∃ d, w' = W.drewN d) ∧
      (∀ W, Below w.heap.size w W → Calls Tryz.prog 37 #[.slice fA nf fc, .slice fA' nf fc'] W fun e w' => e = .returned (.bool true) ∧ Below W.heap.size W w') ∧
      (∀ W, Below w.heap.size w W → Calls Tryz.prog 38 #[.slice nA N nc, .slice nA' N nc'] W fun e w' => e = .returned (.bool true) ∧ Below W.heap.size W w')) := by
    refine Lib.hid ⟨fun W hW => ?_, fun W hW => ?_, fun W hW => ?_⟩
    · exact sameG_any pg.g ng hng gA gA' gc gc' _ _ hgl W (hG.below hW) (hG'.below hW)
    · exact sameFs_any fl ml hfe nf hnf hfl fA fA' fc fc' W ((hF.below hW).more hW.size) ((hF'.below hW).more hW.size) (fun x hx => ((hP x hx).below hW).more hW.size) (fun x hx => ((hP' x hx).below hW).more hW.size) hpl
    · exact sameNs_any ns ms hnl N hNN nA nA' nc nc' W ((hN.below hW).more hW.size) ((hN'.below hW).more hW.size) hkl
  clear hG hF hP hN hG' hF' hP' hN' hfe hnl hng hnf hNN hgl hfl hpl hkl hlf hln
  go_enter Tryz.func13, Tryz.ntmps13
  go_upto_region 1 with (fail)
  have b1 : Blk ((w.alloc (.cells #[.slice gA ng gc, .slice fA nf fc, .slice nA N nc] tPg)).alloc (.cells #[.slice gA' ng gc', .slice fA' nf fc', .slice nA' N nc'] tPg)) w.heap.size tPg #[.slice gA ng gc, .slice fA nf fc, .slice nA N nc] := (Blk.new w tPg _).alloc _
  have b2 := Blk.new (w.alloc (.cells #[.slice gA ng gc, .slice fA nf fc, .slice nA N nc] tPg)) tPg #[.slice gA' ng gc', .slice fA' nf fc', .slice nA' N nc']
  have e2 : (w.alloc (.cells #[.slice gA ng gc, .slice fA nf fc, .slice nA N nc] tPg)).heap.size = w.heap.size + 1 := by simp
  rw [e2] at b2
  have hb : Below w.heap.size w ((w.alloc (.cells #[.slice gA ng gc, .slice fA nf fc, .slice nA N nc] tPg)).alloc (.cells #[.slice gA' ng gc', .slice fA' nf fc', .slice nA' N nc'] tPg)) := ((Below.refl _ _).alloc (Nat.le_refl _) _).alloc (by simp) _
  clear e2
  generalize (w.alloc (.cells #[.slice gA ng gc, .slice fA nf fc, .slice nA N nc] tPg)).alloc (.cells #[.slice gA' ng gc', .slice fA' nf fc', .slice nA' N nc'] tPg) = W at *
  obtain ⟨p0, p1, p2, pl⟩ : _ ∧ _ ∧ _ ∧ _ := ⟨b1.cell 0, b1.cell 1, b1.cell 2, b1.lt⟩
  obtain ⟨q0, q1, q2, ql⟩ : _ ∧ _ ∧ _ ∧ _ := ⟨b2.cell 0, b2.cell 1, b2.cell 2, b2.lt⟩
  simp only [List.getElem?_toArray, List.getElem?_cons_zero, List.getElem?_cons_succ] at p0 p1 p2 q0 q1 q2
  have HB := Lib.hid hb
  have B1 := Lib.hid b1
  have B2 := Lib.hid b2
  clear hb b1 b2
  go_wp2_with fail
  refine (HC.out.1 W HB.out).mono ?_
  rintro e w1 ⟨rfl, d, rfl⟩
  have HB1 := Lib.hid (HB.out.trans (below_drewN w.heap.size W d))
  go_wp2_with fail
  refine (HC.out.2.1 _ HB1.out).mono ?_
  rintro e w2 ⟨rfl, hb2⟩
  have b1 : Blk w2 w.heap.size tPg #[.slice gA ng gc, .slice fA nf fc, .slice nA N nc] := (hb2.block _ B1.out.lt).trans B1.out
  have b2 : Blk w2 (w.heap.size + 1) tPg #[.slice gA' ng gc', .slice fA' nf fc', .slice nA' N nc'] := (hb2.block _ B2.out.lt).trans B2.out
  have s2 : w2.cell? ⟨w.heap.size, 2, none⟩ = some (.slice nA N nc) := b1.cell 2
  have sl := b1.lt
  have t2 : w2.cell? ⟨w.heap.size + 1, 2, none⟩ = some (.slice nA' N nc') := b2.cell 2
  have tl := b2.lt
  have HB2 := Lib.hid (HB1.out.trans (hb2.mono HB1.out.size))
  clear hb2 b1 b2
  go_wp2_with fail
  refine (HC.out.2.2 _ HB2.out).mono ?_
  rintro e w3 ⟨rfl, hb3⟩
  have HB3 := Lib.hid (HB2.out.trans (hb3.mono HB2.out.size))
  clear hb3
  go_wp2_with fail
  go_ret
  exact ⟨rfl, HB3.out⟩
end Go.Proofs.YtlbjjpfhkgagiaaGreatDoor
/-! Ptg -/
namespace Go.Proofs.YtlbjjpfhkgagiaaGreatDoor
open Go.RowKit
set_option linter.unusedVariables false
set_option linter.unusedSimpArgs false

def Hd.bare (h : Hd) : Hd := ⟨h.op, 0, h.n, h.s, h.to, h.ty⟩
def Nd.bare (n : Nd) : Nd := ⟨n.h.bare, n.kids⟩
def NV.bare (n : NV) : NV := ⟨n.h.bare, n.kids, n.v⟩
def Gl.bare (g : Gl) : Gl := ⟨g.s, g.ty, g.n, 0⟩
def Fn'.bare (f : Fn') : Fn' := ⟨f.s, f.ty, f.ps, f.b, 0⟩
def Fo.bare : Fo → Fo
  | .nil => .nil
  | .cons h k r => .cons h.bare k.bare r.bare
def Pg.bare (p : Pg) : Pg := ⟨p.g.map Gl.bare, p.f.map Fn'.bare, p.t.bare⟩
theorem Fo.size_bare (x : Fo) : x.bare.size = x.size := by
  induction x with
  | nil => rfl
  | cons h k r ih1 ih2 => simp only [Fo.bare, Fo.size, ih1, ih2]
theorem Fo.roots_bare (x : Fo) : ∀ c, x.bare.roots c = x.roots c := by
  induction x with
  | nil => intro c; rfl
  | cons h k r _ ih => intro c; simp only [Fo.bare, Fo.roots, Fo.size_bare, ih]
theorem Fo.flat_bare (x : Fo) : ∀ c, x.bare.flat c = (x.flat c).map Nd.bare := by
  induction x with
  | nil => intro c; rfl
  | cons h k r ih1 ih2 => intro c; simp only [Fo.bare, Fo.flat, Fo.size_bare, Fo.roots_bare, ih1, ih2, List.map_append, List.map_cons, Nd.bare]

/-- One cell of a row of the call's own is written over. -/
theorem own_put {w : World} {B sz n m cap g : Nat} {T : TypeId} {cs : List Value} (h : w.ownsRow B T sz (.slice (some ⟨g, 0, none⟩) m cap) n cs) {j : Nat} (hj : j < n * sz) (x : Value) :
    (w.setCell ⟨g, j, none⟩ x).ownsRow B T sz (.slice (some ⟨g, 0, none⟩) m cap) n (cs.set j x) := by
  obtain ⟨h1, h2⟩ := h
  rcases h2 with ⟨hv, _⟩ | ⟨g', cap', cur, hv, hB, hh, h3, h4, h5, h6⟩
  · cases hv
  · simp only [Value.slice.injEq, Option.some.injEq, Addr.mk.injEq, and_true] at hv
    obtain ⟨rfl, rfl, rfl⟩ := hv
    have b1 : Blk w g T cur := hh
    refine ⟨by rw [List.length_set]; exact h1, .inr ⟨g, cap, cur.setIfInBounds j x, rfl, hB, b1.set_ j x, h3, h4, by simpa using h5, ?_⟩⟩
    rw [← h6, Array.toList_setIfInBounds, List.take_set]
theorem own_cell {w : World} {B sz n m cap g : Nat} {T : TypeId} {cs : List Value} (h : w.ownsRow B T sz (.slice (some ⟨g, 0, none⟩) m cap) n cs) {j : Nat} (hj : j < n * sz) :
    w.cell? ⟨g, j, none⟩ = cs[j]? ∧ w.frozen? ⟨g, j, none⟩ = false ∧ g < w.heap.size ∧ B ≤ g := by
  rcases h.2 with ⟨hv, _⟩ | ⟨g', cap', cur, hv, hB, hh, h3, h4, h5, h6⟩
  · cases hv
  · simp only [Value.slice.injEq, Option.some.injEq, Addr.mk.injEq, and_true] at hv
    obtain ⟨rfl, rfl, rfl⟩ := hv
    refine ⟨?_, Lib.frozen_of_heap hh _, (Array.getElem?_eq_some_iff.1 hh).1, hB⟩
    rw [cell_of_row w g _ cur T (0, 0) hh, ← h6, List.getElem?_take_of_lt hj, Array.getElem?_toList]
theorem flat_set {α : Type} (f : α → List Value) (n : Nat) (hf : ∀ x, (f x).length = n) (l : List α) (i j : Nat) (x : α) (v : Value) (hj : j < n) (hx : f x = (match l[i]? with | some y => (f y).set j v | none => [])) (hi : i < l.length) :
    (l.flatMap f).set (i * n + j) v = (l.set i x).flatMap f := by
  induction l generalizing i with
  | nil => simp at hi
  | cons a l ih =>
    rw [List.flatMap_cons]
    cases i with
    | zero =>
      simp only [List.getElem?_cons_zero] at hx
      rw [Nat.zero_mul, Nat.zero_add, List.set_append_left _ _ (by rw [hf]; exact hj), List.set_cons_zero, List.flatMap_cons, hx]
    | succ i =>
      simp only [List.getElem?_cons_succ] at hx
      rw [List.set_cons_succ, List.flatMap_cons, List.set_append_right _ _ (by rw [hf, Nat.add_mul]; omega), hf, show (i + 1) * n + j - n = i * n + j by rw [Nat.add_mul]; omega, ih i hx (by simpa using hi)]
/-- The first i of a list turned. -/
def turn {α : Type} (f : α → α) (i : Nat) (l : List α) : List α := (l.take i).map f ++ l.drop i
theorem turn_len {α : Type} (f : α → α) (i : Nat) (l : List α) : (turn f i l).length = l.length := by simp [turn]; omega
theorem turn_at {α : Type} (f : α → α) (i : Nat) (l : List α) (hi : i < l.length) : (turn f i l)[i]? = some l[i] := by
  unfold turn
  rw [List.getElem?_append_right (by simp; omega)]
  simp [Nat.min_eq_left (Nat.le_of_lt hi)]
theorem turn_succ {α : Type} (f : α → α) (i : Nat) (l : List α) (hi : i < l.length) : turn f (i + 1) l = (turn f i l).set i (f l[i]) := by
  unfold turn
  have h1 : l.drop i = l[i] :: l.drop (i + 1) := List.drop_eq_getElem_cons hi
  rw [List.take_succ_eq_append_getElem hi, List.map_append, List.append_assoc, h1]
  rw [List.set_append_right _ _ (by simp; omega)]
  simp [Nat.min_eq_left (Nat.le_of_lt hi)]
  try rw [h1]; rfl
theorem turn_all {α : Type} (f : α → α) (l : List α) : turn f l.length l = l.map f := by simp [turn]

/-- A program in memory, its parts apart. -/
structure Prt (B : Nat) (w : World) (gl : List Gl) (fl : List (Fn' × Value)) (ns : List NV) (gv fv nv : Value) : Prop where
  gs : w.ownsRow B tG 4 gv gl.length (glCells gl)
  fs : w.ownsRow B tFn 6 fv fl.length (fnCells fl)
  ps : ∀ x ∈ fl, ∃ n, w.ownsRow B tP 2 x.2 n (pmCells x.1.ps)
  rows : w.ownsRow B tN 8 nv ns.length (cellsN ns)
  kids : ∀ x ∈ ns, w.ownsRow B tI 1 x.v x.kids.length (kidCells x.kids)
theorem Prt.far {B : Nat} {w : World} {gl : List Gl} {fl : List (Fn' × Value)} {ns : List NV} {gv fv nv : Value} (h : Prt B w gl fl ns gv fv nv) {j : Nat} {T : TypeId} {cs : Array Value} (hb : Blk w j T cs) (hT : T = tPg) (o : Nat) (x : Value) : Prt B (w.setCell ⟨j, o, none⟩ x) gl fl ns gv fv nv := by
  subst hT
  have key : ∀ {T' : TypeId} {sz n : Nat} {v : Value} {xs : List Value}, w.ownsRow B T' sz v n xs → T' ≠ tPg → (w.setCell ⟨j, o, none⟩ x).ownsRow B T' sz v n xs := fun {T' sz n v xs} h1 hne => row_keep h1 fun i hi => Below.heap_setCell _ _ _ _ (fun e => by
    simp only at e
    rcases h1.2 with ⟨hv, _⟩ | ⟨g, cap, cur, hv, _, hh, _⟩
    · rw [hv] at hi; cases hi
    · rw [hv] at hi
      simp [Value.ownBlock] at hi
      unfold Blk at hb
      rw [← e, ← hi, hh] at hb
      simp at hb
      exact hne hb.2)
  exact ⟨key h.gs (by decide), key h.fs (by decide), fun y hy => let ⟨n, hr⟩ := h.ps y hy; ⟨n, key hr (by decide)⟩, key h.rows (by decide), fun y hy => key (h.kids y hy) (by decide)⟩
theorem cells8_bare (x : NV) : cells8 x.bare = (cells8 x).set 1 (.int .i64 0) := rfl
theorem row_put {w : World} {B B' sz sz' n n' j o : Nat} {T T' : TypeId} {v v' u : Value} {cs cs' : List Value} (h : w.ownsRow B T sz v n cs) (h' : w.ownsRow B' T' sz' v' n' cs') (hj : v'.ownBlock = some j) (hT : T ≠ T') : (w.setCell ⟨j, o, none⟩ u).ownsRow B T sz v n cs :=
  row_keep h fun i hi => Below.heap_setCell _ _ _ _ (fun e => own_ne h h' hT hi (by simp only at e; rw [hj, e]))
theorem Prt.node {B g m cap : Nat} {w : World} {gl : List Gl} {fl : List (Fn' × Value)} {ns : List NV} {gv fv : Value} (h : Prt B w gl fl ns gv fv (.slice (some ⟨g, 0, none⟩) m cap)) {i : Nat} (hi : i < ns.length) :
    Prt B (w.setCell ⟨g, i * 8 + 1, none⟩ (.int .i64 0)) gl fl (ns.set i ns[i].bare) gv fv (.slice (some ⟨g, 0, none⟩) m cap) where
  gs := row_put h.gs h.rows rfl (by decide)
  fs := row_put h.fs h.rows rfl (by decide)
  ps := fun x hx => let ⟨n, hr⟩ := h.ps x hx; ⟨n, row_put hr h.rows rfl (by decide)⟩
  rows := by
    have h1 := own_put h.rows (j := i * 8 + 1) (by omega) (.int .i64 0)
    rw [List.length_set]
    have h2 : (cellsN ns).set (i * 8 + 1) (.int .i64 0) = cellsN (ns.set i ns[i].bare) := flat_set cells8 8 (fun _ => rfl) ns i 1 ns[i].bare (.int .i64 0) (by omega) (by rw [List.getElem?_eq_getElem hi]; exact cells8_bare _) hi
    rw [← h2]
    exact h1
  kids := fun x hx => by
    rcases List.mem_or_eq_of_mem_set hx with hx | rfl
    · exact row_put (h.kids x hx) h.rows rfl (by decide)
    · exact row_put (h.kids ns[i] (List.getElem_mem hi)) h.rows rfl (by decide)
theorem Prt.func {B g m cap : Nat} {w : World} {gl : List Gl} {fl : List (Fn' × Value)} {ns : List NV} {gv nv : Value} (h : Prt B w gl fl ns gv (.slice (some ⟨g, 0, none⟩) m cap) nv) {i : Nat} (hi : i < fl.length) :
    Prt B (w.setCell ⟨g, i * 6 + 4, none⟩ (.int .i64 0)) gl (fl.set i (fl[i].1.bare, fl[i].2)) ns gv (.slice (some ⟨g, 0, none⟩) m cap) nv where
  gs := row_put h.gs h.fs rfl (by decide)
  rows := row_put h.rows h.fs rfl (by decide)
  kids := fun x hx => row_put (h.kids x hx) h.fs rfl (by decide)
  fs := by
    have h1 := own_put h.fs (j := i * 6 + 4) (by omega) (.int .i64 0)
    rw [List.length_set]
    have h2 : (fnCells fl).set (i * 6 + 4) (.int .i64 0) = fnCells (fl.set i (fl[i].1.bare, fl[i].2)) := flat_set (fun x : Fn' × Value => (fnA x.1 x.2 x.1.b).toList) 6 (fun _ => rfl) fl i 4 (fl[i].1.bare, fl[i].2) (.int .i64 0) (by omega) (by rw [List.getElem?_eq_getElem hi]; rfl) hi
    rw [← h2]
    exact h1
  ps := fun x hx => by
    rcases List.mem_or_eq_of_mem_set hx with hx | rfl
    · obtain ⟨n, hr⟩ := h.ps x hx
      exact ⟨n, row_put hr h.fs rfl (by decide)⟩
    · obtain ⟨n, hr⟩ := h.ps fl[i] (List.getElem_mem hi)
      exact ⟨n, row_put hr h.fs rfl (by decide)⟩
theorem Prt.glob {B g m cap : Nat} {w : World} {gl : List Gl} {fl : List (Fn' × Value)} {ns : List NV} {fv nv : Value} (h : Prt B w gl fl ns (.slice (some ⟨g, 0, none⟩) m cap) fv nv) {i : Nat} (hi : i < gl.length) :
    Prt B (w.setCell ⟨g, i * 4 + 3, none⟩ (.int .i64 0)) (gl.set i gl[i].bare) fl ns (.slice (some ⟨g, 0, none⟩) m cap) fv nv where
  fs := row_put h.fs h.gs rfl (by decide)
  ps := fun x hx => let ⟨n, hr⟩ := h.ps x hx; ⟨n, row_put hr h.gs rfl (by decide)⟩
  rows := row_put h.rows h.gs rfl (by decide)
  kids := fun x hx => row_put (h.kids x hx) h.gs rfl (by decide)
  gs := by
    have h1 := own_put h.gs (j := i * 4 + 3) (by omega) (.int .i64 0)
    rw [List.length_set]
    have h2 : (glCells gl).set (i * 4 + 3) (.int .i64 0) = glCells (gl.set i gl[i].bare) := flat_set (fun g : Gl => (glA g).toList) 4 (fun _ => rfl) gl i 3 gl[i].bare (.int .i64 0) (by omega) (by rw [List.getElem?_eq_getElem hi]; rfl) hi
    rw [← h2]
    exact h1

set_option maxHeartbeats 2000000 in
set_option maxRecDepth 100000 in
/-- Bare. -/
theorem bare_any (pg : Pg) (fl : List (Fn' × Value)) (ns : List NV) (gv fv nv : Value) (w : World) (hG : GlI w w.heap.size gv pg.g) (hF : FnI w w.heap.size fv fl) (hP : ∀ x ∈ fl, PmI w w.heap.size x.2 x.1.ps) (hN : Nds w w.heap.size nv ns)
    (hfe : fl.map (·.1) = pg.f) (hnl : ns.map NV.nd = pg.t.flat 0) (hgl : pg.g.length ≤ 1400000) (hfl : fl.length ≤ 1400000) (hpl : ∀ x ∈ fl, x.1.ps.length ≤ 1400000) (hkl : ∀ x ∈ ns, x.kids.length ≤ 4000) :
    Calls Tryz.prog 15 #[.agg #[gv, fv, nv]] w fun e w' => ∃ gv' fv' nv' ml ms, e = .returned (.agg #[gv', fv', nv']) ∧ PgM w.heap.size w' pg.bare gv' fv' nv' ml ms ∧ Below w.heap.size w w' := by
  obtain ⟨gA, gc, rfl, -⟩ := id hG
  obtain ⟨fA, fc, rfl, -⟩ := id hF
  obtain ⟨nA, nc, rfl, -⟩ := id hN.sl
  have HC : Hid (∀ W, Below w.heap.size w W → Calls Tryz.prog 10 #[.agg #[.slice gA pg.g.length gc, .slice fA fl.length fc, .slice nA ns.length nc]] W fun e w' => ∃ gv' fv' nv' ml ms, e = .returned (.agg #[gv', fv', nv']) ∧ PgM w.heap.size w' pg gv' fv' nv' ml ms ∧ Below W.heap.size W w') := Lib.hid fun W hW => by
    refine (copyPr_any pg fl ns _ _ _ W ((hG.below hW).more hW.size) ((hF.below hW).more hW.size) (fun x hx => ((hP x hx).below hW).more hW.size) ((hN.below hW).more hW.size) hfe hnl hgl hfl hpl hkl).mono ?_
    rintro e w' ⟨gv', fv', nv', ml, ms, rfl, hM, hb⟩
    exact ⟨gv', fv', nv', ml, ms, rfl, hM.down hW.size, hb⟩
  have hpf : pg.f.length ≤ 1400000 := by rw [← hfe, List.length_map]; exact hfl
  have HL := Lib.hid (And.intro hgl hpf)
  obtain ⟨ng0, hng0⟩ : ∃ n, pg.g.length = n := ⟨_, rfl⟩
  obtain ⟨nf0, hnf0⟩ : ∃ n, fl.length = n := ⟨_, rfl⟩
  obtain ⟨N0, hN0⟩ : ∃ n, ns.length = n := ⟨_, rfl⟩
  rw [hng0, hnf0, hN0] at HC
  rw [hng0, hnf0, hN0]
  clear hG hF hP hN hfe hnl hgl hfl hpl hkl hpf hng0 hnf0 hN0
  go_enter Tryz.func15, Tryz.ntmps15
  go_upto_region 1 with (fail)
  have b1 : Blk ((w.alloc (.cells #[.slice gA ng0 gc, .slice fA nf0 fc, .slice nA N0 nc] tPg)).alloc (.cells #[vNil, vNil, vNil] tPg)) w.heap.size tPg #[.slice gA ng0 gc, .slice fA nf0 fc, .slice nA N0 nc] := (Blk.new w tPg _).alloc _
  have b2 := Blk.new (w.alloc (.cells #[.slice gA ng0 gc, .slice fA nf0 fc, .slice nA N0 nc] tPg)) tPg #[vNil, vNil, vNil]
  have e2 : (w.alloc (.cells #[.slice gA ng0 gc, .slice fA nf0 fc, .slice nA N0 nc] tPg)).heap.size = w.heap.size + 1 := by simp
  rw [e2] at b2
  have hb : Below w.heap.size w ((w.alloc (.cells #[.slice gA ng0 gc, .slice fA nf0 fc, .slice nA N0 nc] tPg)).alloc (.cells #[vNil, vNil, vNil] tPg)) := ((Below.refl _ _).alloc (Nat.le_refl _) _).alloc (by simp) _
  clear e2
  generalize (w.alloc (.cells #[.slice gA ng0 gc, .slice fA nf0 fc, .slice nA N0 nc] tPg)).alloc (.cells #[vNil, vNil, vNil] tPg) = W1 at *
  obtain ⟨p0, p1, p2, pl⟩ : _ ∧ _ ∧ _ ∧ _ := ⟨b1.cell 0, b1.cell 1, b1.cell 2, b1.lt⟩
  simp only [List.getElem?_toArray, List.getElem?_cons_zero, List.getElem?_cons_succ] at p0 p1 p2
  have HB := Lib.hid hb
  have B1 := Lib.hid b1
  have B2 := Lib.hid b2
  clear hb b1 b2
  go_wp2_with fail
  refine (HC.out W1 HB.out).mono ?_
  clear HC
  rintro e w2 ⟨gv', fv', nv', ml, ms, rfl, hM, hb2⟩
  obtain ⟨xg, cg, rfl⟩ := shape_row hM.gs
  obtain ⟨xf, cf, rfl⟩ := shape_row hM.fs
  obtain ⟨xn, cn, rfl⟩ := shape_row hM.rows
  have hg4 : pg.g.length ≤ 1400000 := HL.out.1
  have hf4 : ml.length ≤ 1400000 := by have h1 := congrArg List.length hM.fe; rw [List.length_map] at h1; have := HL.out.2; omega
  have hN4 : ms.length ≤ 4000 := hM.nm
  have b1 : Blk w2 w.heap.size tPg #[.slice gA ng0 gc, .slice fA nf0 fc, .slice nA N0 nc] := (hb2.block _ B1.out.lt).trans B1.out
  have b2 : Blk w2 (w.heap.size + 1) tPg #[vNil, vNil, vNil] := (hb2.block _ B2.out.lt).trans B2.out
  obtain ⟨ng, hng⟩ : ∃ n, pg.g.length = n := ⟨_, rfl⟩
  obtain ⟨nf, hnf⟩ : ∃ n, ml.length = n := ⟨_, rfl⟩
  obtain ⟨N, hNN⟩ : ∃ n, ms.length = n := ⟨_, rfl⟩
  have hp0 : Prt w.heap.size w2 pg.g ml ms (.slice xg pg.g.length cg) (.slice xf ml.length cf) (.slice xn ms.length cn) := ⟨hM.gs, hM.fs, hM.ps, hM.rows, hM.kids⟩
  have hMf := hM.fe
  have hMn := hM.nl
  rw [hng, hnf, hNN] at hp0 ⊢
  rw [hng] at hg4
  rw [hnf] at hf4
  rw [hNN] at hN4
  have r1 : Blk (((w2.setCell ⟨w.heap.size, 0, none⟩ (.slice xg ng cg)).setCell ⟨w.heap.size, 1, none⟩ (.slice xf nf cf)).setCell ⟨w.heap.size, 2, none⟩ (.slice xn N cn)) w.heap.size tPg #[.slice xg ng cg, .slice xf nf cf, .slice xn N cn] := ((b1.set_ 0 _).set_ 1 _).set_ 2 _
  have r2 : Blk (((w2.setCell ⟨w.heap.size, 0, none⟩ (.slice xg ng cg)).setCell ⟨w.heap.size, 1, none⟩ (.slice xf nf cf)).setCell ⟨w.heap.size, 2, none⟩ (.slice xn N cn)) (w.heap.size + 1) tPg #[vNil, vNil, vNil] := ((b2.far (p := ⟨w.heap.size, 0, none⟩) (by simp) _).far (p := ⟨w.heap.size, 1, none⟩) (by simp) _).far (p := ⟨w.heap.size, 2, none⟩) (by simp) _
  have r3 : Prt w.heap.size (((w2.setCell ⟨w.heap.size, 0, none⟩ (.slice xg ng cg)).setCell ⟨w.heap.size, 1, none⟩ (.slice xf nf cf)).setCell ⟨w.heap.size, 2, none⟩ (.slice xn N cn)) pg.g ml ms (.slice xg ng cg) (.slice xf nf cf) (.slice xn N cn) := ((hp0.far b1 rfl 0 _).far (b1.set_ 0 _) rfl 1 _).far ((b1.set_ 0 _).set_ 1 _) rfl 2 _
  have r4 : Below w.heap.size w (((w2.setCell ⟨w.heap.size, 0, none⟩ (.slice xg ng cg)).setCell ⟨w.heap.size, 1, none⟩ (.slice xf nf cf)).setCell ⟨w.heap.size, 2, none⟩ (.slice xn N cn)) := (((HB.out.trans (hb2.mono HB.out.size)).setCell (p := ⟨w.heap.size, 0, none⟩) (by simp) _).setCell (p := ⟨w.heap.size, 1, none⟩) (by simp) _).setCell (p := ⟨w.heap.size, 2, none⟩) (by simp) _
  have c0 : w2.cell? ⟨w.heap.size, 0, none⟩ = some (.slice gA ng0 gc) := b1.cell 0
  have c1 : w2.cell? ⟨w.heap.size, 1, none⟩ = some (.slice fA nf0 fc) := b1.cell 1
  have c2 : w2.cell? ⟨w.heap.size, 2, none⟩ = some (.slice nA N0 nc) := b1.cell 2
  have f0 := b1.frozen 0
  have f1 := b1.frozen 1
  have f2 := b1.frozen 2
  have cl := b1.lt
  clear b1 b2 hb2 hM hp0 p0 p1 p2 pl
  go_upto_region 2 with (fail)
  generalize ((w2.setCell ⟨w.heap.size, 0, none⟩ (.slice xg ng cg)).setCell ⟨w.heap.size, 1, none⟩ (.slice xf nf cf)).setCell ⟨w.heap.size, 2, none⟩ (.slice xn N cn) = W3 at *
  have HST := Lib.hid (And.intro r1 (And.intro r2 (And.intro r3 r4)))
  obtain ⟨p0, p1, p2, pl⟩ : _ ∧ _ ∧ _ ∧ _ := ⟨r1.cell 0, r1.cell 1, r1.cell 2, r1.lt⟩
  simp only [List.getElem?_toArray, List.getElem?_cons_zero, List.getElem?_cons_succ] at p0 p1 p2
  have HME := Lib.hid (And.intro hMf (And.intro hMn (And.intro hng (And.intro hnf hNN))))
  clear r1 r2 r3 r4 c0 c1 c2 f0 f1 f2 cl hMf hMn hng hnf hNN B1 B2
  go_wp2_with fail
  clear p0 p1 p2 pl
  go_loopw [3] (fun v wr => ∃ i : Nat, i ≤ N ∧ v = .int .i64 i ∧ Blk wr w.heap.size tPg #[.slice xg ng cg, .slice xf nf cf, .slice xn N cn] ∧ Blk wr (w.heap.size + 1) tPg #[vNil, vNil, vNil] ∧ Prt w.heap.size wr pg.g ml (turn NV.bare i ms) (.slice xg ng cg) (.slice xf nf cf) (.slice xn N cn) ∧ Below w.heap.size w wr) (fun v _ => N - (intOf v).toNat)
  case atStart => exact ⟨0, by omega, rfl, HST.out.1, HST.out.2.1, by simpa [turn] using HST.out.2.2.1, HST.out.2.2.2⟩
  case round =>
    obtain ⟨i, hi, rfl, h1, h2, h3, h4⟩ := hrel
    have HS := Lib.hid (And.intro h1 (And.intro h2 (And.intro h3 h4)))
    obtain ⟨p0, p1, p2, pl⟩ : _ ∧ _ ∧ _ ∧ _ := ⟨h1.cell 0, h1.cell 1, h1.cell 2, h1.lt⟩
    simp only [List.getElem?_toArray, List.getElem?_cons_zero, List.getElem?_cons_succ] at p0 p1 p2
    clear h1 h2 h3 h4
    by_cases hlt : i < N
    · have him : i < ms.length := by rw [HME.out.2.2.2.2]; exact hlt
      have hit : i < (turn NV.bare i ms).length := by rw [turn_len]; exact him
      obtain ⟨g, rfl⟩ : ∃ g, xn = some ⟨g, 0, none⟩ := by
        rcases HS.out.2.2.1.rows.2 with ⟨hv, h0⟩ | ⟨g, cap, cur, hv, _⟩
        · rw [turn_len] at h0; omega
        · simp only [Value.slice.injEq] at hv; exact ⟨g, hv.1⟩
      have hrow := HS.out.2.2.1.rows
      rw [turn_len, HME.out.2.2.2.2] at hrow
      obtain ⟨q0, q1, q2, q3⟩ := own_cell hrow (j := i * 8 + 1) (by omega)
      have q0' : wr.cell? ⟨g, i * 8 + 1, none⟩ = some (.int .i64 ms[i].h.p) := by
        rw [q0, cellsN_at _ _ _ (by omega), turn_at _ _ _ him]
        rfl
      have hnew := HS.out.2.2.1.node hit
      have hte : (turn NV.bare i ms)[i] = ms[i] := by have := turn_at NV.bare i ms him; rw [List.getElem?_eq_getElem hit] at this; exact Option.some.inj this
      rw [hte, ← turn_succ _ _ _ him] at hnew
      have n1 := HS.out.1.far (p := ⟨g, i * 8 + 1, none⟩) (fun e => by
        have h9 := own_ne hrow (T' := tPg) (B' := 0) (sz' := 3) (n' := 1) (v' := .slice (some ⟨w.heap.size, 0, none⟩) 1 1) ⟨rfl, .inr ⟨w.heap.size, 1, _, rfl, Nat.zero_le _, HS.out.1, by omega, by unfold maxLen; omega, rfl, rfl⟩⟩ (by decide) (i := g) rfl
        exact h9 (by simp only at e; simp [Value.ownBlock, e])) (.int .i64 0)
      have n2 := HS.out.2.1.far (p := ⟨g, i * 8 + 1, none⟩) (fun e => by
        have h9 := own_ne hrow (T' := tPg) (B' := 0) (sz' := 3) (n' := 1) (v' := .slice (some ⟨w.heap.size + 1, 0, none⟩) 1 1) ⟨rfl, .inr ⟨w.heap.size + 1, 1, _, rfl, Nat.zero_le _, HS.out.2.1, by omega, by unfold maxLen; omega, rfl, rfl⟩⟩ (by decide) (i := g) rfl
        exact h9 (by simp only at e; simp [Value.ownBlock, e])) (.int .i64 0)
      have HN := Lib.hid (And.intro n1 (And.intro n2 (And.intro hnew (HS.out.2.2.2.setCell (p := ⟨g, i * 8 + 1, none⟩) q3 (.int .i64 0)))))
      obtain ⟨pp, hpp⟩ : ∃ pp, ms[i].h.p = pp := ⟨_, rfl⟩
      rw [hpp] at q0'
      clear hpp hrow q0 hnew hte n1 n2 q3 him hit
      go_wp2_with fail
      go_roundw
      case rel => exact ⟨i + 1, by omega, by go_num, HN.out.1, HN.out.2.1, HN.out.2.2.1, HN.out.2.2.2⟩
      case measure => simp [intOf]; omega
    · obtain rfl : i = N := by omega
      have HS1 := Lib.hid HS.out
      clear HS HST
      go_wp2_with fail
      clear p0 p1 p2 pl
      generalize wr = wo at *
      go_loopw [4] (fun v wx => ∃ j : Nat, j ≤ nf ∧ v = .int .i64 j ∧ Blk wx w.heap.size tPg #[.slice xg ng cg, .slice xf nf cf, .slice xn i cn] ∧ Blk wx (w.heap.size + 1) tPg #[vNil, vNil, vNil] ∧ Prt w.heap.size wx pg.g (turn (fun x => (x.1.bare, x.2)) j ml) (turn NV.bare i ms) (.slice xg ng cg) (.slice xf nf cf) (.slice xn i cn) ∧ Below w.heap.size w wx) (fun v _ => nf - (intOf v).toNat)
      case atStart => exact ⟨0, by omega, rfl, HS1.out.1, HS1.out.2.1, by simpa [turn] using HS1.out.2.2.1, HS1.out.2.2.2⟩
      case round =>
        obtain ⟨j, hj, rfl, h1, h2, h3, h4⟩ := hrel
        have HS := Lib.hid (And.intro h1 (And.intro h2 (And.intro h3 h4)))
        obtain ⟨p0, p1, p2, pl⟩ : _ ∧ _ ∧ _ ∧ _ := ⟨h1.cell 0, h1.cell 1, h1.cell 2, h1.lt⟩
        simp only [List.getElem?_toArray, List.getElem?_cons_zero, List.getElem?_cons_succ] at p0 p1 p2
        clear h1 h2 h3 h4
        by_cases hlj : j < nf
        · have him : j < ml.length := by rw [HME.out.2.2.2.1]; exact hlj
          have hit : j < (turn (fun x : Fn' × Value => (x.1.bare, x.2)) j ml).length := by rw [turn_len]; exact him
          obtain ⟨g, rfl⟩ : ∃ g, xf = some ⟨g, 0, none⟩ := by
            rcases HS.out.2.2.1.fs.2 with ⟨hv, h0⟩ | ⟨g, cap, cur, hv, _⟩
            · rw [turn_len] at h0; omega
            · simp only [Value.slice.injEq] at hv; exact ⟨g, hv.1⟩
          have hrow := HS.out.2.2.1.fs
          rw [turn_len, HME.out.2.2.2.1] at hrow
          obtain ⟨q0, q1, q2, q3⟩ := own_cell hrow (j := j * 6 + 4) (by omega)
          have q0' : wr.cell? ⟨g, j * 6 + 4, none⟩ = some (.int .i64 ml[j].1.p) := by
            rw [q0, show fnCells (turn (fun x : Fn' × Value => (x.1.bare, x.2)) j ml) = (turn (fun x : Fn' × Value => (x.1.bare, x.2)) j ml).flatMap (fun x => (fnA x.1 x.2 x.1.b).toList) from rfl, flat_at _ 6 (fun _ => rfl) _ _ _ (by omega), turn_at _ _ _ him]
            rfl
          have hnew := HS.out.2.2.1.func hit
          have hte : (turn (fun x : Fn' × Value => (x.1.bare, x.2)) j ml)[j] = ml[j] := by have := turn_at (fun x : Fn' × Value => (x.1.bare, x.2)) j ml him; rw [List.getElem?_eq_getElem hit] at this; exact Option.some.inj this
          rw [hte, ← turn_succ (fun x : Fn' × Value => (x.1.bare, x.2)) _ _ him] at hnew
          have n1 := HS.out.1.far (p := ⟨g, j * 6 + 4, none⟩) (fun e => by
            have h9 := own_ne hrow (T' := tPg) (B' := 0) (sz' := 3) (n' := 1) (v' := .slice (some ⟨w.heap.size, 0, none⟩) 1 1) ⟨rfl, .inr ⟨w.heap.size, 1, _, rfl, Nat.zero_le _, HS.out.1, by omega, by unfold maxLen; omega, rfl, rfl⟩⟩ (by decide) (i := g) rfl
            exact h9 (by simp only at e; simp [Value.ownBlock, e])) (.int .i64 0)
          have n2 := HS.out.2.1.far (p := ⟨g, j * 6 + 4, none⟩) (fun e => by
            have h9 := own_ne hrow (T' := tPg) (B' := 0) (sz' := 3) (n' := 1) (v' := .slice (some ⟨w.heap.size + 1, 0, none⟩) 1 1) ⟨rfl, .inr ⟨w.heap.size + 1, 1, _, rfl, Nat.zero_le _, HS.out.2.1, by omega, by unfold maxLen; omega, rfl, rfl⟩⟩ (by decide) (i := g) rfl
            exact h9 (by simp only at e; simp [Value.ownBlock, e])) (.int .i64 0)
          have HN := Lib.hid (And.intro n1 (And.intro n2 (And.intro hnew (HS.out.2.2.2.setCell (p := ⟨g, j * 6 + 4, none⟩) q3 (.int .i64 0)))))
          obtain ⟨pp, hpp⟩ : ∃ pp, ml[j].1.p = pp := ⟨_, rfl⟩
          rw [hpp] at q0'
          clear hpp hrow q0 hnew hte n1 n2 q3 him hit
          go_wp2_with fail
          go_roundw
          case rel => exact ⟨j + 1, by omega, by go_num, HN.out.1, HN.out.2.1, HN.out.2.2.1, HN.out.2.2.2⟩
          case measure => simp [intOf]; omega
        · obtain rfl : j = nf := by omega
          have HS2 := Lib.hid HS.out
          clear HS HS1
          go_wp2_with fail
          clear p0 p1 p2 pl
          generalize wr = wq at *
          go_loopw [5] (fun v wx => ∃ k : Nat, k ≤ ng ∧ v = .int .i64 k ∧ Blk wx w.heap.size tPg #[.slice xg ng cg, .slice xf j cf, .slice xn i cn] ∧ Blk wx (w.heap.size + 1) tPg #[vNil, vNil, vNil] ∧ Prt w.heap.size wx (turn Gl.bare k pg.g) (turn (fun x => (x.1.bare, x.2)) j ml) (turn NV.bare i ms) (.slice xg ng cg) (.slice xf j cf) (.slice xn i cn) ∧ Below w.heap.size w wx) (fun v _ => ng - (intOf v).toNat)
          case atStart => exact ⟨0, by omega, rfl, HS2.out.1, HS2.out.2.1, by simpa [turn] using HS2.out.2.2.1, HS2.out.2.2.2⟩
          case round =>
            obtain ⟨k, hk, rfl, h1, h2, h3, h4⟩ := hrel
            have HS := Lib.hid (And.intro h1 (And.intro h2 (And.intro h3 h4)))
            obtain ⟨p0, p1, p2, pl⟩ : _ ∧ _ ∧ _ ∧ _ := ⟨h1.cell 0, h1.cell 1, h1.cell 2, h1.lt⟩
            simp only [List.getElem?_toArray, List.getElem?_cons_zero, List.getElem?_cons_succ] at p0 p1 p2
            by_cases hlk : k < ng
            · clear h1 h2 h3 h4
              have him : k < pg.g.length := by rw [HME.out.2.2.1]; exact hlk
              have hit : k < (turn Gl.bare k pg.g).length := by rw [turn_len]; exact him
              obtain ⟨g, rfl⟩ : ∃ g, xg = some ⟨g, 0, none⟩ := by
                rcases HS.out.2.2.1.gs.2 with ⟨hv, h0⟩ | ⟨g, cap, cur, hv, _⟩
                · rw [turn_len] at h0; omega
                · simp only [Value.slice.injEq] at hv; exact ⟨g, hv.1⟩
              have hrow := HS.out.2.2.1.gs
              rw [turn_len, HME.out.2.2.1] at hrow
              obtain ⟨q0, q1, q2, q3⟩ := own_cell hrow (j := k * 4 + 3) (by omega)
              have q0' : wr.cell? ⟨g, k * 4 + 3, none⟩ = some (.int .i64 pg.g[k].p) := by
                rw [q0, show glCells (turn Gl.bare k pg.g) = (turn Gl.bare k pg.g).flatMap (fun g => (glA g).toList) from rfl, flat_at _ 4 (fun _ => rfl) _ _ _ (by omega), turn_at _ _ _ him]
                rfl
              have hnew := HS.out.2.2.1.glob hit
              have hte : (turn Gl.bare k pg.g)[k] = pg.g[k] := by have := turn_at Gl.bare k pg.g him; rw [List.getElem?_eq_getElem hit] at this; exact Option.some.inj this
              rw [hte, ← turn_succ _ _ _ him] at hnew
              have n1 := HS.out.1.far (p := ⟨g, k * 4 + 3, none⟩) (fun e => by
                have h9 := own_ne hrow (T' := tPg) (B' := 0) (sz' := 3) (n' := 1) (v' := .slice (some ⟨w.heap.size, 0, none⟩) 1 1) ⟨rfl, .inr ⟨w.heap.size, 1, _, rfl, Nat.zero_le _, HS.out.1, by omega, by unfold maxLen; omega, rfl, rfl⟩⟩ (by decide) (i := g) rfl
                exact h9 (by simp only at e; simp [Value.ownBlock, e])) (.int .i64 0)
              have n2 := HS.out.2.1.far (p := ⟨g, k * 4 + 3, none⟩) (fun e => by
                have h9 := own_ne hrow (T' := tPg) (B' := 0) (sz' := 3) (n' := 1) (v' := .slice (some ⟨w.heap.size + 1, 0, none⟩) 1 1) ⟨rfl, .inr ⟨w.heap.size + 1, 1, _, rfl, Nat.zero_le _, HS.out.2.1, by omega, by unfold maxLen; omega, rfl, rfl⟩⟩ (by decide) (i := g) rfl
                exact h9 (by simp only at e; simp [Value.ownBlock, e])) (.int .i64 0)
              have HN := Lib.hid (And.intro n1 (And.intro n2 (And.intro hnew (HS.out.2.2.2.setCell (p := ⟨g, k * 4 + 3, none⟩) q3 (.int .i64 0)))))
              obtain ⟨pp, hpp⟩ : ∃ pp, pg.g[k].p = pp := ⟨_, rfl⟩
              rw [hpp] at q0'
              clear hpp hrow q0 hnew hte n1 n2 q3 him hit
              go_wp2_with fail
              go_roundw
              case rel => exact ⟨k + 1, by omega, by go_num, HN.out.1, HN.out.2.1, HN.out.2.2.1, HN.out.2.2.2⟩
              case measure => simp [intOf]; omega
            · obtain rfl : k = ng := by omega
              have hset : ∀ {B n sz : Nat} {T : TypeId} {v : Value} {cs : List Value} (c' : Array Value), wr.ownsRow B T sz v n cs → T ≠ tPg → (wr.setRow (w.heap.size + 1) c').ownsRow B T sz v n cs := fun {B n sz T v cs} c' h hT => row_keep h fun i hi => setRow_other wr (w.heap.size + 1) i c' (fun e => by
                have h9 := own_ne h (T' := tPg) (B' := 0) (sz' := 3) (n' := 1) (v' := .slice (some ⟨w.heap.size + 1, 0, none⟩) 1 1) ⟨rfl, .inr ⟨w.heap.size + 1, 1, _, rfl, Nat.zero_le _, h2, by omega, by unfold maxLen; omega, rfl, rfl⟩⟩ hT hi
                exact h9 (by simp [Value.ownBlock, e]))
              have e1 : turn Gl.bare k pg.g = pg.bare.g := by rw [← HME.out.2.2.1, turn_all]; rfl
              have e2 : turn (fun x : Fn' × Value => (x.1.bare, x.2)) j ml = ml.map fun x => (x.1.bare, x.2) := by rw [← HME.out.2.2.2.1, turn_all]
              have e3 : turn NV.bare i ms = ms.map NV.bare := by rw [← HME.out.2.2.2.2, turn_all]
              rw [e1, e2, e3] at h3
              have hg5 : pg.bare.g.length = k := by rw [← HME.out.2.2.1]; simp [Pg.bare]
              have hf5 : (ml.map fun x : Fn' × Value => (x.1.bare, x.2)).length = j := by rw [List.length_map]; exact HME.out.2.2.2.1
              have hn5 : (ms.map NV.bare).length = i := by rw [List.length_map]; exact HME.out.2.2.2.2
              have hend : PgM w.heap.size (wr.setRow (w.heap.size + 1) #[.slice xg k cg, .slice xf j cf, .slice xn i cn]) pg.bare (.slice xg k cg) (.slice xf j cf) (.slice xn i cn) (ml.map fun x => (x.1.bare, x.2)) (ms.map NV.bare) :=
                { gs := hset _ h3.gs (by decide)
                  fs := hset _ h3.fs (by decide)
                  fe := by
                    have := congrArg (List.map Fn'.bare) HME.out.1
                    simp only [List.map_map] at this ⊢
                    exact this
                  ps := fun x hx => let ⟨n, hr⟩ := h3.ps x hx; ⟨n, hset _ hr (by decide)⟩
                  nl := by
                    show _ = pg.t.bare.flat 0
                    rw [Fo.flat_bare, ← HME.out.2.1, List.map_map, List.map_map]
                    rfl
                  nm := by rw [hn5]; exact hN4
                  rows := hset _ h3.rows (by decide)
                  kids := fun x hx => hset _ (h3.kids x hx) (by decide) }
              have hrh := setRow_heap wr (w.heap.size + 1) _ #[.slice xg k cg, .slice xf j cf, .slice xn i cn] tPg (0, 0) h2
              have HEN := Lib.hid (And.intro hrh (And.intro hend (h4.trans (below_setRow (B := w.heap.size) wr (w.heap.size + 1) #[.slice xg k cg, .slice xf j cf, .slice xn i cn] (by omega)))))
              clear hset e1 e2 e3 h3 h4 hend hrh hg5 hf5 hn5
              go_upto_region 14 with (fail)
              refine wp_region_list ?_
              refine wpList_load_row rfl tPg _ rfl w.heap.size rfl tPg _ (0, 0) _ h1 Tryz.underlying33 rfl pgInfo ?_
              refine wpList_store_row rfl tPg _ _ rfl (w.heap.size + 1) _ rfl rfl tPg #[vNil, vNil, vNil] h2 pgInfo rfl (by simp [Value.oneCell']) ?_
              refine wpList_nil ?_
              go_wp2_with fail
              refine bodyPost_ret (results_cell_row rfl _ _ (w.heap.size + 1) tPg _ (0, 0) _ rfl HEN.out.1 Tryz.underlying33 rfl pgInfo) rfl ?_
              exact ⟨_, _, _, _, _, rfl, HEN.out.2.1, HEN.out.2.2⟩
end Go.Proofs.YtlbjjpfhkgagiaaGreatDoor
