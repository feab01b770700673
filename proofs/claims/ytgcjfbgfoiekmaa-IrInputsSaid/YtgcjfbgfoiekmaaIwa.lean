/-
  Layer ir: what a run's deferred function does.
-/
import Derived.Test.YtgcjfbgfoiekmaaIvz
import Derived.Defers
import Derived.Recover
namespace Go.Proofs.Ytgcjfbgfoiekmaa
open Go Go.RowKit Go.Maps
set_option linter.unusedVariables false
set_option linter.unusedSimpArgs false

abbrev tRn : TypeId := 35
abbrev tMp : TypeId := 63
theorem as_end (a b : Int) (w : World) : (Instr.typeAssert (.iface tEg (.agg #[.int .i64 a, .int .i64 b])) 20 tEg true).run Try.prog w = .ok (.tuple #[.agg #[.int .i64 a, .int .i64 b], .bool true]) w := by kernel_rfl
theorem as_nil (w : World) : (Instr.typeAssert .nilIface 20 tEg true).run Try.prog w = .ok (.tuple #[.agg #[.int .i64 0, .int .i64 0], .bool false]) w := by kernel_rfl
theorem drew_heap (w : World) : w.drew.heap = w.heap := rfl
def set3 (w : World) (q : Nat) (x y z : Value) : World := ((w.setCell ⟨q, 0, none⟩ x).setCell ⟨q, 1, none⟩ y).setCell ⟨q, 2, none⟩ z
set_option maxHeartbeats 2000000 in
theorem catch_end (mb xb qb : Nat) (oA : Option Addr) (on oc : Nat) (a b : Int) (w : World) (hm : Blk w mb tMp #[.pointer (some ⟨xb, 0, none⟩)]) (hx : w.cell? ⟨xb, 2, none⟩ = some (.slice oA on oc)) (hq : Blk w qb tRn #[.slice none 0 0, .int .i64 0, .int .i64 0]) :
    CallsD Try.prog 22 #[.pointer (some ⟨mb, 0, none⟩), .pointer (some ⟨qb, 0, none⟩)] (.panicking [{ v := .iface tEg (egV a b), recovered := false }]) w fun e u' w' =>
      e = .returned (.tuple #[]) ∧ u' = .panicking [{ v := .iface tEg (egV a b), recovered := true }] ∧ Blk w' qb tRn #[.slice oA on oc, .int .i64 a, .int .i64 b] ∧ w.heap.size ≤ w'.heap.size ∧ w'.os = w.os ∧ w'.tape = w.tape ∧ w'.output = w.output ∧ ∀ i, i < w.heap.size → i ≠ qb → w'.heap[i]? = w.heap[i]? := by
  have hf := as_end a b
  have HB := Lib.hid (And.intro hm (And.intro hx hq))
  have hfv : egV a b = .agg #[.int .i64 a, .int .i64 b] := rfl
  rw [hfv]
  have hxl := World.block_lt_of_cell? w _ hx
  simp only at hxl
  clear hm hx hq hfv
  refine callsD_of_wpS Try.func22 rfl fun c₀ cs hu => ?_
  apply wpS_seq
  apply wpS_region
  simp [wpOpsS, go_sem, recoverD, hu, Try.ntmps22, Exit.thenS, hf]
  apply wpS_seq
  apply wpS_region
  simp [wpOpsS, go_sem, Exit.thenS]
  refine wpS_cond (t := true) (by simp [Act.eval]) ?_
  simp only [if_true]
  have hmW : Blk (w.alloc (.cells #[.int .i64 a, .int .i64 b] tEg)) mb tMp #[.pointer (some ⟨xb, 0, none⟩)] := HB.out.1.alloc _
  have hqW : Blk (w.alloc (.cells #[.int .i64 a, .int .i64 b] tEg)) qb tRn #[.slice none 0 0, .int .i64 0, .int .i64 0] := HB.out.2.2.alloc _
  have hb1 : Below w.heap.size w (w.alloc (.cells #[.int .i64 a, .int .i64 b] tEg)) := (Below.refl _ _).alloc (Nat.le_refl _) _
  have hxW : (w.alloc (.cells #[.int .i64 a, .int .i64 b] tEg)).cell? ⟨xb, 2, none⟩ = some (.slice oA on oc) := (hb1.cell (p := ⟨xb, 2, none⟩) hxl).trans HB.out.2.1
  have hnB : Blk (w.alloc (.cells #[.int .i64 a, .int .i64 b] tEg)) w.heap.size tEg #[.int .i64 a, .int .i64 b] := Blk.new w tEg _
  have hs1 := hb1.size
  generalize w.alloc (.cells #[.int .i64 a, .int .i64 b] tEg) = W at *
  have m0 : W.cell? ⟨mb, 0, none⟩ = some (.pointer (some ⟨xb, 0, none⟩)) := hmW.cell 0
  have ml := hmW.lt
  have n0 : W.cell? ⟨w.heap.size, 0, none⟩ = some (.int .i64 a) := hnB.cell 0
  have n1 : W.cell? ⟨w.heap.size, 1, none⟩ = some (.int .i64 b) := hnB.cell 1
  have nl := hnB.lt
  have q0 : W.cell? ⟨qb, 0, none⟩ = some (.slice none 0 0) := hqW.cell 0
  have q1 : W.cell? ⟨qb, 1, none⟩ = some (.int .i64 0) := hqW.cell 1
  have q2 : W.cell? ⟨qb, 2, none⟩ = some (.int .i64 0) := hqW.cell 2
  have f0 := hqW.frozen 0
  have f1 := hqW.frozen 1
  have f2 := hqW.frozen 2
  have ql := hqW.lt
  have hxl' : xb < W.heap.size := by omega
  have hq3 : Blk (set3 W qb (.slice oA on oc) (.int .i64 a) (.int .i64 b)) qb tRn #[.slice oA on oc, .int .i64 a, .int .i64 b] := ((hqW.set_ 0 _).set_ 1 _).set_ 2 _
  have hoth : ∀ i, i < w.heap.size → i ≠ qb → (((W.setCell ⟨qb, 0, none⟩ (.slice oA on oc)).setCell ⟨qb, 1, none⟩ (.int .i64 a)).setCell ⟨qb, 2, none⟩ (.int .i64 b)).heap[i]? = w.heap[i]? := by
    intro i hi hne
    rw [Below.heap_setCell _ _ _ i hne, Below.heap_setCell _ _ _ i hne, Below.heap_setCell _ _ _ i hne]
    exact hb1.block i hi
  have HQ := Lib.hid (And.intro hq3 (And.intro hb1 (And.intro hs1 hoth)))
  clear hq3 hmW hqW hnB hb1 hs1 hxl hoth
  refine wpS_of_wp ?_
  go_region
  all_goals
    have hE := HQ.out
    cases c₀
    simp [bodyPostS, results, Try.results22]
    refine ⟨HQ.out.1, HQ.out.2.2.1, HQ.out.2.1.os, HQ.out.2.1.tape, HQ.out.2.1.output, fun i hi hne => ?_⟩
    rw [drew_heap]
    exact HQ.out.2.2.2 i hi hne
set_option maxHeartbeats 400000 in
theorem catch_nil (mb qb : Nat) (w : World) :
    CallsD Try.prog 22 #[.pointer (some ⟨mb, 0, none⟩), .pointer (some ⟨qb, 0, none⟩)] .returning w fun e u' w' => e = .returned (.tuple #[]) ∧ u' = .returning ∧ w' = w.alloc (.cells #[.int .i64 0, .int .i64 0] tEg) := by
  have hf := as_nil
  refine callsD_of_wpS Try.func22 rfl fun c₀ cs hu => ?_
  apply wpS_seq
  apply wpS_region
  simp [wpOpsS, go_sem, recoverD, hu, Try.ntmps22, Exit.thenS, hf]
  apply wpS_seq
  apply wpS_region
  simp [wpOpsS, go_sem, Exit.thenS]
  refine wpS_cond (t := false) (by simp [Act.eval]) ?_
  simp only [Bool.false_eq_true, if_false]
  refine wpS_of_wp ?_
  cases c₀
  simp only at hu
  subst hu
  refine wp_skip ?_
  simp [bodyPostS, results, Try.results22]
end Go.Proofs.Ytgcjfbgfoiekmaa
