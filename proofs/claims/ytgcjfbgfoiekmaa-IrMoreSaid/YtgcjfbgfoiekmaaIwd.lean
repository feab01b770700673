/-
  The kit's small functions over lists of numbers: Cut, SameInts, SameRun, CopyInts.
-/
import Derived.Test.YtgcjfbgfoiekmaaIwc
import Derived.Test.YtgcjfbgfoiekmaaIo3
import Derived.Deep.AppendLies
import Derived.RangeFuncBox
namespace Go.Proofs.Ytgcjfbgfoiekmaa
open Go Go.RowKit Go.Maps
set_option linter.unusedVariables false
set_option linter.unusedSimpArgs false

theorem cut_any (v a b : Int) (w : World) : Calls Try.prog 9 #[.int .i64 v, .int .i64 a, .int .i64 b] w fun e w' => e = .returned (.int .i64 (max a (min v b))) ∧ Below w.heap.size w w' := by
  go_enter Try.func9, Try.ntmps9
  go_wp2
  all_goals go_ret
  all_goals refine ⟨?_, Below.refl _ _⟩
  all_goals first | rfl | (congr 2; omega) | (simp; omega)

theorem boxes (w : World) (a b : Array Value) (t t' : TypeId) : Below w.heap.size w ((w.alloc (.cells a t)).alloc (.cells b t')) := ((Below.refl _ _).alloc (Nat.le_refl _) _).alloc (by simp) _

set_option maxHeartbeats 2000000 in
set_option maxRecDepth 100000 in
theorem sameR_any (r : Ran) (va vb : Value) (B B' : Nat) (w : World) (hB : B ≤ w.heap.size) (hB' : B' ≤ w.heap.size) (h1 : RdV w B va r.out) (h2 : RdV w B' vb r.out) :
    Calls Try.prog 12 #[ranV va r, ranV vb r] w fun e w' => e = .returned (.bool true) ∧ Below w.heap.size w w' := by
  obtain ⟨A, c, rfl, hlc, hcm, -⟩ := h1.sl
  obtain ⟨A', c', rfl, hlc', hcm', -⟩ := h2.sl
  obtain ⟨out, st, co⟩ := r
  unfold ranV
  simp only at *
  have hb := boxes w #[.slice A out.length c, .int .i64 st, .int .i64 co] #[.slice A' out.length c', .int .i64 st, .int .i64 co] tRn tRn
  have b1 : Blk ((w.alloc (.cells #[.slice A out.length c, .int .i64 st, .int .i64 co] tRn)).alloc (.cells #[.slice A' out.length c', .int .i64 st, .int .i64 co] tRn)) w.heap.size tRn #[.slice A out.length c, .int .i64 st, .int .i64 co] := (Blk.new w tRn _).alloc _
  have b2 := Blk.new (w.alloc (.cells #[.slice A out.length c, .int .i64 st, .int .i64 co] tRn)) tRn #[.slice A' out.length c', .int .i64 st, .int .i64 co]
  have e1 : (w.alloc (.cells #[.slice A out.length c, .int .i64 st, .int .i64 co] tRn)).heap.size = w.heap.size + 1 := by simp
  rw [e1] at b2
  have H1 := Lib.hid (h1.below (hb.mono hB))
  have H2 := Lib.hid (h2.below (hb.mono hB'))
  have HB := Lib.hid (And.intro hb (And.intro b1 b2))
  clear h1 h2 hb b1 b2 e1 hcm hcm' hlc hlc'
  go_enter Try.func12, Try.ntmps12
  go_upto_region 1 with (fail)
  generalize (w.alloc (.cells #[.slice A out.length c, .int .i64 st, .int .i64 co] tRn)).alloc (.cells #[.slice A' out.length c', .int .i64 st, .int .i64 co] tRn) = W1 at *
  have p0 : W1.cell? ⟨w.heap.size, 0, none⟩ = some (.slice A out.length c) := HB.out.2.1.cell 0
  have p1 : W1.cell? ⟨w.heap.size, 1, none⟩ = some (.int .i64 st) := HB.out.2.1.cell 1
  have p2 : W1.cell? ⟨w.heap.size, 2, none⟩ = some (.int .i64 co) := HB.out.2.1.cell 2
  have q0 : W1.cell? ⟨w.heap.size + 1, 0, none⟩ = some (.slice A' out.length c') := HB.out.2.2.cell 0
  have q1 : W1.cell? ⟨w.heap.size + 1, 1, none⟩ = some (.int .i64 st) := HB.out.2.2.cell 1
  have q2 : W1.cell? ⟨w.heap.size + 1, 2, none⟩ = some (.int .i64 co) := HB.out.2.2.cell 2
  have pl := HB.out.2.1.lt
  have ql := HB.out.2.2.lt
  have HS := Lib.hid (sameI_any out _ _ B B' W1 H1.out H2.out)
  go_wp2_with fail
  refine HS.out.mono ?_
  rintro e W2 ⟨rfl, d, rfl⟩
  go_wp2_with fail
  go_ret
  exact ⟨rfl, HB.out.1.trans ((below_drewN _ _ _))⟩

end Go.Proofs.Ytgcjfbgfoiekmaa
