/-
  A module, inputs and numbers of steps that came in.
-/
import Derived.Test.YtgcjfbgfoiekmaaIwj
namespace Go.Proofs.Ytgcjfbgfoiekmaa
open Go Go.ChangeShapes Go.WideShapes Go.RowKit
set_option linter.unusedVariables false
set_option linter.unusedSimpArgs false

theorem cMd : Try.prog.cellsOf 25 = 2 := by kernel_rfl
theorem cGs : Try.prog.cellsOf 22 = 1 := by kernel_rfl
theorem cFs : Try.prog.cellsOf 23 = 1 := by kernel_rfl
theorem cSt : Try.prog.cellsOf 28 = 6 := by kernel_rfl
section
variable {H : Type} {enc : TypeId × Value → H} {W : World} {sp : Nat → Bool}
set_option maxRecDepth 10000 in
theorem openz_St {fuel : Nat} {cs : List Value} {x : DataW H × List MemPlace} (h : DataW.trod enc Try.prog W 0 sp true fuel 28 cs = some x) (hw : ∀ n ∈ x.1.weights Try.prog 28, n ≤ reachBytes) :
    ∃ gv fv iv ov st mo m inp oth, cs = [gv, fv, iv, ov, .int .i64 st, .int .i64 mo] ∧ IsM W W.heap.size gv fv m ∧ IsI W W.heap.size iv inp ∧ IsI W W.heap.size ov oth ∧ SmM m := by
  obtain ⟨xs, k, hk, hxy0, hl, hxl, hf⟩ := DataW.trod_struct Try.underlying28 h
  have hl6 : cs.length = 6 := by rw [hl]; exact cSt
  have hxl5 : xs.length = 5 := hxl
  match cs, hl6 with
  | [v0, v1, v2, v3, v4, v5], _ =>
    match xs, hxl5 with
    | [x0, x1, x2, x3, x4], _ =>
      have g0 := hf 0 _ rfl; have g1 := hf 1 _ rfl; have g2 := hf 2 _ rfl; have g3 := hf 3 _ rfl; have g4 := hf 4 _ rfl
      clear hf
      simp [cI, cIs, cMd] at g0 g1 g2 g3 g4
      rw [hxy0] at hw
      obtain ⟨iv, inp, f1, e1, b1⟩ := openz_I g1 fun n hn => hw n (by simp [DataW.weights, Try.underlying28, DataW.weightsEach]; simp [hn])
      obtain ⟨ov, oth, f2, e2, b2⟩ := openz_I g2 fun n hn => hw n (by simp [DataW.weights, Try.underlying28, DataW.weightsEach]; simp [hn])
      obtain ⟨z3, f3, -, e3⟩ := DataW.trod_int Try.underlying3 g3
      obtain ⟨z4, f4, -, e4⟩ := DataW.trod_int Try.underlying3 g4
      obtain ⟨ys, k, hk, hxy, -, hyl, hf⟩ := DataW.trod_struct Try.underlying25 g0
      have hyl2 : ys.length = 2 := hyl
      match ys, hyl2 with
      | [y0, y1], _ =>
        have g5 := hf 0 _ rfl; have g6 := hf 1 _ rfl
        clear hf
        simp [cGs, cFs] at g5 g6
        have hm9 : ∀ n ∈ x0.1.weights Try.prog 25, n ≤ reachBytes := fun n hn => hw n (by simp [DataW.weights, Try.underlying28, DataW.weightsEach]; simp [hn])
        rw [hxy] at hm9
        obtain ⟨gv, gl, f5, e5, b5⟩ := openz_G g5 fun n hn => hm9 n (by simp [DataW.weights, Try.underlying25, DataW.weightsEach]; simp [hn])
        obtain ⟨fv, fl, f6, e6, b6⟩ := openz_F g6 fun n hn => hm9 n (by simp [DataW.weights, Try.underlying25, DataW.weightsEach]; simp [hn])
        simp only [List.cons.injEq, and_true] at f1 f2 f3 f4 f5 f6
        subst f1 f2 f3 f4 f5 f6
        exact ⟨_, _, _, _, z3, z4, ⟨gl, fl⟩, inp, oth, rfl, ⟨e5, e6⟩, e1, e2, b6⟩
end
end Go.Proofs.Ytgcjfbgfoiekmaa
