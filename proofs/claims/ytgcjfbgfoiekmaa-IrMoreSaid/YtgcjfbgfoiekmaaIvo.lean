/-
  Layer ir: walk of course.Bin.
-/
import Derived.Test.YtgcjfbgfoiekmaaIvn
namespace Go.Proofs.Ytgcjfbgfoiekmaa
open Go Go.RowKit Go.Maps
set_option linter.unusedVariables false
set_option linter.unusedSimpArgs false

set_option maxHeartbeats 1000000 in
theorem operate_any (t a b : Int) (s : List UInt8) (w : World) (ha : iw a) (hb : iw b) :
    Calls Try.prog 58 #[.int .i64 t, .string (str s), .int .i64 a, .int .i64 b] w fun e w' => e = (if (bn t s a b).2 ≠ 0 then PanE 2 (bn t s a b).2 else .returned (.int .i64 (bn t s a b).1)) ∧ Below w.heap.size w w' := by
  obtain ⟨x, y, hxy⟩ : ∃ x y, bn t s a b = (x, y) := ⟨_, _, rfl⟩
  have HB : Hid (∀ W, Calls Try.prog 68 #[.int .i64 t, .string (str s), .int .i64 a, .int .i64 b] W fun e w' => e = .returned (.tuple #[.int .i64 x, .int .i64 y]) ∧ Below W.heap.size W w') := Lib.hid fun W => (bin_any t a b (str s) W ha hb).mono fun e w' h => ⟨by rw [h.1, ByteArray.toList_eq]; show _ = Ending.returned (.tuple #[.int .i64 x, .int .i64 y]); rw [show bn t (str s).data.toList a b = (x, y) from hxy], h.2⟩
  rw [hxy]
  simp only
  clear hxy ha hb
  by_cases hy : y = 0
  · subst hy
    rw [if_neg (by simp)]
    go_enter Try.func58, Try.ntmps58
    go_wp2_with fail
    refine (HB.out _).mono ?_
    rintro e v1 ⟨rfl, J1⟩
    have HJ := Lib.hid J1
    clear J1
    go_wp2_with fail
    go_ret
    exact ⟨rfl, HJ.out⟩
  · rw [if_pos hy]
    have d1 : (y != 0) = true := by simpa using hy
    clear hy
    go_enter Try.func58, Try.ntmps58
    go_wp2_with fail
    refine (HB.out _).mono ?_
    rintro e v1 ⟨rfl, J1⟩
    have HJ := Lib.hid J1
    clear J1
    go_wp2_with fail
    refine (trap_any y _).mono ?_
    rintro e w2 ⟨rfl, rfl⟩
    unfold PanE
    go_wp2_with fail
    exact pan_end rfl ⟨rfl, HJ.out⟩
end Go.Proofs.Ytgcjfbgfoiekmaa
