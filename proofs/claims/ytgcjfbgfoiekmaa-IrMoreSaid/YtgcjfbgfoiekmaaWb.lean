/-
  THE WALKS of layer word's generic operations, an operation and a width each; WRITTEN BY PROGRAM.
-/
import Derived.Test.YtgcjfbgfoiekmaaWa
namespace Go.Proofs.Ytgcjfbgfoiekmaa
set_option linter.unusedVariables false
open Go.RowKit Go.WideMaps Go.Maps

set_option maxHeartbeats 400000 in
theorem count_1 (b : Int) (n : Nat) (w : World) (hn : b % 32 = (n : Int)) :
    Calls Try.prog 75 #[.int .i64 1, .int .i64 b] w fun e w' => e = .returned (.int .u64 n) ∧ Below w.heap.size w w' := by
  have h31 := and31 b
  rw [hn] at h31
  have hlt : n < 32 := by omega
  clear hn
  go_enter Try.func75, Try.ntmps75
  go_wp2_with fail
  refine (width_any 1 _ (by decide)).mono ?_
  rintro e w1 ⟨rfl, hb⟩
  rw [show wd 1 = 32 from rfl]
  go_wp2_with fail
  go_ret
  exact ⟨rfl, hb⟩

set_option maxHeartbeats 400000 in
theorem count_2 (b : Int) (n : Nat) (w : World) (hn : b % 64 = (n : Int)) :
    Calls Try.prog 75 #[.int .i64 2, .int .i64 b] w fun e w' => e = .returned (.int .u64 n) ∧ Below w.heap.size w w' := by
  have h31 := and63 b
  rw [hn] at h31
  have hlt : n < 64 := by omega
  clear hn
  go_enter Try.func75, Try.ntmps75
  go_wp2_with fail
  refine (width_any 2 _ (by decide)).mono ?_
  rintro e w1 ⟨rfl, hb⟩
  rw [show wd 2 = 64 from rfl]
  go_wp2_with fail
  go_ret
  exact ⟨rfl, hb⟩

set_option maxHeartbeats 400000 in
theorem op32_add (t a b : Int) (op : ByteArray) (w : World) (hop : op.toList = [43]) :
    Calls Try.prog 70 #[.int .i64 t, .string op, .int .i32 a, .int .i32 b] w fun e w' => e = .returned (.tuple #[.int .i64 (wrap32 (a + b)), .int .i64 0]) ∧ w = w' := by
  have f0 : (op.toList == [43]) = true := by rw [hop]; rfl
  have f1 : (op.toList == [45]) = false := by rw [hop]; rfl
  have f2 : (op.toList == [42]) = false := by rw [hop]; rfl
  have f3 : (op.toList == [47]) = false := by rw [hop]; rfl
  have f4 : (op.toList == [37]) = false := by rw [hop]; rfl
  have f5 : (op.toList == [38]) = false := by rw [hop]; rfl
  have f6 : (op.toList == [124]) = false := by rw [hop]; rfl
  have f7 : (op.toList == [94]) = false := by rw [hop]; rfl
  have f8 : (op.toList == [60, 60]) = false := by rw [hop]; rfl
  have f9 : (op.toList == [62, 62]) = false := by rw [hop]; rfl
  have f10 : (op.toList == [61, 61]) = false := by rw [hop]; rfl
  have f11 : (op.toList == [33, 61]) = false := by rw [hop]; rfl
  have f12 : (op.toList == [60]) = false := by rw [hop]; rfl
  have f13 : (op.toList == [60, 61]) = false := by rw [hop]; rfl
  have f14 : (op.toList == [62]) = false := by rw [hop]; rfl
  have f15 : (op.toList == [62, 61]) = false := by rw [hop]; rfl
  clear hop
  go_enter Try.func70, Try.ntmps70
  go_wp2
  all_goals
    go_ret2
    exact ⟨ret_two (w64_32 _) rfl, rfl⟩
set_option maxHeartbeats 400000 in
theorem op32_sub (t a b : Int) (op : ByteArray) (w : World) (hop : op.toList = [45]) :
    Calls Try.prog 70 #[.int .i64 t, .string op, .int .i32 a, .int .i32 b] w fun e w' => e = .returned (.tuple #[.int .i64 (wrap32 (a - b)), .int .i64 0]) ∧ w = w' := by
  have f0 : (op.toList == [43]) = false := by rw [hop]; rfl
  have f1 : (op.toList == [45]) = true := by rw [hop]; rfl
  have f2 : (op.toList == [42]) = false := by rw [hop]; rfl
  have f3 : (op.toList == [47]) = false := by rw [hop]; rfl
  have f4 : (op.toList == [37]) = false := by rw [hop]; rfl
  have f5 : (op.toList == [38]) = false := by rw [hop]; rfl
  have f6 : (op.toList == [124]) = false := by rw [hop]; rfl
  have f7 : (op.toList == [94]) = false := by rw [hop]; rfl
  have f8 : (op.toList == [60, 60]) = false := by rw [hop]; rfl
  have f9 : (op.toList == [62, 62]) = false := by rw [hop]; rfl
  have f10 : (op.toList == [61, 61]) = false := by rw [hop]; rfl
  have f11 : (op.toList == [33, 61]) = false := by rw [hop]; rfl
  have f12 : (op.toList == [60]) = false := by rw [hop]; rfl
  have f13 : (op.toList == [60, 61]) = false := by rw [hop]; rfl
  have f14 : (op.toList == [62]) = false := by rw [hop]; rfl
  have f15 : (op.toList == [62, 61]) = false := by rw [hop]; rfl
  clear hop
  go_enter Try.func70, Try.ntmps70
  go_wp2
  all_goals
    go_ret2
    exact ⟨ret_two (w64_32 _) rfl, rfl⟩
set_option maxHeartbeats 400000 in
theorem op32_mul (t a b : Int) (op : ByteArray) (w : World) (hop : op.toList = [42]) :
    Calls Try.prog 70 #[.int .i64 t, .string op, .int .i32 a, .int .i32 b] w fun e w' => e = .returned (.tuple #[.int .i64 (wrap32 (a * b)), .int .i64 0]) ∧ w = w' := by
  have f0 : (op.toList == [43]) = false := by rw [hop]; rfl
  have f1 : (op.toList == [45]) = false := by rw [hop]; rfl
  have f2 : (op.toList == [42]) = true := by rw [hop]; rfl
  have f3 : (op.toList == [47]) = false := by rw [hop]; rfl
  have f4 : (op.toList == [37]) = false := by rw [hop]; rfl
  have f5 : (op.toList == [38]) = false := by rw [hop]; rfl
  have f6 : (op.toList == [124]) = false := by rw [hop]; rfl
  have f7 : (op.toList == [94]) = false := by rw [hop]; rfl
  have f8 : (op.toList == [60, 60]) = false := by rw [hop]; rfl
  have f9 : (op.toList == [62, 62]) = false := by rw [hop]; rfl
  have f10 : (op.toList == [61, 61]) = false := by rw [hop]; rfl
  have f11 : (op.toList == [33, 61]) = false := by rw [hop]; rfl
  have f12 : (op.toList == [60]) = false := by rw [hop]; rfl
  have f13 : (op.toList == [60, 61]) = false := by rw [hop]; rfl
  have f14 : (op.toList == [62]) = false := by rw [hop]; rfl
  have f15 : (op.toList == [62, 61]) = false := by rw [hop]; rfl
  clear hop
  go_enter Try.func70, Try.ntmps70
  go_wp2
  all_goals
    go_ret2
    exact ⟨ret_two (w64_32 _) rfl, rfl⟩
set_option maxHeartbeats 400000 in
theorem op32_div0 (t a : Int) (op : ByteArray) (w : World) (hop : op.toList = [47]) :
    Calls Try.prog 70 #[.int .i64 t, .string op, .int .i32 a, .int .i32 0] w fun e w' => e = .returned (.tuple #[.int .i64 (0), .int .i64 1]) ∧ w = w' := by
  have f0 : (op.toList == [43]) = false := by rw [hop]; rfl
  have f1 : (op.toList == [45]) = false := by rw [hop]; rfl
  have f2 : (op.toList == [42]) = false := by rw [hop]; rfl
  have f3 : (op.toList == [47]) = true := by rw [hop]; rfl
  have f4 : (op.toList == [37]) = false := by rw [hop]; rfl
  have f5 : (op.toList == [38]) = false := by rw [hop]; rfl
  have f6 : (op.toList == [124]) = false := by rw [hop]; rfl
  have f7 : (op.toList == [94]) = false := by rw [hop]; rfl
  have f8 : (op.toList == [60, 60]) = false := by rw [hop]; rfl
  have f9 : (op.toList == [62, 62]) = false := by rw [hop]; rfl
  have f10 : (op.toList == [61, 61]) = false := by rw [hop]; rfl
  have f11 : (op.toList == [33, 61]) = false := by rw [hop]; rfl
  have f12 : (op.toList == [60]) = false := by rw [hop]; rfl
  have f13 : (op.toList == [60, 61]) = false := by rw [hop]; rfl
  have f14 : (op.toList == [62]) = false := by rw [hop]; rfl
  have f15 : (op.toList == [62, 61]) = false := by rw [hop]; rfl
  clear hop
  go_enter Try.func70, Try.ntmps70
  go_wp2
  all_goals
    go_ret2
    exact ⟨rfl, rfl⟩
set_option maxHeartbeats 400000 in
theorem op32_divo (t : Int) (op : ByteArray) (w : World) (hop : op.toList = [47]) :
    Calls Try.prog 70 #[.int .i64 t, .string op, .int .i32 (-2147483648), .int .i32 (-1)] w fun e w' => e = .returned (.tuple #[.int .i64 (0), .int .i64 2]) ∧ w = w' := by
  have f0 : (op.toList == [43]) = false := by rw [hop]; rfl
  have f1 : (op.toList == [45]) = false := by rw [hop]; rfl
  have f2 : (op.toList == [42]) = false := by rw [hop]; rfl
  have f3 : (op.toList == [47]) = true := by rw [hop]; rfl
  have f4 : (op.toList == [37]) = false := by rw [hop]; rfl
  have f5 : (op.toList == [38]) = false := by rw [hop]; rfl
  have f6 : (op.toList == [124]) = false := by rw [hop]; rfl
  have f7 : (op.toList == [94]) = false := by rw [hop]; rfl
  have f8 : (op.toList == [60, 60]) = false := by rw [hop]; rfl
  have f9 : (op.toList == [62, 62]) = false := by rw [hop]; rfl
  have f10 : (op.toList == [61, 61]) = false := by rw [hop]; rfl
  have f11 : (op.toList == [33, 61]) = false := by rw [hop]; rfl
  have f12 : (op.toList == [60]) = false := by rw [hop]; rfl
  have f13 : (op.toList == [60, 61]) = false := by rw [hop]; rfl
  have f14 : (op.toList == [62]) = false := by rw [hop]; rfl
  have f15 : (op.toList == [62, 61]) = false := by rw [hop]; rfl
  have hm : decide (wrap32 2147483648 < 0) = true := by unfold wrap32; decide
  clear hop
  go_enter Try.func70, Try.ntmps70
  go_wp2
  all_goals
    go_ret2
    exact ⟨rfl, rfl⟩
set_option maxHeartbeats 400000 in
theorem op32_div1 (t a : Int) (op : ByteArray) (w : World) (hop : op.toList = [47]) (ha1 : -2147483648 < a) (ha2 : a ≤ 2147483647) :
    Calls Try.prog 70 #[.int .i64 t, .string op, .int .i32 a, .int .i32 (-1)] w fun e w' => e = .returned (.tuple #[.int .i64 (-a), .int .i64 0]) ∧ w = w' := by
  have f0 : (op.toList == [43]) = false := by rw [hop]; rfl
  have f1 : (op.toList == [45]) = false := by rw [hop]; rfl
  have f2 : (op.toList == [42]) = false := by rw [hop]; rfl
  have f3 : (op.toList == [47]) = true := by rw [hop]; rfl
  have f4 : (op.toList == [37]) = false := by rw [hop]; rfl
  have f5 : (op.toList == [38]) = false := by rw [hop]; rfl
  have f6 : (op.toList == [124]) = false := by rw [hop]; rfl
  have f7 : (op.toList == [94]) = false := by rw [hop]; rfl
  have f8 : (op.toList == [60, 60]) = false := by rw [hop]; rfl
  have f9 : (op.toList == [62, 62]) = false := by rw [hop]; rfl
  have f10 : (op.toList == [61, 61]) = false := by rw [hop]; rfl
  have f11 : (op.toList == [33, 61]) = false := by rw [hop]; rfl
  have f12 : (op.toList == [60]) = false := by rw [hop]; rfl
  have f13 : (op.toList == [60, 61]) = false := by rw [hop]; rfl
  have f14 : (op.toList == [62]) = false := by rw [hop]; rfl
  have f15 : (op.toList == [62, 61]) = false := by rw [hop]; rfl
  clear hop
  go_enter Try.func70, Try.ntmps70
  go_wp2
  all_goals
    go_ret2
    exact ⟨rfl, rfl⟩
set_option maxHeartbeats 400000 in
theorem op32_div (t a b : Int) (op : ByteArray) (w : World) (hop : op.toList = [47]) (ha1 : -2147483648 ≤ a) (ha2 : a ≤ 2147483647) (hb1 : -2147483648 ≤ b) (hb2 : b ≤ 2147483647) (h0 : (b == 0) = false) (h1 : (b == -1) = false) :
    Calls Try.prog 70 #[.int .i64 t, .string op, .int .i32 a, .int .i32 b] w fun e w' => e = .returned (.tuple #[.int .i64 (a.tdiv b), .int .i64 0]) ∧ w = w' := by
  have f0 : (op.toList == [43]) = false := by rw [hop]; rfl
  have f1 : (op.toList == [45]) = false := by rw [hop]; rfl
  have f2 : (op.toList == [42]) = false := by rw [hop]; rfl
  have f3 : (op.toList == [47]) = true := by rw [hop]; rfl
  have f4 : (op.toList == [37]) = false := by rw [hop]; rfl
  have f5 : (op.toList == [38]) = false := by rw [hop]; rfl
  have f6 : (op.toList == [124]) = false := by rw [hop]; rfl
  have f7 : (op.toList == [94]) = false := by rw [hop]; rfl
  have f8 : (op.toList == [60, 60]) = false := by rw [hop]; rfl
  have f9 : (op.toList == [62, 62]) = false := by rw [hop]; rfl
  have f10 : (op.toList == [61, 61]) = false := by rw [hop]; rfl
  have f11 : (op.toList == [33, 61]) = false := by rw [hop]; rfl
  have f12 : (op.toList == [60]) = false := by rw [hop]; rfl
  have f13 : (op.toList == [60, 61]) = false := by rw [hop]; rfl
  have f14 : (op.toList == [62]) = false := by rw [hop]; rfl
  have f15 : (op.toList == [62, 61]) = false := by rw [hop]; rfl
  have hz : ¬ b = 0 := by simpa using h0
  clear hop
  go_enter Try.func70, Try.ntmps70
  go_wp2
  all_goals
    go_ret2
    exact ⟨ret_two (by rw [w32_id (by have := tdiv_bd 2147483648 a b ha1 ha2 hz (fun e => by simp [e.2] at h1) (by decide); omega), w64_id (by have := tdiv_bd 2147483648 a b ha1 ha2 hz (fun e => by simp [e.2] at h1) (by decide); omega)]) rfl, rfl⟩
set_option maxHeartbeats 400000 in
theorem op32_rem0 (t a : Int) (op : ByteArray) (w : World) (hop : op.toList = [37]) :
    Calls Try.prog 70 #[.int .i64 t, .string op, .int .i32 a, .int .i32 0] w fun e w' => e = .returned (.tuple #[.int .i64 (0), .int .i64 1]) ∧ w = w' := by
  have f0 : (op.toList == [43]) = false := by rw [hop]; rfl
  have f1 : (op.toList == [45]) = false := by rw [hop]; rfl
  have f2 : (op.toList == [42]) = false := by rw [hop]; rfl
  have f3 : (op.toList == [47]) = false := by rw [hop]; rfl
  have f4 : (op.toList == [37]) = true := by rw [hop]; rfl
  have f5 : (op.toList == [38]) = false := by rw [hop]; rfl
  have f6 : (op.toList == [124]) = false := by rw [hop]; rfl
  have f7 : (op.toList == [94]) = false := by rw [hop]; rfl
  have f8 : (op.toList == [60, 60]) = false := by rw [hop]; rfl
  have f9 : (op.toList == [62, 62]) = false := by rw [hop]; rfl
  have f10 : (op.toList == [61, 61]) = false := by rw [hop]; rfl
  have f11 : (op.toList == [33, 61]) = false := by rw [hop]; rfl
  have f12 : (op.toList == [60]) = false := by rw [hop]; rfl
  have f13 : (op.toList == [60, 61]) = false := by rw [hop]; rfl
  have f14 : (op.toList == [62]) = false := by rw [hop]; rfl
  have f15 : (op.toList == [62, 61]) = false := by rw [hop]; rfl
  clear hop
  go_enter Try.func70, Try.ntmps70
  go_wp2
  all_goals
    go_ret2
    exact ⟨rfl, rfl⟩
set_option maxHeartbeats 400000 in
theorem op32_rem (t a b : Int) (op : ByteArray) (w : World) (hop : op.toList = [37]) (ha1 : -2147483648 ≤ a) (ha2 : a ≤ 2147483647) (hb1 : -2147483648 ≤ b) (hb2 : b ≤ 2147483647) (h0 : (b == 0) = false) :
    Calls Try.prog 70 #[.int .i64 t, .string op, .int .i32 a, .int .i32 b] w fun e w' => e = .returned (.tuple #[.int .i64 (a.tmod b), .int .i64 0]) ∧ w = w' := by
  have f0 : (op.toList == [43]) = false := by rw [hop]; rfl
  have f1 : (op.toList == [45]) = false := by rw [hop]; rfl
  have f2 : (op.toList == [42]) = false := by rw [hop]; rfl
  have f3 : (op.toList == [47]) = false := by rw [hop]; rfl
  have f4 : (op.toList == [37]) = true := by rw [hop]; rfl
  have f5 : (op.toList == [38]) = false := by rw [hop]; rfl
  have f6 : (op.toList == [124]) = false := by rw [hop]; rfl
  have f7 : (op.toList == [94]) = false := by rw [hop]; rfl
  have f8 : (op.toList == [60, 60]) = false := by rw [hop]; rfl
  have f9 : (op.toList == [62, 62]) = false := by rw [hop]; rfl
  have f10 : (op.toList == [61, 61]) = false := by rw [hop]; rfl
  have f11 : (op.toList == [33, 61]) = false := by rw [hop]; rfl
  have f12 : (op.toList == [60]) = false := by rw [hop]; rfl
  have f13 : (op.toList == [60, 61]) = false := by rw [hop]; rfl
  have f14 : (op.toList == [62]) = false := by rw [hop]; rfl
  have f15 : (op.toList == [62, 61]) = false := by rw [hop]; rfl
  have hz : ¬ b = 0 := by simpa using h0
  clear hop
  go_enter Try.func70, Try.ntmps70
  go_wp2
  all_goals
    go_ret2
    exact ⟨ret_two (w64_id (by have := tmod_bd a b 2147483648 hz hb1 hb2; omega)) rfl, rfl⟩
set_option maxHeartbeats 400000 in
theorem op32_and (t a b : Int) (op : ByteArray) (w : World) (hop : op.toList = [38]) :
    Calls Try.prog 70 #[.int .i64 t, .string op, .int .i32 a, .int .i32 b] w fun e w' => e = .returned (.tuple #[.int .i64 (bits .and .i32 a b), .int .i64 0]) ∧ w = w' := by
  have f0 : (op.toList == [43]) = false := by rw [hop]; rfl
  have f1 : (op.toList == [45]) = false := by rw [hop]; rfl
  have f2 : (op.toList == [42]) = false := by rw [hop]; rfl
  have f3 : (op.toList == [47]) = false := by rw [hop]; rfl
  have f4 : (op.toList == [37]) = false := by rw [hop]; rfl
  have f5 : (op.toList == [38]) = true := by rw [hop]; rfl
  have f6 : (op.toList == [124]) = false := by rw [hop]; rfl
  have f7 : (op.toList == [94]) = false := by rw [hop]; rfl
  have f8 : (op.toList == [60, 60]) = false := by rw [hop]; rfl
  have f9 : (op.toList == [62, 62]) = false := by rw [hop]; rfl
  have f10 : (op.toList == [61, 61]) = false := by rw [hop]; rfl
  have f11 : (op.toList == [33, 61]) = false := by rw [hop]; rfl
  have f12 : (op.toList == [60]) = false := by rw [hop]; rfl
  have f13 : (op.toList == [60, 61]) = false := by rw [hop]; rfl
  have f14 : (op.toList == [62]) = false := by rw [hop]; rfl
  have f15 : (op.toList == [62, 61]) = false := by rw [hop]; rfl
  clear hop
  go_enter Try.func70, Try.ntmps70
  go_wp2
  all_goals
    go_ret2
    exact ⟨ret_two (w64_id (by have := bits32_bd .and a b; omega)) rfl, rfl⟩
set_option maxHeartbeats 400000 in
theorem op32_or (t a b : Int) (op : ByteArray) (w : World) (hop : op.toList = [124]) :
    Calls Try.prog 70 #[.int .i64 t, .string op, .int .i32 a, .int .i32 b] w fun e w' => e = .returned (.tuple #[.int .i64 (bits .or .i32 a b), .int .i64 0]) ∧ w = w' := by
  have f0 : (op.toList == [43]) = false := by rw [hop]; rfl
  have f1 : (op.toList == [45]) = false := by rw [hop]; rfl
  have f2 : (op.toList == [42]) = false := by rw [hop]; rfl
  have f3 : (op.toList == [47]) = false := by rw [hop]; rfl
  have f4 : (op.toList == [37]) = false := by rw [hop]; rfl
  have f5 : (op.toList == [38]) = false := by rw [hop]; rfl
  have f6 : (op.toList == [124]) = true := by rw [hop]; rfl
  have f7 : (op.toList == [94]) = false := by rw [hop]; rfl
  have f8 : (op.toList == [60, 60]) = false := by rw [hop]; rfl
  have f9 : (op.toList == [62, 62]) = false := by rw [hop]; rfl
  have f10 : (op.toList == [61, 61]) = false := by rw [hop]; rfl
  have f11 : (op.toList == [33, 61]) = false := by rw [hop]; rfl
  have f12 : (op.toList == [60]) = false := by rw [hop]; rfl
  have f13 : (op.toList == [60, 61]) = false := by rw [hop]; rfl
  have f14 : (op.toList == [62]) = false := by rw [hop]; rfl
  have f15 : (op.toList == [62, 61]) = false := by rw [hop]; rfl
  clear hop
  go_enter Try.func70, Try.ntmps70
  go_wp2
  all_goals
    go_ret2
    exact ⟨ret_two (w64_id (by have := bits32_bd .or a b; omega)) rfl, rfl⟩
set_option maxHeartbeats 400000 in
theorem op32_xor (t a b : Int) (op : ByteArray) (w : World) (hop : op.toList = [94]) :
    Calls Try.prog 70 #[.int .i64 t, .string op, .int .i32 a, .int .i32 b] w fun e w' => e = .returned (.tuple #[.int .i64 (bits .xor .i32 a b), .int .i64 0]) ∧ w = w' := by
  have f0 : (op.toList == [43]) = false := by rw [hop]; rfl
  have f1 : (op.toList == [45]) = false := by rw [hop]; rfl
  have f2 : (op.toList == [42]) = false := by rw [hop]; rfl
  have f3 : (op.toList == [47]) = false := by rw [hop]; rfl
  have f4 : (op.toList == [37]) = false := by rw [hop]; rfl
  have f5 : (op.toList == [38]) = false := by rw [hop]; rfl
  have f6 : (op.toList == [124]) = false := by rw [hop]; rfl
  have f7 : (op.toList == [94]) = true := by rw [hop]; rfl
  have f8 : (op.toList == [60, 60]) = false := by rw [hop]; rfl
  have f9 : (op.toList == [62, 62]) = false := by rw [hop]; rfl
  have f10 : (op.toList == [61, 61]) = false := by rw [hop]; rfl
  have f11 : (op.toList == [33, 61]) = false := by rw [hop]; rfl
  have f12 : (op.toList == [60]) = false := by rw [hop]; rfl
  have f13 : (op.toList == [60, 61]) = false := by rw [hop]; rfl
  have f14 : (op.toList == [62]) = false := by rw [hop]; rfl
  have f15 : (op.toList == [62, 61]) = false := by rw [hop]; rfl
  clear hop
  go_enter Try.func70, Try.ntmps70
  go_wp2
  all_goals
    go_ret2
    exact ⟨ret_two (w64_id (by have := bits32_bd .xor a b; omega)) rfl, rfl⟩
set_option maxHeartbeats 400000 in
theorem op32_shl (a b : Int) (op : ByteArray) (w : World) (hop : op.toList = [60, 60]) (n : Nat) (hn : b % 32 = (n : Int)) (ha1 : -2147483648 ≤ a) (ha2 : a ≤ 2147483647) (hb1 : -2147483648 ≤ b) (hb2 : b ≤ 2147483647) :
    Calls Try.prog 70 #[.int .i64 1, .string op, .int .i32 a, .int .i32 b] w fun e w' => e = .returned (.tuple #[.int .i64 (wrap32 (a * 2 ^ n)), .int .i64 0]) ∧ Below w.heap.size w w' := by
  have hlt : n < 32 := by omega
  have HN := Lib.hid hn
  clear hn
  have f0 : (op.toList == [43]) = false := by rw [hop]; rfl
  have f1 : (op.toList == [45]) = false := by rw [hop]; rfl
  have f2 : (op.toList == [42]) = false := by rw [hop]; rfl
  have f3 : (op.toList == [47]) = false := by rw [hop]; rfl
  have f4 : (op.toList == [37]) = false := by rw [hop]; rfl
  have f5 : (op.toList == [38]) = false := by rw [hop]; rfl
  have f6 : (op.toList == [124]) = false := by rw [hop]; rfl
  have f7 : (op.toList == [94]) = false := by rw [hop]; rfl
  have f8 : (op.toList == [60, 60]) = true := by rw [hop]; rfl
  have f9 : (op.toList == [62, 62]) = false := by rw [hop]; rfl
  have f10 : (op.toList == [61, 61]) = false := by rw [hop]; rfl
  have f11 : (op.toList == [33, 61]) = false := by rw [hop]; rfl
  have f12 : (op.toList == [60]) = false := by rw [hop]; rfl
  have f13 : (op.toList == [60, 61]) = false := by rw [hop]; rfl
  have f14 : (op.toList == [62]) = false := by rw [hop]; rfl
  have f15 : (op.toList == [62, 61]) = false := by rw [hop]; rfl
  clear hop
  go_enter Try.func70, Try.ntmps70
  go_wp2_with (first | (go_at_call 75; refine (count_1 b n _ HN.out).mono ?_; rintro e w1 ⟨rfl, hb⟩) | go_in)
  all_goals
    go_ret2
    exact ⟨ret_two (w64_32 _) rfl, hb⟩
set_option maxHeartbeats 400000 in
theorem op32_shr (a b : Int) (op : ByteArray) (w : World) (hop : op.toList = [62, 62]) (n : Nat) (hn : b % 32 = (n : Int)) (ha1 : -2147483648 ≤ a) (ha2 : a ≤ 2147483647) (hb1 : -2147483648 ≤ b) (hb2 : b ≤ 2147483647) :
    Calls Try.prog 70 #[.int .i64 1, .string op, .int .i32 a, .int .i32 b] w fun e w' => e = .returned (.tuple #[.int .i64 (a / 2 ^ n), .int .i64 0]) ∧ Below w.heap.size w w' := by
  have hlt : n < 32 := by omega
  have HN := Lib.hid hn
  clear hn
  have f0 : (op.toList == [43]) = false := by rw [hop]; rfl
  have f1 : (op.toList == [45]) = false := by rw [hop]; rfl
  have f2 : (op.toList == [42]) = false := by rw [hop]; rfl
  have f3 : (op.toList == [47]) = false := by rw [hop]; rfl
  have f4 : (op.toList == [37]) = false := by rw [hop]; rfl
  have f5 : (op.toList == [38]) = false := by rw [hop]; rfl
  have f6 : (op.toList == [124]) = false := by rw [hop]; rfl
  have f7 : (op.toList == [94]) = false := by rw [hop]; rfl
  have f8 : (op.toList == [60, 60]) = false := by rw [hop]; rfl
  have f9 : (op.toList == [62, 62]) = true := by rw [hop]; rfl
  have f10 : (op.toList == [61, 61]) = false := by rw [hop]; rfl
  have f11 : (op.toList == [33, 61]) = false := by rw [hop]; rfl
  have f12 : (op.toList == [60]) = false := by rw [hop]; rfl
  have f13 : (op.toList == [60, 61]) = false := by rw [hop]; rfl
  have f14 : (op.toList == [62]) = false := by rw [hop]; rfl
  have f15 : (op.toList == [62, 61]) = false := by rw [hop]; rfl
  clear hop
  go_enter Try.func70, Try.ntmps70
  go_wp2_with (first | (go_at_call 75; refine (count_1 b n _ HN.out).mono ?_; rintro e w1 ⟨rfl, hb⟩) | go_in)
  all_goals
    go_ret2
    exact ⟨ret_two (w64_id (by have := shr_bd 2147483648 a n (by decide) ha1 ha2; omega)) rfl, hb⟩
set_option maxHeartbeats 400000 in
theorem op32_eq (t a b : Int) (op : ByteArray) (w : World) (hop : op.toList = [61, 61]) :
    Calls Try.prog 70 #[.int .i64 t, .string op, .int .i32 a, .int .i32 b] w fun e w' => e = .returned (.tuple #[.int .i64 (tr (a == b)), .int .i64 0]) ∧ w = w' := by
  have f0 : (op.toList == [43]) = false := by rw [hop]; rfl
  have f1 : (op.toList == [45]) = false := by rw [hop]; rfl
  have f2 : (op.toList == [42]) = false := by rw [hop]; rfl
  have f3 : (op.toList == [47]) = false := by rw [hop]; rfl
  have f4 : (op.toList == [37]) = false := by rw [hop]; rfl
  have f5 : (op.toList == [38]) = false := by rw [hop]; rfl
  have f6 : (op.toList == [124]) = false := by rw [hop]; rfl
  have f7 : (op.toList == [94]) = false := by rw [hop]; rfl
  have f8 : (op.toList == [60, 60]) = false := by rw [hop]; rfl
  have f9 : (op.toList == [62, 62]) = false := by rw [hop]; rfl
  have f10 : (op.toList == [61, 61]) = true := by rw [hop]; rfl
  have f11 : (op.toList == [33, 61]) = false := by rw [hop]; rfl
  have f12 : (op.toList == [60]) = false := by rw [hop]; rfl
  have f13 : (op.toList == [60, 61]) = false := by rw [hop]; rfl
  have f14 : (op.toList == [62]) = false := by rw [hop]; rfl
  have f15 : (op.toList == [62, 61]) = false := by rw [hop]; rfl
  clear hop
  go_enter Try.func70, Try.ntmps70
  go_wp2
  all_goals
    go_ret2
    exact ⟨ret_two (by simp [tr, *]) rfl, rfl⟩
set_option maxHeartbeats 400000 in
theorem op32_ne (t a b : Int) (op : ByteArray) (w : World) (hop : op.toList = [33, 61]) :
    Calls Try.prog 70 #[.int .i64 t, .string op, .int .i32 a, .int .i32 b] w fun e w' => e = .returned (.tuple #[.int .i64 (tr (a != b)), .int .i64 0]) ∧ w = w' := by
  have f0 : (op.toList == [43]) = false := by rw [hop]; rfl
  have f1 : (op.toList == [45]) = false := by rw [hop]; rfl
  have f2 : (op.toList == [42]) = false := by rw [hop]; rfl
  have f3 : (op.toList == [47]) = false := by rw [hop]; rfl
  have f4 : (op.toList == [37]) = false := by rw [hop]; rfl
  have f5 : (op.toList == [38]) = false := by rw [hop]; rfl
  have f6 : (op.toList == [124]) = false := by rw [hop]; rfl
  have f7 : (op.toList == [94]) = false := by rw [hop]; rfl
  have f8 : (op.toList == [60, 60]) = false := by rw [hop]; rfl
  have f9 : (op.toList == [62, 62]) = false := by rw [hop]; rfl
  have f10 : (op.toList == [61, 61]) = false := by rw [hop]; rfl
  have f11 : (op.toList == [33, 61]) = true := by rw [hop]; rfl
  have f12 : (op.toList == [60]) = false := by rw [hop]; rfl
  have f13 : (op.toList == [60, 61]) = false := by rw [hop]; rfl
  have f14 : (op.toList == [62]) = false := by rw [hop]; rfl
  have f15 : (op.toList == [62, 61]) = false := by rw [hop]; rfl
  clear hop
  go_enter Try.func70, Try.ntmps70
  go_wp2
  all_goals
    go_ret2
    exact ⟨ret_two (by simp [tr, *]) rfl, rfl⟩
set_option maxHeartbeats 400000 in
theorem op32_lt (t a b : Int) (op : ByteArray) (w : World) (hop : op.toList = [60]) :
    Calls Try.prog 70 #[.int .i64 t, .string op, .int .i32 a, .int .i32 b] w fun e w' => e = .returned (.tuple #[.int .i64 (tr (decide (a < b))), .int .i64 0]) ∧ w = w' := by
  have f0 : (op.toList == [43]) = false := by rw [hop]; rfl
  have f1 : (op.toList == [45]) = false := by rw [hop]; rfl
  have f2 : (op.toList == [42]) = false := by rw [hop]; rfl
  have f3 : (op.toList == [47]) = false := by rw [hop]; rfl
  have f4 : (op.toList == [37]) = false := by rw [hop]; rfl
  have f5 : (op.toList == [38]) = false := by rw [hop]; rfl
  have f6 : (op.toList == [124]) = false := by rw [hop]; rfl
  have f7 : (op.toList == [94]) = false := by rw [hop]; rfl
  have f8 : (op.toList == [60, 60]) = false := by rw [hop]; rfl
  have f9 : (op.toList == [62, 62]) = false := by rw [hop]; rfl
  have f10 : (op.toList == [61, 61]) = false := by rw [hop]; rfl
  have f11 : (op.toList == [33, 61]) = false := by rw [hop]; rfl
  have f12 : (op.toList == [60]) = true := by rw [hop]; rfl
  have f13 : (op.toList == [60, 61]) = false := by rw [hop]; rfl
  have f14 : (op.toList == [62]) = false := by rw [hop]; rfl
  have f15 : (op.toList == [62, 61]) = false := by rw [hop]; rfl
  clear hop
  go_enter Try.func70, Try.ntmps70
  go_wp2
  all_goals
    go_ret2
    exact ⟨ret_two (by simp [tr, *]) rfl, rfl⟩
set_option maxHeartbeats 400000 in
theorem op32_le (t a b : Int) (op : ByteArray) (w : World) (hop : op.toList = [60, 61]) :
    Calls Try.prog 70 #[.int .i64 t, .string op, .int .i32 a, .int .i32 b] w fun e w' => e = .returned (.tuple #[.int .i64 (tr (decide (a ≤ b))), .int .i64 0]) ∧ w = w' := by
  have f0 : (op.toList == [43]) = false := by rw [hop]; rfl
  have f1 : (op.toList == [45]) = false := by rw [hop]; rfl
  have f2 : (op.toList == [42]) = false := by rw [hop]; rfl
  have f3 : (op.toList == [47]) = false := by rw [hop]; rfl
  have f4 : (op.toList == [37]) = false := by rw [hop]; rfl
  have f5 : (op.toList == [38]) = false := by rw [hop]; rfl
  have f6 : (op.toList == [124]) = false := by rw [hop]; rfl
  have f7 : (op.toList == [94]) = false := by rw [hop]; rfl
  have f8 : (op.toList == [60, 60]) = false := by rw [hop]; rfl
  have f9 : (op.toList == [62, 62]) = false := by rw [hop]; rfl
  have f10 : (op.toList == [61, 61]) = false := by rw [hop]; rfl
  have f11 : (op.toList == [33, 61]) = false := by rw [hop]; rfl
  have f12 : (op.toList == [60]) = false := by rw [hop]; rfl
  have f13 : (op.toList == [60, 61]) = true := by rw [hop]; rfl
  have f14 : (op.toList == [62]) = false := by rw [hop]; rfl
  have f15 : (op.toList == [62, 61]) = false := by rw [hop]; rfl
  clear hop
  go_enter Try.func70, Try.ntmps70
  go_wp2
  all_goals
    go_ret2
    exact ⟨ret_two (by simp [tr, *]) rfl, rfl⟩
set_option maxHeartbeats 400000 in
theorem op32_gt (t a b : Int) (op : ByteArray) (w : World) (hop : op.toList = [62]) :
    Calls Try.prog 70 #[.int .i64 t, .string op, .int .i32 a, .int .i32 b] w fun e w' => e = .returned (.tuple #[.int .i64 (tr (decide (b < a))), .int .i64 0]) ∧ w = w' := by
  have f0 : (op.toList == [43]) = false := by rw [hop]; rfl
  have f1 : (op.toList == [45]) = false := by rw [hop]; rfl
  have f2 : (op.toList == [42]) = false := by rw [hop]; rfl
  have f3 : (op.toList == [47]) = false := by rw [hop]; rfl
  have f4 : (op.toList == [37]) = false := by rw [hop]; rfl
  have f5 : (op.toList == [38]) = false := by rw [hop]; rfl
  have f6 : (op.toList == [124]) = false := by rw [hop]; rfl
  have f7 : (op.toList == [94]) = false := by rw [hop]; rfl
  have f8 : (op.toList == [60, 60]) = false := by rw [hop]; rfl
  have f9 : (op.toList == [62, 62]) = false := by rw [hop]; rfl
  have f10 : (op.toList == [61, 61]) = false := by rw [hop]; rfl
  have f11 : (op.toList == [33, 61]) = false := by rw [hop]; rfl
  have f12 : (op.toList == [60]) = false := by rw [hop]; rfl
  have f13 : (op.toList == [60, 61]) = false := by rw [hop]; rfl
  have f14 : (op.toList == [62]) = true := by rw [hop]; rfl
  have f15 : (op.toList == [62, 61]) = false := by rw [hop]; rfl
  clear hop
  go_enter Try.func70, Try.ntmps70
  go_wp2
  all_goals
    go_ret2
    exact ⟨ret_two (by simp [tr, *]) rfl, rfl⟩
set_option maxHeartbeats 400000 in
theorem op32_ge (t a b : Int) (op : ByteArray) (w : World) (hop : op.toList = [62, 61]) :
    Calls Try.prog 70 #[.int .i64 t, .string op, .int .i32 a, .int .i32 b] w fun e w' => e = .returned (.tuple #[.int .i64 (tr (decide (b ≤ a))), .int .i64 0]) ∧ w = w' := by
  have f0 : (op.toList == [43]) = false := by rw [hop]; rfl
  have f1 : (op.toList == [45]) = false := by rw [hop]; rfl
  have f2 : (op.toList == [42]) = false := by rw [hop]; rfl
  have f3 : (op.toList == [47]) = false := by rw [hop]; rfl
  have f4 : (op.toList == [37]) = false := by rw [hop]; rfl
  have f5 : (op.toList == [38]) = false := by rw [hop]; rfl
  have f6 : (op.toList == [124]) = false := by rw [hop]; rfl
  have f7 : (op.toList == [94]) = false := by rw [hop]; rfl
  have f8 : (op.toList == [60, 60]) = false := by rw [hop]; rfl
  have f9 : (op.toList == [62, 62]) = false := by rw [hop]; rfl
  have f10 : (op.toList == [61, 61]) = false := by rw [hop]; rfl
  have f11 : (op.toList == [33, 61]) = false := by rw [hop]; rfl
  have f12 : (op.toList == [60]) = false := by rw [hop]; rfl
  have f13 : (op.toList == [60, 61]) = false := by rw [hop]; rfl
  have f14 : (op.toList == [62]) = false := by rw [hop]; rfl
  have f15 : (op.toList == [62, 61]) = true := by rw [hop]; rfl
  clear hop
  go_enter Try.func70, Try.ntmps70
  go_wp2
  all_goals
    go_ret2
    exact ⟨ret_two (by simp [tr, *]) rfl, rfl⟩
set_option maxHeartbeats 400000 in
theorem op32_none (t a b : Int) (op : ByteArray) (w : World) (f0 : (op.toList == [43]) = false) (f1 : (op.toList == [45]) = false) (f2 : (op.toList == [42]) = false) (f3 : (op.toList == [47]) = false) (f4 : (op.toList == [37]) = false) (f5 : (op.toList == [38]) = false) (f6 : (op.toList == [124]) = false) (f7 : (op.toList == [94]) = false) (f8 : (op.toList == [60, 60]) = false) (f9 : (op.toList == [62, 62]) = false) (f10 : (op.toList == [61, 61]) = false) (f11 : (op.toList == [33, 61]) = false) (f12 : (op.toList == [60]) = false) (f13 : (op.toList == [60, 61]) = false) (f14 : (op.toList == [62]) = false) (f15 : (op.toList == [62, 61]) = false) :
    Calls Try.prog 70 #[.int .i64 t, .string op, .int .i32 a, .int .i32 b] w fun e w' => e = .returned (.tuple #[.int .i64 0, .int .i64 0]) ∧ w = w' := by
  go_enter Try.func70, Try.ntmps70
  go_wp2
  go_ret2
  exact ⟨rfl, rfl⟩
set_option maxHeartbeats 400000 in
theorem op64_add (t a b : Int) (op : ByteArray) (w : World) (hop : op.toList = [43]) :
    Calls Try.prog 71 #[.int .i64 t, .string op, .int .i64 a, .int .i64 b] w fun e w' => e = .returned (.tuple #[.int .i64 (wrap64 (a + b)), .int .i64 0]) ∧ w = w' := by
  have f0 : (op.toList == [43]) = true := by rw [hop]; rfl
  have f1 : (op.toList == [45]) = false := by rw [hop]; rfl
  have f2 : (op.toList == [42]) = false := by rw [hop]; rfl
  have f3 : (op.toList == [47]) = false := by rw [hop]; rfl
  have f4 : (op.toList == [37]) = false := by rw [hop]; rfl
  have f5 : (op.toList == [38]) = false := by rw [hop]; rfl
  have f6 : (op.toList == [124]) = false := by rw [hop]; rfl
  have f7 : (op.toList == [94]) = false := by rw [hop]; rfl
  have f8 : (op.toList == [60, 60]) = false := by rw [hop]; rfl
  have f9 : (op.toList == [62, 62]) = false := by rw [hop]; rfl
  have f10 : (op.toList == [61, 61]) = false := by rw [hop]; rfl
  have f11 : (op.toList == [33, 61]) = false := by rw [hop]; rfl
  have f12 : (op.toList == [60]) = false := by rw [hop]; rfl
  have f13 : (op.toList == [60, 61]) = false := by rw [hop]; rfl
  have f14 : (op.toList == [62]) = false := by rw [hop]; rfl
  have f15 : (op.toList == [62, 61]) = false := by rw [hop]; rfl
  clear hop
  go_enter Try.func71, Try.ntmps71
  go_wp2
  all_goals
    go_ret2
    exact ⟨ret_two (rfl) rfl, rfl⟩
set_option maxHeartbeats 400000 in
theorem op64_sub (t a b : Int) (op : ByteArray) (w : World) (hop : op.toList = [45]) :
    Calls Try.prog 71 #[.int .i64 t, .string op, .int .i64 a, .int .i64 b] w fun e w' => e = .returned (.tuple #[.int .i64 (wrap64 (a - b)), .int .i64 0]) ∧ w = w' := by
  have f0 : (op.toList == [43]) = false := by rw [hop]; rfl
  have f1 : (op.toList == [45]) = true := by rw [hop]; rfl
  have f2 : (op.toList == [42]) = false := by rw [hop]; rfl
  have f3 : (op.toList == [47]) = false := by rw [hop]; rfl
  have f4 : (op.toList == [37]) = false := by rw [hop]; rfl
  have f5 : (op.toList == [38]) = false := by rw [hop]; rfl
  have f6 : (op.toList == [124]) = false := by rw [hop]; rfl
  have f7 : (op.toList == [94]) = false := by rw [hop]; rfl
  have f8 : (op.toList == [60, 60]) = false := by rw [hop]; rfl
  have f9 : (op.toList == [62, 62]) = false := by rw [hop]; rfl
  have f10 : (op.toList == [61, 61]) = false := by rw [hop]; rfl
  have f11 : (op.toList == [33, 61]) = false := by rw [hop]; rfl
  have f12 : (op.toList == [60]) = false := by rw [hop]; rfl
  have f13 : (op.toList == [60, 61]) = false := by rw [hop]; rfl
  have f14 : (op.toList == [62]) = false := by rw [hop]; rfl
  have f15 : (op.toList == [62, 61]) = false := by rw [hop]; rfl
  clear hop
  go_enter Try.func71, Try.ntmps71
  go_wp2
  all_goals
    go_ret2
    exact ⟨ret_two (rfl) rfl, rfl⟩
set_option maxHeartbeats 400000 in
theorem op64_mul (t a b : Int) (op : ByteArray) (w : World) (hop : op.toList = [42]) :
    Calls Try.prog 71 #[.int .i64 t, .string op, .int .i64 a, .int .i64 b] w fun e w' => e = .returned (.tuple #[.int .i64 (wrap64 (a * b)), .int .i64 0]) ∧ w = w' := by
  have f0 : (op.toList == [43]) = false := by rw [hop]; rfl
  have f1 : (op.toList == [45]) = false := by rw [hop]; rfl
  have f2 : (op.toList == [42]) = true := by rw [hop]; rfl
  have f3 : (op.toList == [47]) = false := by rw [hop]; rfl
  have f4 : (op.toList == [37]) = false := by rw [hop]; rfl
  have f5 : (op.toList == [38]) = false := by rw [hop]; rfl
  have f6 : (op.toList == [124]) = false := by rw [hop]; rfl
  have f7 : (op.toList == [94]) = false := by rw [hop]; rfl
  have f8 : (op.toList == [60, 60]) = false := by rw [hop]; rfl
  have f9 : (op.toList == [62, 62]) = false := by rw [hop]; rfl
  have f10 : (op.toList == [61, 61]) = false := by rw [hop]; rfl
  have f11 : (op.toList == [33, 61]) = false := by rw [hop]; rfl
  have f12 : (op.toList == [60]) = false := by rw [hop]; rfl
  have f13 : (op.toList == [60, 61]) = false := by rw [hop]; rfl
  have f14 : (op.toList == [62]) = false := by rw [hop]; rfl
  have f15 : (op.toList == [62, 61]) = false := by rw [hop]; rfl
  clear hop
  go_enter Try.func71, Try.ntmps71
  go_wp2
  all_goals
    go_ret2
    exact ⟨ret_two (rfl) rfl, rfl⟩
set_option maxHeartbeats 400000 in
theorem op64_div0 (t a : Int) (op : ByteArray) (w : World) (hop : op.toList = [47]) :
    Calls Try.prog 71 #[.int .i64 t, .string op, .int .i64 a, .int .i64 0] w fun e w' => e = .returned (.tuple #[.int .i64 (0), .int .i64 1]) ∧ w = w' := by
  have f0 : (op.toList == [43]) = false := by rw [hop]; rfl
  have f1 : (op.toList == [45]) = false := by rw [hop]; rfl
  have f2 : (op.toList == [42]) = false := by rw [hop]; rfl
  have f3 : (op.toList == [47]) = true := by rw [hop]; rfl
  have f4 : (op.toList == [37]) = false := by rw [hop]; rfl
  have f5 : (op.toList == [38]) = false := by rw [hop]; rfl
  have f6 : (op.toList == [124]) = false := by rw [hop]; rfl
  have f7 : (op.toList == [94]) = false := by rw [hop]; rfl
  have f8 : (op.toList == [60, 60]) = false := by rw [hop]; rfl
  have f9 : (op.toList == [62, 62]) = false := by rw [hop]; rfl
  have f10 : (op.toList == [61, 61]) = false := by rw [hop]; rfl
  have f11 : (op.toList == [33, 61]) = false := by rw [hop]; rfl
  have f12 : (op.toList == [60]) = false := by rw [hop]; rfl
  have f13 : (op.toList == [60, 61]) = false := by rw [hop]; rfl
  have f14 : (op.toList == [62]) = false := by rw [hop]; rfl
  have f15 : (op.toList == [62, 61]) = false := by rw [hop]; rfl
  clear hop
  go_enter Try.func71, Try.ntmps71
  go_wp2
  all_goals
    go_ret2
    exact ⟨rfl, rfl⟩
set_option maxHeartbeats 400000 in
theorem op64_divo (t : Int) (op : ByteArray) (w : World) (hop : op.toList = [47]) :
    Calls Try.prog 71 #[.int .i64 t, .string op, .int .i64 (-9223372036854775808), .int .i64 (-1)] w fun e w' => e = .returned (.tuple #[.int .i64 (0), .int .i64 2]) ∧ w = w' := by
  have f0 : (op.toList == [43]) = false := by rw [hop]; rfl
  have f1 : (op.toList == [45]) = false := by rw [hop]; rfl
  have f2 : (op.toList == [42]) = false := by rw [hop]; rfl
  have f3 : (op.toList == [47]) = true := by rw [hop]; rfl
  have f4 : (op.toList == [37]) = false := by rw [hop]; rfl
  have f5 : (op.toList == [38]) = false := by rw [hop]; rfl
  have f6 : (op.toList == [124]) = false := by rw [hop]; rfl
  have f7 : (op.toList == [94]) = false := by rw [hop]; rfl
  have f8 : (op.toList == [60, 60]) = false := by rw [hop]; rfl
  have f9 : (op.toList == [62, 62]) = false := by rw [hop]; rfl
  have f10 : (op.toList == [61, 61]) = false := by rw [hop]; rfl
  have f11 : (op.toList == [33, 61]) = false := by rw [hop]; rfl
  have f12 : (op.toList == [60]) = false := by rw [hop]; rfl
  have f13 : (op.toList == [60, 61]) = false := by rw [hop]; rfl
  have f14 : (op.toList == [62]) = false := by rw [hop]; rfl
  have f15 : (op.toList == [62, 61]) = false := by rw [hop]; rfl
  have hm : decide (wrap64 9223372036854775808 < 0) = true := by unfold wrap64; decide
  clear hop
  go_enter Try.func71, Try.ntmps71
  go_wp2
  all_goals
    go_ret2
    exact ⟨rfl, rfl⟩
set_option maxHeartbeats 400000 in
theorem op64_div1 (t a : Int) (op : ByteArray) (w : World) (hop : op.toList = [47]) (ha1 : -9223372036854775808 < a) (ha2 : a ≤ 9223372036854775807) :
    Calls Try.prog 71 #[.int .i64 t, .string op, .int .i64 a, .int .i64 (-1)] w fun e w' => e = .returned (.tuple #[.int .i64 (-a), .int .i64 0]) ∧ w = w' := by
  have f0 : (op.toList == [43]) = false := by rw [hop]; rfl
  have f1 : (op.toList == [45]) = false := by rw [hop]; rfl
  have f2 : (op.toList == [42]) = false := by rw [hop]; rfl
  have f3 : (op.toList == [47]) = true := by rw [hop]; rfl
  have f4 : (op.toList == [37]) = false := by rw [hop]; rfl
  have f5 : (op.toList == [38]) = false := by rw [hop]; rfl
  have f6 : (op.toList == [124]) = false := by rw [hop]; rfl
  have f7 : (op.toList == [94]) = false := by rw [hop]; rfl
  have f8 : (op.toList == [60, 60]) = false := by rw [hop]; rfl
  have f9 : (op.toList == [62, 62]) = false := by rw [hop]; rfl
  have f10 : (op.toList == [61, 61]) = false := by rw [hop]; rfl
  have f11 : (op.toList == [33, 61]) = false := by rw [hop]; rfl
  have f12 : (op.toList == [60]) = false := by rw [hop]; rfl
  have f13 : (op.toList == [60, 61]) = false := by rw [hop]; rfl
  have f14 : (op.toList == [62]) = false := by rw [hop]; rfl
  have f15 : (op.toList == [62, 61]) = false := by rw [hop]; rfl
  clear hop
  go_enter Try.func71, Try.ntmps71
  go_wp2
  all_goals
    go_ret2
    exact ⟨rfl, rfl⟩
set_option maxHeartbeats 400000 in
theorem op64_div (t a b : Int) (op : ByteArray) (w : World) (hop : op.toList = [47]) (ha1 : -9223372036854775808 ≤ a) (ha2 : a ≤ 9223372036854775807) (hb1 : -9223372036854775808 ≤ b) (hb2 : b ≤ 9223372036854775807) (h0 : (b == 0) = false) (h1 : (b == -1) = false) :
    Calls Try.prog 71 #[.int .i64 t, .string op, .int .i64 a, .int .i64 b] w fun e w' => e = .returned (.tuple #[.int .i64 (a.tdiv b), .int .i64 0]) ∧ w = w' := by
  have f0 : (op.toList == [43]) = false := by rw [hop]; rfl
  have f1 : (op.toList == [45]) = false := by rw [hop]; rfl
  have f2 : (op.toList == [42]) = false := by rw [hop]; rfl
  have f3 : (op.toList == [47]) = true := by rw [hop]; rfl
  have f4 : (op.toList == [37]) = false := by rw [hop]; rfl
  have f5 : (op.toList == [38]) = false := by rw [hop]; rfl
  have f6 : (op.toList == [124]) = false := by rw [hop]; rfl
  have f7 : (op.toList == [94]) = false := by rw [hop]; rfl
  have f8 : (op.toList == [60, 60]) = false := by rw [hop]; rfl
  have f9 : (op.toList == [62, 62]) = false := by rw [hop]; rfl
  have f10 : (op.toList == [61, 61]) = false := by rw [hop]; rfl
  have f11 : (op.toList == [33, 61]) = false := by rw [hop]; rfl
  have f12 : (op.toList == [60]) = false := by rw [hop]; rfl
  have f13 : (op.toList == [60, 61]) = false := by rw [hop]; rfl
  have f14 : (op.toList == [62]) = false := by rw [hop]; rfl
  have f15 : (op.toList == [62, 61]) = false := by rw [hop]; rfl
  have hz : ¬ b = 0 := by simpa using h0
  clear hop
  go_enter Try.func71, Try.ntmps71
  go_wp2
  all_goals
    go_ret2
    exact ⟨ret_two (w64_id (by have := tdiv_bd 9223372036854775808 a b ha1 ha2 hz (fun e => by simp [e.2] at h1) (by decide); omega)) rfl, rfl⟩
set_option maxHeartbeats 400000 in
theorem op64_rem0 (t a : Int) (op : ByteArray) (w : World) (hop : op.toList = [37]) :
    Calls Try.prog 71 #[.int .i64 t, .string op, .int .i64 a, .int .i64 0] w fun e w' => e = .returned (.tuple #[.int .i64 (0), .int .i64 1]) ∧ w = w' := by
  have f0 : (op.toList == [43]) = false := by rw [hop]; rfl
  have f1 : (op.toList == [45]) = false := by rw [hop]; rfl
  have f2 : (op.toList == [42]) = false := by rw [hop]; rfl
  have f3 : (op.toList == [47]) = false := by rw [hop]; rfl
  have f4 : (op.toList == [37]) = true := by rw [hop]; rfl
  have f5 : (op.toList == [38]) = false := by rw [hop]; rfl
  have f6 : (op.toList == [124]) = false := by rw [hop]; rfl
  have f7 : (op.toList == [94]) = false := by rw [hop]; rfl
  have f8 : (op.toList == [60, 60]) = false := by rw [hop]; rfl
  have f9 : (op.toList == [62, 62]) = false := by rw [hop]; rfl
  have f10 : (op.toList == [61, 61]) = false := by rw [hop]; rfl
  have f11 : (op.toList == [33, 61]) = false := by rw [hop]; rfl
  have f12 : (op.toList == [60]) = false := by rw [hop]; rfl
  have f13 : (op.toList == [60, 61]) = false := by rw [hop]; rfl
  have f14 : (op.toList == [62]) = false := by rw [hop]; rfl
  have f15 : (op.toList == [62, 61]) = false := by rw [hop]; rfl
  clear hop
  go_enter Try.func71, Try.ntmps71
  go_wp2
  all_goals
    go_ret2
    exact ⟨rfl, rfl⟩
set_option maxHeartbeats 400000 in
theorem op64_rem (t a b : Int) (op : ByteArray) (w : World) (hop : op.toList = [37]) (ha1 : -9223372036854775808 ≤ a) (ha2 : a ≤ 9223372036854775807) (hb1 : -9223372036854775808 ≤ b) (hb2 : b ≤ 9223372036854775807) (h0 : (b == 0) = false) :
    Calls Try.prog 71 #[.int .i64 t, .string op, .int .i64 a, .int .i64 b] w fun e w' => e = .returned (.tuple #[.int .i64 (a.tmod b), .int .i64 0]) ∧ w = w' := by
  have f0 : (op.toList == [43]) = false := by rw [hop]; rfl
  have f1 : (op.toList == [45]) = false := by rw [hop]; rfl
  have f2 : (op.toList == [42]) = false := by rw [hop]; rfl
  have f3 : (op.toList == [47]) = false := by rw [hop]; rfl
  have f4 : (op.toList == [37]) = true := by rw [hop]; rfl
  have f5 : (op.toList == [38]) = false := by rw [hop]; rfl
  have f6 : (op.toList == [124]) = false := by rw [hop]; rfl
  have f7 : (op.toList == [94]) = false := by rw [hop]; rfl
  have f8 : (op.toList == [60, 60]) = false := by rw [hop]; rfl
  have f9 : (op.toList == [62, 62]) = false := by rw [hop]; rfl
  have f10 : (op.toList == [61, 61]) = false := by rw [hop]; rfl
  have f11 : (op.toList == [33, 61]) = false := by rw [hop]; rfl
  have f12 : (op.toList == [60]) = false := by rw [hop]; rfl
  have f13 : (op.toList == [60, 61]) = false := by rw [hop]; rfl
  have f14 : (op.toList == [62]) = false := by rw [hop]; rfl
  have f15 : (op.toList == [62, 61]) = false := by rw [hop]; rfl
  have hz : ¬ b = 0 := by simpa using h0
  clear hop
  go_enter Try.func71, Try.ntmps71
  go_wp2
  all_goals
    go_ret2
    exact ⟨rfl, rfl⟩
set_option maxHeartbeats 400000 in
theorem op64_and (t a b : Int) (op : ByteArray) (w : World) (hop : op.toList = [38]) :
    Calls Try.prog 71 #[.int .i64 t, .string op, .int .i64 a, .int .i64 b] w fun e w' => e = .returned (.tuple #[.int .i64 (bits .and .i64 a b), .int .i64 0]) ∧ w = w' := by
  have f0 : (op.toList == [43]) = false := by rw [hop]; rfl
  have f1 : (op.toList == [45]) = false := by rw [hop]; rfl
  have f2 : (op.toList == [42]) = false := by rw [hop]; rfl
  have f3 : (op.toList == [47]) = false := by rw [hop]; rfl
  have f4 : (op.toList == [37]) = false := by rw [hop]; rfl
  have f5 : (op.toList == [38]) = true := by rw [hop]; rfl
  have f6 : (op.toList == [124]) = false := by rw [hop]; rfl
  have f7 : (op.toList == [94]) = false := by rw [hop]; rfl
  have f8 : (op.toList == [60, 60]) = false := by rw [hop]; rfl
  have f9 : (op.toList == [62, 62]) = false := by rw [hop]; rfl
  have f10 : (op.toList == [61, 61]) = false := by rw [hop]; rfl
  have f11 : (op.toList == [33, 61]) = false := by rw [hop]; rfl
  have f12 : (op.toList == [60]) = false := by rw [hop]; rfl
  have f13 : (op.toList == [60, 61]) = false := by rw [hop]; rfl
  have f14 : (op.toList == [62]) = false := by rw [hop]; rfl
  have f15 : (op.toList == [62, 61]) = false := by rw [hop]; rfl
  clear hop
  go_enter Try.func71, Try.ntmps71
  go_wp2
  all_goals
    go_ret2
    exact ⟨ret_two (rfl) rfl, rfl⟩
set_option maxHeartbeats 400000 in
theorem op64_or (t a b : Int) (op : ByteArray) (w : World) (hop : op.toList = [124]) :
    Calls Try.prog 71 #[.int .i64 t, .string op, .int .i64 a, .int .i64 b] w fun e w' => e = .returned (.tuple #[.int .i64 (bits .or .i64 a b), .int .i64 0]) ∧ w = w' := by
  have f0 : (op.toList == [43]) = false := by rw [hop]; rfl
  have f1 : (op.toList == [45]) = false := by rw [hop]; rfl
  have f2 : (op.toList == [42]) = false := by rw [hop]; rfl
  have f3 : (op.toList == [47]) = false := by rw [hop]; rfl
  have f4 : (op.toList == [37]) = false := by rw [hop]; rfl
  have f5 : (op.toList == [38]) = false := by rw [hop]; rfl
  have f6 : (op.toList == [124]) = true := by rw [hop]; rfl
  have f7 : (op.toList == [94]) = false := by rw [hop]; rfl
  have f8 : (op.toList == [60, 60]) = false := by rw [hop]; rfl
  have f9 : (op.toList == [62, 62]) = false := by rw [hop]; rfl
  have f10 : (op.toList == [61, 61]) = false := by rw [hop]; rfl
  have f11 : (op.toList == [33, 61]) = false := by rw [hop]; rfl
  have f12 : (op.toList == [60]) = false := by rw [hop]; rfl
  have f13 : (op.toList == [60, 61]) = false := by rw [hop]; rfl
  have f14 : (op.toList == [62]) = false := by rw [hop]; rfl
  have f15 : (op.toList == [62, 61]) = false := by rw [hop]; rfl
  clear hop
  go_enter Try.func71, Try.ntmps71
  go_wp2
  all_goals
    go_ret2
    exact ⟨ret_two (rfl) rfl, rfl⟩
set_option maxHeartbeats 400000 in
theorem op64_xor (t a b : Int) (op : ByteArray) (w : World) (hop : op.toList = [94]) :
    Calls Try.prog 71 #[.int .i64 t, .string op, .int .i64 a, .int .i64 b] w fun e w' => e = .returned (.tuple #[.int .i64 (bits .xor .i64 a b), .int .i64 0]) ∧ w = w' := by
  have f0 : (op.toList == [43]) = false := by rw [hop]; rfl
  have f1 : (op.toList == [45]) = false := by rw [hop]; rfl
  have f2 : (op.toList == [42]) = false := by rw [hop]; rfl
  have f3 : (op.toList == [47]) = false := by rw [hop]; rfl
  have f4 : (op.toList == [37]) = false := by rw [hop]; rfl
  have f5 : (op.toList == [38]) = false := by rw [hop]; rfl
  have f6 : (op.toList == [124]) = false := by rw [hop]; rfl
  have f7 : (op.toList == [94]) = true := by rw [hop]; rfl
  have f8 : (op.toList == [60, 60]) = false := by rw [hop]; rfl
  have f9 : (op.toList == [62, 62]) = false := by rw [hop]; rfl
  have f10 : (op.toList == [61, 61]) = false := by rw [hop]; rfl
  have f11 : (op.toList == [33, 61]) = false := by rw [hop]; rfl
  have f12 : (op.toList == [60]) = false := by rw [hop]; rfl
  have f13 : (op.toList == [60, 61]) = false := by rw [hop]; rfl
  have f14 : (op.toList == [62]) = false := by rw [hop]; rfl
  have f15 : (op.toList == [62, 61]) = false := by rw [hop]; rfl
  clear hop
  go_enter Try.func71, Try.ntmps71
  go_wp2
  all_goals
    go_ret2
    exact ⟨ret_two (rfl) rfl, rfl⟩
set_option maxHeartbeats 400000 in
theorem op64_shl (a b : Int) (op : ByteArray) (w : World) (hop : op.toList = [60, 60]) (n : Nat) (hn : b % 64 = (n : Int)) (ha1 : -9223372036854775808 ≤ a) (ha2 : a ≤ 9223372036854775807) (hb1 : -9223372036854775808 ≤ b) (hb2 : b ≤ 9223372036854775807) :
    Calls Try.prog 71 #[.int .i64 2, .string op, .int .i64 a, .int .i64 b] w fun e w' => e = .returned (.tuple #[.int .i64 (wrap64 (a * 2 ^ n)), .int .i64 0]) ∧ Below w.heap.size w w' := by
  have hlt : n < 64 := by omega
  have HN := Lib.hid hn
  clear hn
  have f0 : (op.toList == [43]) = false := by rw [hop]; rfl
  have f1 : (op.toList == [45]) = false := by rw [hop]; rfl
  have f2 : (op.toList == [42]) = false := by rw [hop]; rfl
  have f3 : (op.toList == [47]) = false := by rw [hop]; rfl
  have f4 : (op.toList == [37]) = false := by rw [hop]; rfl
  have f5 : (op.toList == [38]) = false := by rw [hop]; rfl
  have f6 : (op.toList == [124]) = false := by rw [hop]; rfl
  have f7 : (op.toList == [94]) = false := by rw [hop]; rfl
  have f8 : (op.toList == [60, 60]) = true := by rw [hop]; rfl
  have f9 : (op.toList == [62, 62]) = false := by rw [hop]; rfl
  have f10 : (op.toList == [61, 61]) = false := by rw [hop]; rfl
  have f11 : (op.toList == [33, 61]) = false := by rw [hop]; rfl
  have f12 : (op.toList == [60]) = false := by rw [hop]; rfl
  have f13 : (op.toList == [60, 61]) = false := by rw [hop]; rfl
  have f14 : (op.toList == [62]) = false := by rw [hop]; rfl
  have f15 : (op.toList == [62, 61]) = false := by rw [hop]; rfl
  clear hop
  go_enter Try.func71, Try.ntmps71
  go_wp2_with (first | (go_at_call 75; refine (count_2 b n _ HN.out).mono ?_; rintro e w1 ⟨rfl, hb⟩) | go_in)
  all_goals
    go_ret2
    exact ⟨rfl, hb⟩
set_option maxHeartbeats 400000 in
theorem op64_shr (a b : Int) (op : ByteArray) (w : World) (hop : op.toList = [62, 62]) (n : Nat) (hn : b % 64 = (n : Int)) (ha1 : -9223372036854775808 ≤ a) (ha2 : a ≤ 9223372036854775807) (hb1 : -9223372036854775808 ≤ b) (hb2 : b ≤ 9223372036854775807) :
    Calls Try.prog 71 #[.int .i64 2, .string op, .int .i64 a, .int .i64 b] w fun e w' => e = .returned (.tuple #[.int .i64 (a / 2 ^ n), .int .i64 0]) ∧ Below w.heap.size w w' := by
  have hlt : n < 64 := by omega
  have HN := Lib.hid hn
  clear hn
  have f0 : (op.toList == [43]) = false := by rw [hop]; rfl
  have f1 : (op.toList == [45]) = false := by rw [hop]; rfl
  have f2 : (op.toList == [42]) = false := by rw [hop]; rfl
  have f3 : (op.toList == [47]) = false := by rw [hop]; rfl
  have f4 : (op.toList == [37]) = false := by rw [hop]; rfl
  have f5 : (op.toList == [38]) = false := by rw [hop]; rfl
  have f6 : (op.toList == [124]) = false := by rw [hop]; rfl
  have f7 : (op.toList == [94]) = false := by rw [hop]; rfl
  have f8 : (op.toList == [60, 60]) = false := by rw [hop]; rfl
  have f9 : (op.toList == [62, 62]) = true := by rw [hop]; rfl
  have f10 : (op.toList == [61, 61]) = false := by rw [hop]; rfl
  have f11 : (op.toList == [33, 61]) = false := by rw [hop]; rfl
  have f12 : (op.toList == [60]) = false := by rw [hop]; rfl
  have f13 : (op.toList == [60, 61]) = false := by rw [hop]; rfl
  have f14 : (op.toList == [62]) = false := by rw [hop]; rfl
  have f15 : (op.toList == [62, 61]) = false := by rw [hop]; rfl
  clear hop
  go_enter Try.func71, Try.ntmps71
  go_wp2_with (first | (go_at_call 75; refine (count_2 b n _ HN.out).mono ?_; rintro e w1 ⟨rfl, hb⟩) | go_in)
  all_goals
    go_ret2
    exact ⟨rfl, hb⟩
set_option maxHeartbeats 400000 in
theorem op64_eq (t a b : Int) (op : ByteArray) (w : World) (hop : op.toList = [61, 61]) :
    Calls Try.prog 71 #[.int .i64 t, .string op, .int .i64 a, .int .i64 b] w fun e w' => e = .returned (.tuple #[.int .i64 (tr (a == b)), .int .i64 0]) ∧ w = w' := by
  have f0 : (op.toList == [43]) = false := by rw [hop]; rfl
  have f1 : (op.toList == [45]) = false := by rw [hop]; rfl
  have f2 : (op.toList == [42]) = false := by rw [hop]; rfl
  have f3 : (op.toList == [47]) = false := by rw [hop]; rfl
  have f4 : (op.toList == [37]) = false := by rw [hop]; rfl
  have f5 : (op.toList == [38]) = false := by rw [hop]; rfl
  have f6 : (op.toList == [124]) = false := by rw [hop]; rfl
  have f7 : (op.toList == [94]) = false := by rw [hop]; rfl
  have f8 : (op.toList == [60, 60]) = false := by rw [hop]; rfl
  have f9 : (op.toList == [62, 62]) = false := by rw [hop]; rfl
  have f10 : (op.toList == [61, 61]) = true := by rw [hop]; rfl
  have f11 : (op.toList == [33, 61]) = false := by rw [hop]; rfl
  have f12 : (op.toList == [60]) = false := by rw [hop]; rfl
  have f13 : (op.toList == [60, 61]) = false := by rw [hop]; rfl
  have f14 : (op.toList == [62]) = false := by rw [hop]; rfl
  have f15 : (op.toList == [62, 61]) = false := by rw [hop]; rfl
  clear hop
  go_enter Try.func71, Try.ntmps71
  go_wp2
  all_goals
    go_ret2
    exact ⟨ret_two (by simp [tr, *]) rfl, rfl⟩
set_option maxHeartbeats 400000 in
theorem op64_ne (t a b : Int) (op : ByteArray) (w : World) (hop : op.toList = [33, 61]) :
    Calls Try.prog 71 #[.int .i64 t, .string op, .int .i64 a, .int .i64 b] w fun e w' => e = .returned (.tuple #[.int .i64 (tr (a != b)), .int .i64 0]) ∧ w = w' := by
  have f0 : (op.toList == [43]) = false := by rw [hop]; rfl
  have f1 : (op.toList == [45]) = false := by rw [hop]; rfl
  have f2 : (op.toList == [42]) = false := by rw [hop]; rfl
  have f3 : (op.toList == [47]) = false := by rw [hop]; rfl
  have f4 : (op.toList == [37]) = false := by rw [hop]; rfl
  have f5 : (op.toList == [38]) = false := by rw [hop]; rfl
  have f6 : (op.toList == [124]) = false := by rw [hop]; rfl
  have f7 : (op.toList == [94]) = false := by rw [hop]; rfl
  have f8 : (op.toList == [60, 60]) = false := by rw [hop]; rfl
  have f9 : (op.toList == [62, 62]) = false := by rw [hop]; rfl
  have f10 : (op.toList == [61, 61]) = false := by rw [hop]; rfl
  have f11 : (op.toList == [33, 61]) = true := by rw [hop]; rfl
  have f12 : (op.toList == [60]) = false := by rw [hop]; rfl
  have f13 : (op.toList == [60, 61]) = false := by rw [hop]; rfl
  have f14 : (op.toList == [62]) = false := by rw [hop]; rfl
  have f15 : (op.toList == [62, 61]) = false := by rw [hop]; rfl
  clear hop
  go_enter Try.func71, Try.ntmps71
  go_wp2
  all_goals
    go_ret2
    exact ⟨ret_two (by simp [tr, *]) rfl, rfl⟩
set_option maxHeartbeats 400000 in
theorem op64_lt (t a b : Int) (op : ByteArray) (w : World) (hop : op.toList = [60]) :
    Calls Try.prog 71 #[.int .i64 t, .string op, .int .i64 a, .int .i64 b] w fun e w' => e = .returned (.tuple #[.int .i64 (tr (decide (a < b))), .int .i64 0]) ∧ w = w' := by
  have f0 : (op.toList == [43]) = false := by rw [hop]; rfl
  have f1 : (op.toList == [45]) = false := by rw [hop]; rfl
  have f2 : (op.toList == [42]) = false := by rw [hop]; rfl
  have f3 : (op.toList == [47]) = false := by rw [hop]; rfl
  have f4 : (op.toList == [37]) = false := by rw [hop]; rfl
  have f5 : (op.toList == [38]) = false := by rw [hop]; rfl
  have f6 : (op.toList == [124]) = false := by rw [hop]; rfl
  have f7 : (op.toList == [94]) = false := by rw [hop]; rfl
  have f8 : (op.toList == [60, 60]) = false := by rw [hop]; rfl
  have f9 : (op.toList == [62, 62]) = false := by rw [hop]; rfl
  have f10 : (op.toList == [61, 61]) = false := by rw [hop]; rfl
  have f11 : (op.toList == [33, 61]) = false := by rw [hop]; rfl
  have f12 : (op.toList == [60]) = true := by rw [hop]; rfl
  have f13 : (op.toList == [60, 61]) = false := by rw [hop]; rfl
  have f14 : (op.toList == [62]) = false := by rw [hop]; rfl
  have f15 : (op.toList == [62, 61]) = false := by rw [hop]; rfl
  clear hop
  go_enter Try.func71, Try.ntmps71
  go_wp2
  all_goals
    go_ret2
    exact ⟨ret_two (by simp [tr, *]) rfl, rfl⟩
set_option maxHeartbeats 400000 in
theorem op64_le (t a b : Int) (op : ByteArray) (w : World) (hop : op.toList = [60, 61]) :
    Calls Try.prog 71 #[.int .i64 t, .string op, .int .i64 a, .int .i64 b] w fun e w' => e = .returned (.tuple #[.int .i64 (tr (decide (a ≤ b))), .int .i64 0]) ∧ w = w' := by
  have f0 : (op.toList == [43]) = false := by rw [hop]; rfl
  have f1 : (op.toList == [45]) = false := by rw [hop]; rfl
  have f2 : (op.toList == [42]) = false := by rw [hop]; rfl
  have f3 : (op.toList == [47]) = false := by rw [hop]; rfl
  have f4 : (op.toList == [37]) = false := by rw [hop]; rfl
  have f5 : (op.toList == [38]) = false := by rw [hop]; rfl
  have f6 : (op.toList == [124]) = false := by rw [hop]; rfl
  have f7 : (op.toList == [94]) = false := by rw [hop]; rfl
  have f8 : (op.toList == [60, 60]) = false := by rw [hop]; rfl
  have f9 : (op.toList == [62, 62]) = false := by rw [hop]; rfl
  have f10 : (op.toList == [61, 61]) = false := by rw [hop]; rfl
  have f11 : (op.toList == [33, 61]) = false := by rw [hop]; rfl
  have f12 : (op.toList == [60]) = false := by rw [hop]; rfl
  have f13 : (op.toList == [60, 61]) = true := by rw [hop]; rfl
  have f14 : (op.toList == [62]) = false := by rw [hop]; rfl
  have f15 : (op.toList == [62, 61]) = false := by rw [hop]; rfl
  clear hop
  go_enter Try.func71, Try.ntmps71
  go_wp2
  all_goals
    go_ret2
    exact ⟨ret_two (by simp [tr, *]) rfl, rfl⟩
set_option maxHeartbeats 400000 in
theorem op64_gt (t a b : Int) (op : ByteArray) (w : World) (hop : op.toList = [62]) :
    Calls Try.prog 71 #[.int .i64 t, .string op, .int .i64 a, .int .i64 b] w fun e w' => e = .returned (.tuple #[.int .i64 (tr (decide (b < a))), .int .i64 0]) ∧ w = w' := by
  have f0 : (op.toList == [43]) = false := by rw [hop]; rfl
  have f1 : (op.toList == [45]) = false := by rw [hop]; rfl
  have f2 : (op.toList == [42]) = false := by rw [hop]; rfl
  have f3 : (op.toList == [47]) = false := by rw [hop]; rfl
  have f4 : (op.toList == [37]) = false := by rw [hop]; rfl
  have f5 : (op.toList == [38]) = false := by rw [hop]; rfl
  have f6 : (op.toList == [124]) = false := by rw [hop]; rfl
  have f7 : (op.toList == [94]) = false := by rw [hop]; rfl
  have f8 : (op.toList == [60, 60]) = false := by rw [hop]; rfl
  have f9 : (op.toList == [62, 62]) = false := by rw [hop]; rfl
  have f10 : (op.toList == [61, 61]) = false := by rw [hop]; rfl
  have f11 : (op.toList == [33, 61]) = false := by rw [hop]; rfl
  have f12 : (op.toList == [60]) = false := by rw [hop]; rfl
  have f13 : (op.toList == [60, 61]) = false := by rw [hop]; rfl
  have f14 : (op.toList == [62]) = true := by rw [hop]; rfl
  have f15 : (op.toList == [62, 61]) = false := by rw [hop]; rfl
  clear hop
  go_enter Try.func71, Try.ntmps71
  go_wp2
  all_goals
    go_ret2
    exact ⟨ret_two (by simp [tr, *]) rfl, rfl⟩
set_option maxHeartbeats 400000 in
theorem op64_ge (t a b : Int) (op : ByteArray) (w : World) (hop : op.toList = [62, 61]) :
    Calls Try.prog 71 #[.int .i64 t, .string op, .int .i64 a, .int .i64 b] w fun e w' => e = .returned (.tuple #[.int .i64 (tr (decide (b ≤ a))), .int .i64 0]) ∧ w = w' := by
  have f0 : (op.toList == [43]) = false := by rw [hop]; rfl
  have f1 : (op.toList == [45]) = false := by rw [hop]; rfl
  have f2 : (op.toList == [42]) = false := by rw [hop]; rfl
  have f3 : (op.toList == [47]) = false := by rw [hop]; rfl
  have f4 : (op.toList == [37]) = false := by rw [hop]; rfl
  have f5 : (op.toList == [38]) = false := by rw [hop]; rfl
  have f6 : (op.toList == [124]) = false := by rw [hop]; rfl
  have f7 : (op.toList == [94]) = false := by rw [hop]; rfl
  have f8 : (op.toList == [60, 60]) = false := by rw [hop]; rfl
  have f9 : (op.toList == [62, 62]) = false := by rw [hop]; rfl
  have f10 : (op.toList == [61, 61]) = false := by rw [hop]; rfl
  have f11 : (op.toList == [33, 61]) = false := by rw [hop]; rfl
  have f12 : (op.toList == [60]) = false := by rw [hop]; rfl
  have f13 : (op.toList == [60, 61]) = false := by rw [hop]; rfl
  have f14 : (op.toList == [62]) = false := by rw [hop]; rfl
  have f15 : (op.toList == [62, 61]) = true := by rw [hop]; rfl
  clear hop
  go_enter Try.func71, Try.ntmps71
  go_wp2
  all_goals
    go_ret2
    exact ⟨ret_two (by simp [tr, *]) rfl, rfl⟩
set_option maxHeartbeats 400000 in
theorem op64_none (t a b : Int) (op : ByteArray) (w : World) (f0 : (op.toList == [43]) = false) (f1 : (op.toList == [45]) = false) (f2 : (op.toList == [42]) = false) (f3 : (op.toList == [47]) = false) (f4 : (op.toList == [37]) = false) (f5 : (op.toList == [38]) = false) (f6 : (op.toList == [124]) = false) (f7 : (op.toList == [94]) = false) (f8 : (op.toList == [60, 60]) = false) (f9 : (op.toList == [62, 62]) = false) (f10 : (op.toList == [61, 61]) = false) (f11 : (op.toList == [33, 61]) = false) (f12 : (op.toList == [60]) = false) (f13 : (op.toList == [60, 61]) = false) (f14 : (op.toList == [62]) = false) (f15 : (op.toList == [62, 61]) = false) :
    Calls Try.prog 71 #[.int .i64 t, .string op, .int .i64 a, .int .i64 b] w fun e w' => e = .returned (.tuple #[.int .i64 0, .int .i64 0]) ∧ w = w' := by
  go_enter Try.func71, Try.ntmps71
  go_wp2
  go_ret2
  exact ⟨rfl, rfl⟩
end Go.Proofs.Ytgcjfbgfoiekmaa
