/-
  THE WALKS of the document's answer for layer word (mortiseref01), more: divided, shifted, bits.
-/
import Derived.Test.YtfbdoaaicomdjaaRef
namespace Go.Proofs.Ytfbdoaaicomdjaa
open Go.RowKit Go.WideMaps Go.Maps
set_option linter.unusedVariables false
set_option linter.unusedSimpArgs false

theorem rdiv1_div0 (a : Int) (op : ByteArray) (w : World) (hop : op.toList = [47]) :
    Calls Try.prog 23 #[.int .i64 1, .string op, .int .i64 a, .int .i64 0] w fun e w' => e = .returned (.tuple #[.int .i64 (0), .int .i64 1]) ∧ w = w' := by
  have f1 : (op.toList == [37]) = false := by rw [hop]; rfl
  clear hop
  go_enter Try.func23, Try.ntmps23
  go_wp2
  go_ret2
  exact ⟨rfl, rfl⟩
theorem rdiv1_divo (op : ByteArray) (w : World) (hop : op.toList = [47]) :
    Calls Try.prog 23 #[.int .i64 1, .string op, .int .i64 (-2147483648), .int .i64 (-1)] w fun e w' => e = .returned (.tuple #[.int .i64 (0), .int .i64 2]) ∧ w = w' := by
  have f1 : (op.toList == [37]) = false := by rw [hop]; rfl
  clear hop
  have hm : Hid (wr 1 2147483648 = -2147483648) := by show wr 1 2147483648 = -2147483648; rw [wr1_eq]; unfold wrap32; decide
  go_enter Try.func23, Try.ntmps23
  go_wp2_with fail
  refine (rwrap 1 _ _ (by first | decide | exact wrap64_wf _)).mono ?_
  rintro e w' ⟨rfl, rfl⟩
  rw [hm.out]
  go_wp2_with fail
  go_ret2
  exact ⟨rfl, rfl⟩
theorem rdiv1_div1 (a : Int) (op : ByteArray) (w : World) (hop : op.toList = [47]) (ha1 : -2147483648 < a) (ha2 : a ≤ 2147483647) :
    Calls Try.prog 23 #[.int .i64 1, .string op, .int .i64 a, .int .i64 (-1)] w fun e w' => e = .returned (.tuple #[.int .i64 (-a), .int .i64 0]) ∧ w = w' := by
  have f1 : (op.toList == [37]) = false := by rw [hop]; rfl
  clear hop
  obtain ⟨x, HX, hx⟩ : ∃ x, Hid (wr 1 (-a) = x) ∧ ((x == a) = false ∨ (x == a) = true ∧ (a != 0) = false) := by
    refine ⟨_, rfl, ?_⟩
    rw [wr1_eq]
    by_cases h0 : a = 0
    · subst h0; exact Or.inr ⟨by unfold wrap32; decide, by decide⟩
    · left; rw [beq_eq_false_iff_ne]; unfold wrap32; omega
  rcases hx with hx | ⟨hx, hx0⟩
  all_goals
    go_enter Try.func23, Try.ntmps23
    go_wp2_with fail
    refine (rwrap 1 (-a) _ (wf_of (by omega))).mono ?_
    rintro e w' ⟨rfl, rfl⟩
    rw [HX.out]
    go_wp2_with fail
    go_ret2
    exact ⟨rfl, rfl⟩
theorem rdiv1_div (a b : Int) (op : ByteArray) (w : World) (hop : op.toList = [47]) (ha1 : -2147483648 ≤ a) (ha2 : a ≤ 2147483647) (h0 : (b == 0) = false) (h1 : (b == -1) = false) :
    Calls Try.prog 23 #[.int .i64 1, .string op, .int .i64 a, .int .i64 b] w fun e w' => e = .returned (.tuple #[.int .i64 (a.tdiv b), .int .i64 0]) ∧ w = w' := by
  have f1 : (op.toList == [37]) = false := by rw [hop]; rfl
  clear hop
  have hz : ¬ b = 0 := by simpa using h0
  go_enter Try.func23, Try.ntmps23
  go_wp2
  go_ret2
  exact ⟨ret_two (w64_id (by have := tdiv_bd 9223372036854775808 a b (by omega) (by omega) hz (fun e => by simp [e.2] at h1) (by decide); omega)) rfl, rfl⟩
theorem rdiv1_rem0 (a : Int) (op : ByteArray) (w : World) (hop : op.toList = [37]) :
    Calls Try.prog 23 #[.int .i64 1, .string op, .int .i64 a, .int .i64 0] w fun e w' => e = .returned (.tuple #[.int .i64 (0), .int .i64 1]) ∧ w = w' := by
  have f1 : (op.toList == [37]) = true := by rw [hop]; rfl
  clear hop
  go_enter Try.func23, Try.ntmps23
  go_wp2
  go_ret2
  exact ⟨rfl, rfl⟩
theorem rdiv1_rem1 (a : Int) (op : ByteArray) (w : World) (hop : op.toList = [37]) :
    Calls Try.prog 23 #[.int .i64 1, .string op, .int .i64 a, .int .i64 (-1)] w fun e w' => e = .returned (.tuple #[.int .i64 (0), .int .i64 0]) ∧ w = w' := by
  have f1 : (op.toList == [37]) = true := by rw [hop]; rfl
  clear hop
  go_enter Try.func23, Try.ntmps23
  go_wp2
  go_ret2
  exact ⟨rfl, rfl⟩
theorem rdiv1_rem (a b : Int) (op : ByteArray) (w : World) (hop : op.toList = [37]) (ha1 : -2147483648 ≤ a) (ha2 : a ≤ 2147483647) (h0 : (b == 0) = false) (h1 : (b == -1) = false) :
    Calls Try.prog 23 #[.int .i64 1, .string op, .int .i64 a, .int .i64 b] w fun e w' => e = .returned (.tuple #[.int .i64 (a.tmod b), .int .i64 0]) ∧ w = w' := by
  have f1 : (op.toList == [37]) = true := by rw [hop]; rfl
  clear hop
  have hz : ¬ b = 0 := by simpa using h0
  go_enter Try.func23, Try.ntmps23
  go_wp2
  go_ret2
  exact ⟨rfl, rfl⟩
theorem rdiv2_div0 (a : Int) (op : ByteArray) (w : World) (hop : op.toList = [47]) :
    Calls Try.prog 23 #[.int .i64 2, .string op, .int .i64 a, .int .i64 0] w fun e w' => e = .returned (.tuple #[.int .i64 (0), .int .i64 1]) ∧ w = w' := by
  have f1 : (op.toList == [37]) = false := by rw [hop]; rfl
  clear hop
  go_enter Try.func23, Try.ntmps23
  go_wp2
  go_ret2
  exact ⟨rfl, rfl⟩
theorem rdiv2_divo (op : ByteArray) (w : World) (hop : op.toList = [47]) :
    Calls Try.prog 23 #[.int .i64 2, .string op, .int .i64 (-9223372036854775808), .int .i64 (-1)] w fun e w' => e = .returned (.tuple #[.int .i64 (0), .int .i64 2]) ∧ w = w' := by
  have f1 : (op.toList == [37]) = false := by rw [hop]; rfl
  clear hop
  have hm : Hid (wr 2 (wrap64 9223372036854775808) = -9223372036854775808) := by show wr 2 (wrap64 9223372036854775808) = -9223372036854775808; rw [wr2_eq]; unfold wrap64; decide
  go_enter Try.func23, Try.ntmps23
  go_wp2_with fail
  refine (rwrap 2 _ _ (by first | decide | exact wrap64_wf _)).mono ?_
  rintro e w' ⟨rfl, rfl⟩
  rw [hm.out]
  go_wp2_with fail
  go_ret2
  exact ⟨rfl, rfl⟩
theorem rdiv2_div1 (a : Int) (op : ByteArray) (w : World) (hop : op.toList = [47]) (ha1 : -9223372036854775808 < a) (ha2 : a ≤ 9223372036854775807) :
    Calls Try.prog 23 #[.int .i64 2, .string op, .int .i64 a, .int .i64 (-1)] w fun e w' => e = .returned (.tuple #[.int .i64 (-a), .int .i64 0]) ∧ w = w' := by
  have f1 : (op.toList == [37]) = false := by rw [hop]; rfl
  clear hop
  obtain ⟨x, HX, hx⟩ : ∃ x, Hid (wr 2 (-a) = x) ∧ ((x == a) = false ∨ (x == a) = true ∧ (a != 0) = false) := by
    refine ⟨_, rfl, ?_⟩
    rw [wr2_eq]
    by_cases h0 : a = 0
    · subst h0; exact Or.inr ⟨by unfold wrap64; decide, by decide⟩
    · left; rw [beq_eq_false_iff_ne]; unfold wrap64; omega
  rcases hx with hx | ⟨hx, hx0⟩
  all_goals
    go_enter Try.func23, Try.ntmps23
    go_wp2_with fail
    refine (rwrap 2 (-a) _ (wf_of (by omega))).mono ?_
    rintro e w' ⟨rfl, rfl⟩
    rw [HX.out]
    go_wp2_with fail
    go_ret2
    exact ⟨rfl, rfl⟩
theorem rdiv2_div (a b : Int) (op : ByteArray) (w : World) (hop : op.toList = [47]) (ha1 : -9223372036854775808 ≤ a) (ha2 : a ≤ 9223372036854775807) (h0 : (b == 0) = false) (h1 : (b == -1) = false) :
    Calls Try.prog 23 #[.int .i64 2, .string op, .int .i64 a, .int .i64 b] w fun e w' => e = .returned (.tuple #[.int .i64 (a.tdiv b), .int .i64 0]) ∧ w = w' := by
  have f1 : (op.toList == [37]) = false := by rw [hop]; rfl
  clear hop
  have hz : ¬ b = 0 := by simpa using h0
  go_enter Try.func23, Try.ntmps23
  go_wp2
  go_ret2
  exact ⟨ret_two (w64_id (by have := tdiv_bd 9223372036854775808 a b (by omega) (by omega) hz (fun e => by simp [e.2] at h1) (by decide); omega)) rfl, rfl⟩
theorem rdiv2_rem0 (a : Int) (op : ByteArray) (w : World) (hop : op.toList = [37]) :
    Calls Try.prog 23 #[.int .i64 2, .string op, .int .i64 a, .int .i64 0] w fun e w' => e = .returned (.tuple #[.int .i64 (0), .int .i64 1]) ∧ w = w' := by
  have f1 : (op.toList == [37]) = true := by rw [hop]; rfl
  clear hop
  go_enter Try.func23, Try.ntmps23
  go_wp2
  go_ret2
  exact ⟨rfl, rfl⟩
theorem rdiv2_rem1 (a : Int) (op : ByteArray) (w : World) (hop : op.toList = [37]) :
    Calls Try.prog 23 #[.int .i64 2, .string op, .int .i64 a, .int .i64 (-1)] w fun e w' => e = .returned (.tuple #[.int .i64 (0), .int .i64 0]) ∧ w = w' := by
  have f1 : (op.toList == [37]) = true := by rw [hop]; rfl
  clear hop
  go_enter Try.func23, Try.ntmps23
  go_wp2
  go_ret2
  exact ⟨rfl, rfl⟩
theorem rdiv2_rem (a b : Int) (op : ByteArray) (w : World) (hop : op.toList = [37]) (ha1 : -9223372036854775808 ≤ a) (ha2 : a ≤ 9223372036854775807) (h0 : (b == 0) = false) (h1 : (b == -1) = false) :
    Calls Try.prog 23 #[.int .i64 2, .string op, .int .i64 a, .int .i64 b] w fun e w' => e = .returned (.tuple #[.int .i64 (a.tmod b), .int .i64 0]) ∧ w = w' := by
  have f1 : (op.toList == [37]) = true := by rw [hop]; rfl
  clear hop
  have hz : ¬ b = 0 := by simpa using h0
  go_enter Try.func23, Try.ntmps23
  go_wp2
  go_ret2
  exact ⟨rfl, rfl⟩
end Go.Proofs.Ytfbdoaaicomdjaa
