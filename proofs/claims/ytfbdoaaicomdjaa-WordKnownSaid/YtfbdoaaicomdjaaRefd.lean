/-
  THE WALKS of the document's answer for layer word (mortiseref01), more: bits.
-/
import Derived.Test.YtfbdoaaicomdjaaRefc
namespace Go.Proofs.Ytfbdoaaicomdjaa
open Go.RowKit Go.WideMaps Go.Maps
set_option linter.unusedVariables false
set_option linter.unusedSimpArgs false

theorem bitAt_uu (t v : Int) (j : Nat) (ht : t = 1 ∨ t = 2) (hj : j < bw t) : (uu t v).testBit j = bitAt v j := by
  have hb : bitAt v j = (u64 v).testBit j := by unfold bitAt; rw [Nat.testBit_eq_decide_div_mod_eq, Bool.eq_iff_iff]; simp
  rw [hb]
  rcases ht with rfl | rfl
  · have h1 : uu 1 v = u64 v % 2 ^ 32 := by
      have e1 := uu_cast 1 v (Or.inl rfl)
      have e2 : (uu 1 v : Int) = v % 4294967296 := e1
      have e3 : (u64 v : Int) = v % 18446744073709551616 := uu_cast 2 v (Or.inr rfl)
      generalize uu 1 v = x at e2
      generalize u64 v = y at e3
      clear e1
      omega
    have hj' : j < 32 := hj
    rw [h1, Nat.testBit_mod_two_pow]
    simp [hj']
  · rw [uu_2]
theorem bit_step (Z j : Nat) : Z / 2 ^ j = Z / 2 ^ (j + 1) * 2 + (Z.testBit j).toNat := by
  rw [Nat.testBit_eq_decide_div_mod_eq, Nat.pow_succ, ← Nat.div_div_eq_div_mul]
  generalize Z / 2 ^ j = y
  by_cases h : y % 2 = 1
  · simp [h]; omega
  · simp [h]; omega
theorem bit_and (t a b : Int) (j : Nat) (ht : t = 1 ∨ t = 2) (hj : j < bw t) : (uu t a &&& uu t b).testBit j = (bitAt a j && bitAt b j) := by rw [Nat.testBit_and, bitAt_uu t a j ht hj, bitAt_uu t b j ht hj]
theorem bit_or (t a b : Int) (j : Nat) (ht : t = 1 ∨ t = 2) (hj : j < bw t) : (uu t a ||| uu t b).testBit j = (bitAt a j || bitAt b j) := by rw [Nat.testBit_or, bitAt_uu t a j ht hj, bitAt_uu t b j ht hj]
theorem bit_xor (t a b : Int) (j : Nat) (ht : t = 1 ∨ t = 2) (hj : j < bw t) : (uu t a ^^^ uu t b).testBit j = (bitAt a j != bitAt b j) := by rw [Nat.testBit_xor, bitAt_uu t a j ht hj, bitAt_uu t b j ht hj]
theorem bw_le (t : Int) : bw t ≤ 64 := by unfold bw; split <;> omega
theorem lt_64 (t : Int) (n : Nat) (h : n < 2 ^ bw t) : n < 18446744073709551616 := Nat.lt_of_lt_of_le h (Nat.pow_le_pow_right (by decide) (bw_le t))
theorem half_lt (Z j : Nat) (h : Z < 18446744073709551616) : Z / 2 ^ (j + 1) ≤ 9223372036854775807 := by
  rw [Nat.pow_succ, Nat.mul_comm, ← Nat.div_div_eq_div_mul]
  exact Nat.le_trans (Nat.div_le_self _ _) (by omega)
theorem wr_w64 (t x : Int) (ht : t = 1 ∨ t = 2) : wr t (wrap64 x) = wr t x := by
  rcases ht with rfl | rfl
  · rw [wr1_eq, wr1_eq]; unfold wrap32 wrap64; omega
  · rw [wr2_eq, wr2_eq]; unfold wrap64; omega

set_option maxHeartbeats 1000000 in
theorem rbits1_and (a b : Int) (op : ByteArray) (w : World) (hop : op.toList = [38]) :
    Calls Try.prog 24 #[.int .i64 1, .string op, .int .i64 a, .int .i64 b] w fun e w' => e = .returned (.int .i64 (wr 1 ((uu 1 a &&& uu 1 b : Nat) : Int))) ∧ w = w' := by
  have g0 : (op.toList == [38]) = true := by rw [hop]; rfl
  have g1 : (op.toList == [124]) = false := by rw [hop]; rfl
  have g2 : (op.toList == [94]) = false := by rw [hop]; rfl
  clear hop
  obtain ⟨Z, HZ, HB, hZ, HZ0⟩ : ∃ Z, Hid (uu 1 a &&& uu 1 b = Z) ∧ Hid (∀ j, j < 32 → Z.testBit j = ((bitAt a j && bitAt b j))) ∧ Z < 18446744073709551616 ∧ Hid (Z / 2 ^ 32 = 0) :=
    ⟨_, rfl, fun j hj => bit_and 1 a b j (Or.inl rfl) hj, lt_64 1 _ (Nat.and_lt_two_pow _ (uu_lt 1 b (Or.inl rfl))), Nat.div_eq_of_lt (Nat.and_lt_two_pow _ (uu_lt 1 b (Or.inl rfl)))⟩
  rw [HZ.out]
  go_enter Try.func24, Try.ntmps24
  go_wp2_with fail
  refine (rwidth 1 _).mono ?_
  rintro e w' ⟨rfl, rfl⟩
  rw [show wd 1 = 32 from rfl]
  go_wp2_with fail
  go_loop [10, 11] (fun u i => ∃ k : Nat, k ≤ 32 ∧ i = .int .i64 ((k : Int) - 1) ∧ u = .int .u64 ((Z / 2 ^ k : Nat) : Int)) (fun _ i => (intOf i + 1).toNat)
  case atStart => exact ⟨32, by omega, rfl, by rw [HZ0.out]; rfl⟩
  case round =>
    obtain ⟨k, hk, rfl, rfl⟩ := hrel
    cases k with
    | zero =>
      rw [Nat.pow_zero, Nat.div_one]
      go_wp2_with fail
      refine (rwrap 1 _ _ (by first | exact wrap64_wf _ | exact wf_of (by omega))).mono ?_
      rintro e w' ⟨rfl, rfl⟩
      go_wp2_with fail
      go_ret
      exact ⟨ret_int (by first | rfl | rw [wr_w64 1 _ (Or.inl rfl)]), rfl⟩
    | succ j =>
      obtain ⟨U, HU, hU⟩ : ∃ U, Hid (Z / 2 ^ (j + 1) = U) ∧ U ≤ 9223372036854775807 := ⟨_, rfl, half_lt Z j hZ⟩
      have hs := bit_step Z j
      rw [HB.out j (by omega), HU.out] at hs
      have e1 : (((j + 1 : Nat) : Int) - 1) = (j : Int) := by omega
      rw [HU.out, e1]
      clear e1
      obtain ⟨x, HX⟩ : ∃ x, Hid (bitAt a j = x) := ⟨_, rfl⟩
      obtain ⟨y, HY⟩ : ∃ y, Hid (bitAt b j = y) := ⟨_, rfl⟩
      rw [HX.out, HY.out] at hs
      have HS := Lib.hid hs
      clear hs
      have hj64 : j ≤ 64 := by omega
      cases x
      all_goals cases y
      all_goals
        go_wp2_with fail
        refine (rbit a j _ hj64).mono ?_
        rintro e w' ⟨rfl, rfl⟩
        rw [HX.out]
        go_wp2_with fail
        refine (rbit b j _ hj64).mono ?_
        rintro e w' ⟨rfl, rfl⟩
        rw [HY.out]
        go_wp2_with fail
        go_round
        case rel => exact ⟨j, by omega, by first | rfl | go_num, by rw [HS.out]; first | rfl | (simp; done) | (congr 1; simp; omega)⟩
        case measure => simp [intOf]
set_option maxHeartbeats 1000000 in
theorem rbits1_or (a b : Int) (op : ByteArray) (w : World) (hop : op.toList = [124]) :
    Calls Try.prog 24 #[.int .i64 1, .string op, .int .i64 a, .int .i64 b] w fun e w' => e = .returned (.int .i64 (wr 1 ((uu 1 a ||| uu 1 b : Nat) : Int))) ∧ w = w' := by
  have g0 : (op.toList == [38]) = false := by rw [hop]; rfl
  have g1 : (op.toList == [124]) = true := by rw [hop]; rfl
  have g2 : (op.toList == [94]) = false := by rw [hop]; rfl
  clear hop
  obtain ⟨Z, HZ, HB, hZ, HZ0⟩ : ∃ Z, Hid (uu 1 a ||| uu 1 b = Z) ∧ Hid (∀ j, j < 32 → Z.testBit j = ((bitAt a j || bitAt b j))) ∧ Z < 18446744073709551616 ∧ Hid (Z / 2 ^ 32 = 0) :=
    ⟨_, rfl, fun j hj => bit_or 1 a b j (Or.inl rfl) hj, lt_64 1 _ (Nat.or_lt_two_pow (uu_lt 1 a (Or.inl rfl)) (uu_lt 1 b (Or.inl rfl))), Nat.div_eq_of_lt (Nat.or_lt_two_pow (uu_lt 1 a (Or.inl rfl)) (uu_lt 1 b (Or.inl rfl)))⟩
  rw [HZ.out]
  go_enter Try.func24, Try.ntmps24
  go_wp2_with fail
  refine (rwidth 1 _).mono ?_
  rintro e w' ⟨rfl, rfl⟩
  rw [show wd 1 = 32 from rfl]
  go_wp2_with fail
  go_loop [10, 11] (fun u i => ∃ k : Nat, k ≤ 32 ∧ i = .int .i64 ((k : Int) - 1) ∧ u = .int .u64 ((Z / 2 ^ k : Nat) : Int)) (fun _ i => (intOf i + 1).toNat)
  case atStart => exact ⟨32, by omega, rfl, by rw [HZ0.out]; rfl⟩
  case round =>
    obtain ⟨k, hk, rfl, rfl⟩ := hrel
    cases k with
    | zero =>
      rw [Nat.pow_zero, Nat.div_one]
      go_wp2_with fail
      refine (rwrap 1 _ _ (by first | exact wrap64_wf _ | exact wf_of (by omega))).mono ?_
      rintro e w' ⟨rfl, rfl⟩
      go_wp2_with fail
      go_ret
      exact ⟨ret_int (by first | rfl | rw [wr_w64 1 _ (Or.inl rfl)]), rfl⟩
    | succ j =>
      obtain ⟨U, HU, hU⟩ : ∃ U, Hid (Z / 2 ^ (j + 1) = U) ∧ U ≤ 9223372036854775807 := ⟨_, rfl, half_lt Z j hZ⟩
      have hs := bit_step Z j
      rw [HB.out j (by omega), HU.out] at hs
      have e1 : (((j + 1 : Nat) : Int) - 1) = (j : Int) := by omega
      rw [HU.out, e1]
      clear e1
      obtain ⟨x, HX⟩ : ∃ x, Hid (bitAt a j = x) := ⟨_, rfl⟩
      obtain ⟨y, HY⟩ : ∃ y, Hid (bitAt b j = y) := ⟨_, rfl⟩
      rw [HX.out, HY.out] at hs
      have HS := Lib.hid hs
      clear hs
      have hj64 : j ≤ 64 := by omega
      cases x
      all_goals cases y
      all_goals
        go_wp2_with fail
        refine (rbit a j _ hj64).mono ?_
        rintro e w' ⟨rfl, rfl⟩
        rw [HX.out]
        go_wp2_with fail
        refine (rbit b j _ hj64).mono ?_
        rintro e w' ⟨rfl, rfl⟩
        rw [HY.out]
        go_wp2_with fail
        go_round
        case rel => exact ⟨j, by omega, by first | rfl | go_num, by rw [HS.out]; first | rfl | (simp; done) | (congr 1; simp; omega)⟩
        case measure => simp [intOf]
set_option maxHeartbeats 1000000 in
theorem rbits1_xor (a b : Int) (op : ByteArray) (w : World) (hop : op.toList = [94]) :
    Calls Try.prog 24 #[.int .i64 1, .string op, .int .i64 a, .int .i64 b] w fun e w' => e = .returned (.int .i64 (wr 1 ((uu 1 a ^^^ uu 1 b : Nat) : Int))) ∧ w = w' := by
  have g0 : (op.toList == [38]) = false := by rw [hop]; rfl
  have g1 : (op.toList == [124]) = false := by rw [hop]; rfl
  have g2 : (op.toList == [94]) = true := by rw [hop]; rfl
  clear hop
  obtain ⟨Z, HZ, HB, hZ, HZ0⟩ : ∃ Z, Hid (uu 1 a ^^^ uu 1 b = Z) ∧ Hid (∀ j, j < 32 → Z.testBit j = ((bitAt a j != bitAt b j))) ∧ Z < 18446744073709551616 ∧ Hid (Z / 2 ^ 32 = 0) :=
    ⟨_, rfl, fun j hj => bit_xor 1 a b j (Or.inl rfl) hj, lt_64 1 _ (Nat.xor_lt_two_pow (uu_lt 1 a (Or.inl rfl)) (uu_lt 1 b (Or.inl rfl))), Nat.div_eq_of_lt (Nat.xor_lt_two_pow (uu_lt 1 a (Or.inl rfl)) (uu_lt 1 b (Or.inl rfl)))⟩
  rw [HZ.out]
  go_enter Try.func24, Try.ntmps24
  go_wp2_with fail
  refine (rwidth 1 _).mono ?_
  rintro e w' ⟨rfl, rfl⟩
  rw [show wd 1 = 32 from rfl]
  go_wp2_with fail
  go_loop [10, 11] (fun u i => ∃ k : Nat, k ≤ 32 ∧ i = .int .i64 ((k : Int) - 1) ∧ u = .int .u64 ((Z / 2 ^ k : Nat) : Int)) (fun _ i => (intOf i + 1).toNat)
  case atStart => exact ⟨32, by omega, rfl, by rw [HZ0.out]; rfl⟩
  case round =>
    obtain ⟨k, hk, rfl, rfl⟩ := hrel
    cases k with
    | zero =>
      rw [Nat.pow_zero, Nat.div_one]
      go_wp2_with fail
      refine (rwrap 1 _ _ (by first | exact wrap64_wf _ | exact wf_of (by omega))).mono ?_
      rintro e w' ⟨rfl, rfl⟩
      go_wp2_with fail
      go_ret
      exact ⟨ret_int (by first | rfl | rw [wr_w64 1 _ (Or.inl rfl)]), rfl⟩
    | succ j =>
      obtain ⟨U, HU, hU⟩ : ∃ U, Hid (Z / 2 ^ (j + 1) = U) ∧ U ≤ 9223372036854775807 := ⟨_, rfl, half_lt Z j hZ⟩
      have hs := bit_step Z j
      rw [HB.out j (by omega), HU.out] at hs
      have e1 : (((j + 1 : Nat) : Int) - 1) = (j : Int) := by omega
      rw [HU.out, e1]
      clear e1
      obtain ⟨x, HX⟩ : ∃ x, Hid (bitAt a j = x) := ⟨_, rfl⟩
      obtain ⟨y, HY⟩ : ∃ y, Hid (bitAt b j = y) := ⟨_, rfl⟩
      rw [HX.out, HY.out] at hs
      have HS := Lib.hid hs
      clear hs
      have hj64 : j ≤ 64 := by omega
      cases x
      all_goals cases y
      all_goals
        go_wp2_with fail
        refine (rbit a j _ hj64).mono ?_
        rintro e w' ⟨rfl, rfl⟩
        rw [HX.out]
        go_wp2_with fail
        refine (rbit b j _ hj64).mono ?_
        rintro e w' ⟨rfl, rfl⟩
        rw [HY.out]
        go_wp2_with fail
        go_round
        case rel => exact ⟨j, by omega, by first | rfl | go_num, by rw [HS.out]; first | rfl | (simp; done) | (congr 1; simp; omega)⟩
        case measure => simp [intOf]
set_option maxHeartbeats 1000000 in
theorem rbits2_and (a b : Int) (op : ByteArray) (w : World) (hop : op.toList = [38]) :
    Calls Try.prog 24 #[.int .i64 2, .string op, .int .i64 a, .int .i64 b] w fun e w' => e = .returned (.int .i64 (wr 2 ((uu 2 a &&& uu 2 b : Nat) : Int))) ∧ w = w' := by
  have g0 : (op.toList == [38]) = true := by rw [hop]; rfl
  have g1 : (op.toList == [124]) = false := by rw [hop]; rfl
  have g2 : (op.toList == [94]) = false := by rw [hop]; rfl
  clear hop
  obtain ⟨Z, HZ, HB, hZ, HZ0⟩ : ∃ Z, Hid (uu 2 a &&& uu 2 b = Z) ∧ Hid (∀ j, j < 64 → Z.testBit j = ((bitAt a j && bitAt b j))) ∧ Z < 18446744073709551616 ∧ Hid (Z / 2 ^ 64 = 0) :=
    ⟨_, rfl, fun j hj => bit_and 2 a b j (Or.inr rfl) hj, lt_64 2 _ (Nat.and_lt_two_pow _ (uu_lt 2 b (Or.inr rfl))), Nat.div_eq_of_lt (Nat.and_lt_two_pow _ (uu_lt 2 b (Or.inr rfl)))⟩
  rw [HZ.out]
  go_enter Try.func24, Try.ntmps24
  go_wp2_with fail
  refine (rwidth 2 _).mono ?_
  rintro e w' ⟨rfl, rfl⟩
  rw [show wd 2 = 64 from rfl]
  go_wp2_with fail
  go_loop [10, 11] (fun u i => ∃ k : Nat, k ≤ 64 ∧ i = .int .i64 ((k : Int) - 1) ∧ u = .int .u64 ((Z / 2 ^ k : Nat) : Int)) (fun _ i => (intOf i + 1).toNat)
  case atStart => exact ⟨64, by omega, rfl, by rw [HZ0.out]; rfl⟩
  case round =>
    obtain ⟨k, hk, rfl, rfl⟩ := hrel
    cases k with
    | zero =>
      rw [Nat.pow_zero, Nat.div_one]
      go_wp2_with fail
      refine (rwrap 2 _ _ (by first | exact wrap64_wf _ | exact wf_of (by omega))).mono ?_
      rintro e w' ⟨rfl, rfl⟩
      go_wp2_with fail
      go_ret
      exact ⟨ret_int (by first | rfl | rw [wr_w64 2 _ (Or.inr rfl)]), rfl⟩
    | succ j =>
      obtain ⟨U, HU, hU⟩ : ∃ U, Hid (Z / 2 ^ (j + 1) = U) ∧ U ≤ 9223372036854775807 := ⟨_, rfl, half_lt Z j hZ⟩
      have hs := bit_step Z j
      rw [HB.out j (by omega), HU.out] at hs
      have e1 : (((j + 1 : Nat) : Int) - 1) = (j : Int) := by omega
      rw [HU.out, e1]
      clear e1
      obtain ⟨x, HX⟩ : ∃ x, Hid (bitAt a j = x) := ⟨_, rfl⟩
      obtain ⟨y, HY⟩ : ∃ y, Hid (bitAt b j = y) := ⟨_, rfl⟩
      rw [HX.out, HY.out] at hs
      have HS := Lib.hid hs
      clear hs
      have hj64 : j ≤ 64 := by omega
      cases x
      all_goals cases y
      all_goals
        go_wp2_with fail
        refine (rbit a j _ hj64).mono ?_
        rintro e w' ⟨rfl, rfl⟩
        rw [HX.out]
        go_wp2_with fail
        refine (rbit b j _ hj64).mono ?_
        rintro e w' ⟨rfl, rfl⟩
        rw [HY.out]
        go_wp2_with fail
        go_round
        case rel => exact ⟨j, by omega, by first | rfl | go_num, by rw [HS.out]; first | rfl | (simp; done) | (congr 1; simp; omega)⟩
        case measure => simp [intOf]
set_option maxHeartbeats 1000000 in
theorem rbits2_or (a b : Int) (op : ByteArray) (w : World) (hop : op.toList = [124]) :
    Calls Try.prog 24 #[.int .i64 2, .string op, .int .i64 a, .int .i64 b] w fun e w' => e = .returned (.int .i64 (wr 2 ((uu 2 a ||| uu 2 b : Nat) : Int))) ∧ w = w' := by
  have g0 : (op.toList == [38]) = false := by rw [hop]; rfl
  have g1 : (op.toList == [124]) = true := by rw [hop]; rfl
  have g2 : (op.toList == [94]) = false := by rw [hop]; rfl
  clear hop
  obtain ⟨Z, HZ, HB, hZ, HZ0⟩ : ∃ Z, Hid (uu 2 a ||| uu 2 b = Z) ∧ Hid (∀ j, j < 64 → Z.testBit j = ((bitAt a j || bitAt b j))) ∧ Z < 18446744073709551616 ∧ Hid (Z / 2 ^ 64 = 0) :=
    ⟨_, rfl, fun j hj => bit_or 2 a b j (Or.inr rfl) hj, lt_64 2 _ (Nat.or_lt_two_pow (uu_lt 2 a (Or.inr rfl)) (uu_lt 2 b (Or.inr rfl))), Nat.div_eq_of_lt (Nat.or_lt_two_pow (uu_lt 2 a (Or.inr rfl)) (uu_lt 2 b (Or.inr rfl)))⟩
  rw [HZ.out]
  go_enter Try.func24, Try.ntmps24
  go_wp2_with fail
  refine (rwidth 2 _).mono ?_
  rintro e w' ⟨rfl, rfl⟩
  rw [show wd 2 = 64 from rfl]
  go_wp2_with fail
  go_loop [10, 11] (fun u i => ∃ k : Nat, k ≤ 64 ∧ i = .int .i64 ((k : Int) - 1) ∧ u = .int .u64 ((Z / 2 ^ k : Nat) : Int)) (fun _ i => (intOf i + 1).toNat)
  case atStart => exact ⟨64, by omega, rfl, by rw [HZ0.out]; rfl⟩
  case round =>
    obtain ⟨k, hk, rfl, rfl⟩ := hrel
    cases k with
    | zero =>
      rw [Nat.pow_zero, Nat.div_one]
      go_wp2_with fail
      refine (rwrap 2 _ _ (by first | exact wrap64_wf _ | exact wf_of (by omega))).mono ?_
      rintro e w' ⟨rfl, rfl⟩
      go_wp2_with fail
      go_ret
      exact ⟨ret_int (by first | rfl | rw [wr_w64 2 _ (Or.inr rfl)]), rfl⟩
    | succ j =>
      obtain ⟨U, HU, hU⟩ : ∃ U, Hid (Z / 2 ^ (j + 1) = U) ∧ U ≤ 9223372036854775807 := ⟨_, rfl, half_lt Z j hZ⟩
      have hs := bit_step Z j
      rw [HB.out j (by omega), HU.out] at hs
      have e1 : (((j + 1 : Nat) : Int) - 1) = (j : Int) := by omega
      rw [HU.out, e1]
      clear e1
      obtain ⟨x, HX⟩ : ∃ x, Hid (bitAt a j = x) := ⟨_, rfl⟩
      obtain ⟨y, HY⟩ : ∃ y, Hid (bitAt b j = y) := ⟨_, rfl⟩
      rw [HX.out, HY.out] at hs
      have HS := Lib.hid hs
      clear hs
      have hj64 : j ≤ 64 := by omega
      cases x
      all_goals cases y
      all_goals
        go_wp2_with fail
        refine (rbit a j _ hj64).mono ?_
        rintro e w' ⟨rfl, rfl⟩
        rw [HX.out]
        go_wp2_with fail
        refine (rbit b j _ hj64).mono ?_
        rintro e w' ⟨rfl, rfl⟩
        rw [HY.out]
        go_wp2_with fail
        go_round
        case rel => exact ⟨j, by omega, by first | rfl | go_num, by rw [HS.out]; first | rfl | (simp; done) | (congr 1; simp; omega)⟩
        case measure => simp [intOf]
set_option maxHeartbeats 1000000 in
theorem rbits2_xor (a b : Int) (op : ByteArray) (w : World) (hop : op.toList = [94]) :
    Calls Try.prog 24 #[.int .i64 2, .string op, .int .i64 a, .int .i64 b] w fun e w' => e = .returned (.int .i64 (wr 2 ((uu 2 a ^^^ uu 2 b : Nat) : Int))) ∧ w = w' := by
  have g0 : (op.toList == [38]) = false := by rw [hop]; rfl
  have g1 : (op.toList == [124]) = false := by rw [hop]; rfl
  have g2 : (op.toList == [94]) = true := by rw [hop]; rfl
  clear hop
  obtain ⟨Z, HZ, HB, hZ, HZ0⟩ : ∃ Z, Hid (uu 2 a ^^^ uu 2 b = Z) ∧ Hid (∀ j, j < 64 → Z.testBit j = ((bitAt a j != bitAt b j))) ∧ Z < 18446744073709551616 ∧ Hid (Z / 2 ^ 64 = 0) :=
    ⟨_, rfl, fun j hj => bit_xor 2 a b j (Or.inr rfl) hj, lt_64 2 _ (Nat.xor_lt_two_pow (uu_lt 2 a (Or.inr rfl)) (uu_lt 2 b (Or.inr rfl))), Nat.div_eq_of_lt (Nat.xor_lt_two_pow (uu_lt 2 a (Or.inr rfl)) (uu_lt 2 b (Or.inr rfl)))⟩
  rw [HZ.out]
  go_enter Try.func24, Try.ntmps24
  go_wp2_with fail
  refine (rwidth 2 _).mono ?_
  rintro e w' ⟨rfl, rfl⟩
  rw [show wd 2 = 64 from rfl]
  go_wp2_with fail
  go_loop [10, 11] (fun u i => ∃ k : Nat, k ≤ 64 ∧ i = .int .i64 ((k : Int) - 1) ∧ u = .int .u64 ((Z / 2 ^ k : Nat) : Int)) (fun _ i => (intOf i + 1).toNat)
  case atStart => exact ⟨64, by omega, rfl, by rw [HZ0.out]; rfl⟩
  case round =>
    obtain ⟨k, hk, rfl, rfl⟩ := hrel
    cases k with
    | zero =>
      rw [Nat.pow_zero, Nat.div_one]
      go_wp2_with fail
      refine (rwrap 2 _ _ (by first | exact wrap64_wf _ | exact wf_of (by omega))).mono ?_
      rintro e w' ⟨rfl, rfl⟩
      go_wp2_with fail
      go_ret
      exact ⟨ret_int (by first | rfl | rw [wr_w64 2 _ (Or.inr rfl)]), rfl⟩
    | succ j =>
      obtain ⟨U, HU, hU⟩ : ∃ U, Hid (Z / 2 ^ (j + 1) = U) ∧ U ≤ 9223372036854775807 := ⟨_, rfl, half_lt Z j hZ⟩
      have hs := bit_step Z j
      rw [HB.out j (by omega), HU.out] at hs
      have e1 : (((j + 1 : Nat) : Int) - 1) = (j : Int) := by omega
      rw [HU.out, e1]
      clear e1
      obtain ⟨x, HX⟩ : ∃ x, Hid (bitAt a j = x) := ⟨_, rfl⟩
      obtain ⟨y, HY⟩ : ∃ y, Hid (bitAt b j = y) := ⟨_, rfl⟩
      rw [HX.out, HY.out] at hs
      have HS := Lib.hid hs
      clear hs
      have hj64 : j ≤ 64 := by omega
      cases x
      all_goals cases y
      all_goals
        go_wp2_with fail
        refine (rbit a j _ hj64).mono ?_
        rintro e w' ⟨rfl, rfl⟩
        rw [HX.out]
        go_wp2_with fail
        refine (rbit b j _ hj64).mono ?_
        rintro e w' ⟨rfl, rfl⟩
        rw [HY.out]
        go_wp2_with fail
        go_round
        case rel => exact ⟨j, by omega, by first | rfl | go_num, by rw [HS.out]; first | rfl | (simp; done) | (congr 1; simp; omega)⟩
        case measure => simp [intOf]
end Go.Proofs.Ytfbdoaaicomdjaa
