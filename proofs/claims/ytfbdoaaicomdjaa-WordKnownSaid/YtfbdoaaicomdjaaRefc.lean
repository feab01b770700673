/-
  THE WALKS of the document's answer for layer word (mortiseref01), more: shifted, bits.
-/
import Derived.Test.YtfbdoaaicomdjaaRefb
namespace Go.Proofs.Ytfbdoaaicomdjaa
open Go.RowKit Go.WideMaps Go.Maps
set_option linter.unusedVariables false
set_option linter.unusedSimpArgs false

theorem lft_succ (t x : Int) (k : Nat) (ht : t = 1 ∨ t = 2) : wr t (wrap64 (lft t x k + lft t x k)) = lft t x (k + 1) := by
  have h : wr t (wrap64 (lft t x k + lft t x k)) = wr t (lft t x k + lft t x k) := by
    rcases ht with rfl | rfl
    · rw [wr1_eq, wr1_eq]; unfold wrap32 wrap64; omega
    · rw [wr2_eq, wr2_eq]; unfold wrap64; omega
  have e : ∀ y : Int, y + y = y * 2 := fun y => by omega
  rw [h]
  unfold lft
  rw [wr_addl t _ _ ht, wr_addr t _ _ ht, Int.pow_succ, ← Int.mul_assoc, e]
theorem lft_0 (t x : Int) (h : wr t x = x) : x = lft t x 0 := by unfold lft; rw [Int.pow_zero, Int.mul_one, h]

theorem half_down (x : Int) (k : Nat) : x / 2 ^ k / 2 = x / 2 ^ (k + 1) := shift_succ x k
theorem half_odd (y : Int) (h : ¬ y.tmod 2 = 0) (hn : y < 0) : y.tdiv 2 - 1 = y / 2 := by
  have h1 := Int.mul_tdiv_add_tmod y 2
  have h2 := tm 2 y (by decide)
  have h5 := Int.tmod_nonneg 2 (a := -y) (by omega)
  rw [Int.neg_tmod] at h5
  omega
theorem half_pos (y : Int) (h : 0 ≤ y) : y.tdiv 2 = y / 2 := Int.tdiv_eq_ediv_of_nonneg h
theorem half_even (y : Int) (h : y.tmod 2 = 0) : y.tdiv 2 = y / 2 := by
  have h1 := Int.mul_tdiv_add_tmod y 2
  omega
theorem tdiv2_bd (y : Int) (h1 : -9223372036854775808 ≤ y) (h2 : y ≤ 9223372036854775807) : -4611686018427387904 ≤ y.tdiv 2 ∧ y.tdiv 2 ≤ 4611686018427387904 := by
  have h3 := Int.mul_tdiv_add_tmod y 2
  have h4 := tm 2 y (by decide)
  omega

set_option maxHeartbeats 1000000 in
theorem rsh1_shl (a b : Int) (n : Nat) (op : ByteArray) (w : World) (hop : op.toList = [60, 60]) (hn : b % 32 = (n : Int)) (ha1 : -2147483648 ≤ a) (ha2 : a ≤ 2147483647) (hax : wr 1 a = a) (hb1 : -9223372036854775808 ≤ b) (hb2 : b ≤ 9223372036854775807) :
    Calls Try.prog 25 #[.int .i64 1, .string op, .int .i64 a, .int .i64 b] w fun e w' => e = .returned (.int .i64 (lft 1 a n)) ∧ w = w' := by
  have f8 : (op.toList == [60, 60]) = true := by rw [hop]; rfl
  have hnl : n < 32 := by omega
  have hq : b.tmod 32 = (n : Int) ∧ 0 ≤ b.tmod 32 ∨ b.tmod 32 + 32 = (n : Int) ∧ b.tmod 32 < 0 ∧ -32 < b.tmod 32 := by
    have h1 := tm 32 b (by decide)
    have h2 := Int.lt_tmod_of_pos b (b := 32) (by decide)
    have h3 := Int.tmod_lt_of_pos b (b := 32) (by decide)
    omega
  obtain ⟨q, HQ⟩ : ∃ q, Hid (b.tmod 32 = q) := ⟨_, rfl⟩
  rw [HQ.out] at hq
  have HX := Lib.hid hax
  clear hop hn hax
  go_enter Try.func25, Try.ntmps25
  go_wp2_with fail
  refine (rwidth 1 _).mono ?_
  rintro e w' ⟨rfl, rfl⟩
  rw [show wd 1 = 32 from rfl]
  have hq2 : b.tmod 32 = q := HQ.out
  rcases hq with ⟨hq, hq1⟩ | ⟨hq, hq1, hq3⟩
  all_goals
    go_wp2_with fail
    clear hq2 hq hq1
    go_loop [2, 11] (fun y i => ∃ k : Nat, k ≤ n ∧ i = .int .i64 k ∧ y = .int .i64 (lft 1 a k)) (fun _ i => n - (intOf i).toNat)
    case atStart => exact ⟨0, by omega, rfl, by rw [← lft_0 1 a HX.out]⟩
    case round =>
      obtain ⟨k, hk, rfl, rfl⟩ := hrel
      by_cases hlt : k < n
      · obtain ⟨y, HY, HY2, hy⟩ : ∃ y, Hid (lft 1 a k = y) ∧ Hid (wr 1 (wrap64 (y + y)) = lft 1 a (k + 1)) ∧ (Lit.int .i64 y).wf = true := ⟨_, rfl, lft_succ 1 a k (Or.inl rfl), lft_wf _ _ _⟩
        rw [HY.out]
        go_wp2_with fail
        refine (rwrap 1 (wrap64 (y + y)) _ (wrap64_wf _)).mono ?_
        rintro e w' ⟨rfl, rfl⟩
        rw [HY2.out]
        go_wp2_with fail
        go_round
        case rel => exact ⟨k + 1, by omega, by go_num, rfl⟩
        case measure => simp [intOf]; omega
      · have hkk : k = n := by omega
        clear hlt
        subst hkk
        go_wp2_with fail
        go_ret
        exact ⟨rfl, rfl⟩
set_option maxHeartbeats 1000000 in
theorem rsh1_shr (a b : Int) (n : Nat) (op : ByteArray) (w : World) (hop : op.toList = [62, 62]) (hn : b % 32 = (n : Int)) (ha1 : -2147483648 ≤ a) (ha2 : a ≤ 2147483647) (hax : wr 1 a = a) (hb1 : -9223372036854775808 ≤ b) (hb2 : b ≤ 9223372036854775807) :
    Calls Try.prog 25 #[.int .i64 1, .string op, .int .i64 a, .int .i64 b] w fun e w' => e = .returned (.int .i64 (a / 2 ^ n)) ∧ w = w' := by
  have f8 : (op.toList == [60, 60]) = false := by rw [hop]; rfl
  have hnl : n < 32 := by omega
  have hq : b.tmod 32 = (n : Int) ∧ 0 ≤ b.tmod 32 ∨ b.tmod 32 + 32 = (n : Int) ∧ b.tmod 32 < 0 ∧ -32 < b.tmod 32 := by
    have h1 := tm 32 b (by decide)
    have h2 := Int.lt_tmod_of_pos b (b := 32) (by decide)
    have h3 := Int.tmod_lt_of_pos b (b := 32) (by decide)
    omega
  obtain ⟨q, HQ⟩ : ∃ q, Hid (b.tmod 32 = q) := ⟨_, rfl⟩
  rw [HQ.out] at hq
  have HX := Lib.hid hax
  clear hop hn hax
  go_enter Try.func25, Try.ntmps25
  go_wp2_with fail
  refine (rwidth 1 _).mono ?_
  rintro e w' ⟨rfl, rfl⟩
  rw [show wd 1 = 32 from rfl]
  have hq2 : b.tmod 32 = q := HQ.out
  rcases hq with ⟨hq, hq1⟩ | ⟨hq, hq1, hq3⟩
  all_goals
    go_wp2_with fail
    clear hq2 hq hq1
    go_loop [2, 11] (fun y i => ∃ k : Nat, k ≤ n ∧ i = .int .i64 k ∧ y = .int .i64 (a / 2 ^ k)) (fun _ i => n - (intOf i).toNat)
    case atStart => exact ⟨0, by omega, rfl, by rw [Int.pow_zero, Int.ediv_one]⟩
    case round =>
      obtain ⟨k, hk, rfl, rfl⟩ := hrel
      by_cases hlt : k < n
      · obtain ⟨y, HY, hy⟩ : ∃ y, Hid (a / 2 ^ k = y) ∧ (0 ≤ y ∨ y < 0 ∧ (y.tmod 2 != 0) = true ∨ y < 0 ∧ (y.tmod 2 != 0) = false) := ⟨_, rfl, by
          by_cases h1 : 0 ≤ a / 2 ^ k
          · exact Or.inl h1
          by_cases h2 : (a / 2 ^ k).tmod 2 = 0
          · exact Or.inr (Or.inr ⟨by omega, by simpa using h2⟩)
          · exact Or.inr (Or.inl ⟨by omega, by simpa using h2⟩)⟩
        have hyb := shr_bd 9223372036854775808 a k (by decide) (by omega) (by omega)
        rw [HY.out] at hyb ⊢
        have hy1 := hyb.1
        have hy2 : y ≤ 9223372036854775807 := by omega
        have hd := tdiv2_bd y hy1 hy2
        have hd1 := hd.1
        have hd2 := hd.2
        clear hyb hd
        rcases hy with hy | ⟨hy, hy0⟩ | ⟨hy, hy0⟩
        · have hn2 := Lib.hid (half_pos y hy)
          go_wp2_with fail
          go_round
          case rel => exact ⟨k + 1, by omega, by go_num, by rw [← half_down, HY.out, ← hn2.out]⟩
          case measure => simp [intOf]; omega
        · have hn2 := Lib.hid (half_odd y (by simpa using hy0) hy)
          go_wp2_with fail
          go_round
          case rel => exact ⟨k + 1, by omega, by go_num, by rw [← half_down, HY.out, ← hn2.out]⟩
          case measure => simp [intOf]; omega
        · have hn2 := Lib.hid (half_even y (by simpa using hy0))
          go_wp2_with fail
          go_round
          case rel => exact ⟨k + 1, by omega, by go_num, by rw [← half_down, HY.out, ← hn2.out]⟩
          case measure => simp [intOf]; omega
      · have hkk : k = n := by omega
        clear hlt
        subst hkk
        go_wp2_with fail
        go_ret
        exact ⟨rfl, rfl⟩
set_option maxHeartbeats 1000000 in
theorem rsh2_shl (a b : Int) (n : Nat) (op : ByteArray) (w : World) (hop : op.toList = [60, 60]) (hn : b % 64 = (n : Int)) (ha1 : -9223372036854775808 ≤ a) (ha2 : a ≤ 9223372036854775807) (hax : wr 2 a = a) (hb1 : -9223372036854775808 ≤ b) (hb2 : b ≤ 9223372036854775807) :
    Calls Try.prog 25 #[.int .i64 2, .string op, .int .i64 a, .int .i64 b] w fun e w' => e = .returned (.int .i64 (lft 2 a n)) ∧ w = w' := by
  have f8 : (op.toList == [60, 60]) = true := by rw [hop]; rfl
  have hnl : n < 64 := by omega
  have hq : b.tmod 64 = (n : Int) ∧ 0 ≤ b.tmod 64 ∨ b.tmod 64 + 64 = (n : Int) ∧ b.tmod 64 < 0 ∧ -64 < b.tmod 64 := by
    have h1 := tm 64 b (by decide)
    have h2 := Int.lt_tmod_of_pos b (b := 64) (by decide)
    have h3 := Int.tmod_lt_of_pos b (b := 64) (by decide)
    omega
  obtain ⟨q, HQ⟩ : ∃ q, Hid (b.tmod 64 = q) := ⟨_, rfl⟩
  rw [HQ.out] at hq
  have HX := Lib.hid hax
  clear hop hn hax
  go_enter Try.func25, Try.ntmps25
  go_wp2_with fail
  refine (rwidth 2 _).mono ?_
  rintro e w' ⟨rfl, rfl⟩
  rw [show wd 2 = 64 from rfl]
  have hq2 : b.tmod 64 = q := HQ.out
  rcases hq with ⟨hq, hq1⟩ | ⟨hq, hq1, hq3⟩
  all_goals
    go_wp2_with fail
    clear hq2 hq hq1
    go_loop [2, 11] (fun y i => ∃ k : Nat, k ≤ n ∧ i = .int .i64 k ∧ y = .int .i64 (lft 2 a k)) (fun _ i => n - (intOf i).toNat)
    case atStart => exact ⟨0, by omega, rfl, by rw [← lft_0 2 a HX.out]⟩
    case round =>
      obtain ⟨k, hk, rfl, rfl⟩ := hrel
      by_cases hlt : k < n
      · obtain ⟨y, HY, HY2, hy⟩ : ∃ y, Hid (lft 2 a k = y) ∧ Hid (wr 2 (wrap64 (y + y)) = lft 2 a (k + 1)) ∧ (Lit.int .i64 y).wf = true := ⟨_, rfl, lft_succ 2 a k (Or.inr rfl), lft_wf _ _ _⟩
        rw [HY.out]
        go_wp2_with fail
        refine (rwrap 2 (wrap64 (y + y)) _ (wrap64_wf _)).mono ?_
        rintro e w' ⟨rfl, rfl⟩
        rw [HY2.out]
        go_wp2_with fail
        go_round
        case rel => exact ⟨k + 1, by omega, by go_num, rfl⟩
        case measure => simp [intOf]; omega
      · have hkk : k = n := by omega
        clear hlt
        subst hkk
        go_wp2_with fail
        go_ret
        exact ⟨rfl, rfl⟩
set_option maxHeartbeats 1000000 in
theorem rsh2_shr (a b : Int) (n : Nat) (op : ByteArray) (w : World) (hop : op.toList = [62, 62]) (hn : b % 64 = (n : Int)) (ha1 : -9223372036854775808 ≤ a) (ha2 : a ≤ 9223372036854775807) (hax : wr 2 a = a) (hb1 : -9223372036854775808 ≤ b) (hb2 : b ≤ 9223372036854775807) :
    Calls Try.prog 25 #[.int .i64 2, .string op, .int .i64 a, .int .i64 b] w fun e w' => e = .returned (.int .i64 (a / 2 ^ n)) ∧ w = w' := by
  have f8 : (op.toList == [60, 60]) = false := by rw [hop]; rfl
  have hnl : n < 64 := by omega
  have hq : b.tmod 64 = (n : Int) ∧ 0 ≤ b.tmod 64 ∨ b.tmod 64 + 64 = (n : Int) ∧ b.tmod 64 < 0 ∧ -64 < b.tmod 64 := by
    have h1 := tm 64 b (by decide)
    have h2 := Int.lt_tmod_of_pos b (b := 64) (by decide)
    have h3 := Int.tmod_lt_of_pos b (b := 64) (by decide)
    omega
  obtain ⟨q, HQ⟩ : ∃ q, Hid (b.tmod 64 = q) := ⟨_, rfl⟩
  rw [HQ.out] at hq
  have HX := Lib.hid hax
  clear hop hn hax
  go_enter Try.func25, Try.ntmps25
  go_wp2_with fail
  refine (rwidth 2 _).mono ?_
  rintro e w' ⟨rfl, rfl⟩
  rw [show wd 2 = 64 from rfl]
  have hq2 : b.tmod 64 = q := HQ.out
  rcases hq with ⟨hq, hq1⟩ | ⟨hq, hq1, hq3⟩
  all_goals
    go_wp2_with fail
    clear hq2 hq hq1
    go_loop [2, 11] (fun y i => ∃ k : Nat, k ≤ n ∧ i = .int .i64 k ∧ y = .int .i64 (a / 2 ^ k)) (fun _ i => n - (intOf i).toNat)
    case atStart => exact ⟨0, by omega, rfl, by rw [Int.pow_zero, Int.ediv_one]⟩
    case round =>
      obtain ⟨k, hk, rfl, rfl⟩ := hrel
      by_cases hlt : k < n
      · obtain ⟨y, HY, hy⟩ : ∃ y, Hid (a / 2 ^ k = y) ∧ (0 ≤ y ∨ y < 0 ∧ (y.tmod 2 != 0) = true ∨ y < 0 ∧ (y.tmod 2 != 0) = false) := ⟨_, rfl, by
          by_cases h1 : 0 ≤ a / 2 ^ k
          · exact Or.inl h1
          by_cases h2 : (a / 2 ^ k).tmod 2 = 0
          · exact Or.inr (Or.inr ⟨by omega, by simpa using h2⟩)
          · exact Or.inr (Or.inl ⟨by omega, by simpa using h2⟩)⟩
        have hyb := shr_bd 9223372036854775808 a k (by decide) (by omega) (by omega)
        rw [HY.out] at hyb ⊢
        have hy1 := hyb.1
        have hy2 : y ≤ 9223372036854775807 := by omega
        have hd := tdiv2_bd y hy1 hy2
        have hd1 := hd.1
        have hd2 := hd.2
        clear hyb hd
        rcases hy with hy | ⟨hy, hy0⟩ | ⟨hy, hy0⟩
        · have hn2 := Lib.hid (half_pos y hy)
          go_wp2_with fail
          go_round
          case rel => exact ⟨k + 1, by omega, by go_num, by rw [← half_down, HY.out, ← hn2.out]⟩
          case measure => simp [intOf]; omega
        · have hn2 := Lib.hid (half_odd y (by simpa using hy0) hy)
          go_wp2_with fail
          go_round
          case rel => exact ⟨k + 1, by omega, by go_num, by rw [← half_down, HY.out, ← hn2.out]⟩
          case measure => simp [intOf]; omega
        · have hn2 := Lib.hid (half_even y (by simpa using hy0))
          go_wp2_with fail
          go_round
          case rel => exact ⟨k + 1, by omega, by go_num, by rw [← half_down, HY.out, ← hn2.out]⟩
          case measure => simp [intOf]; omega
      · have hkk : k = n := by omega
        clear hlt
        subst hkk
        go_wp2_with fail
        go_ret
        exact ⟨rfl, rfl⟩
end Go.Proofs.Ytfbdoaaicomdjaa
