/-
  THE WALKS of the document's answer for layer word (mortiseref01): Width, Wrap, one, Bit, divided.
-/
import Derived.Test.YtfbdoaaicomdjaaWc
import Derived.Test.YtfbdoaaicomdjaaBitm
namespace Go.Proofs.Ytfbdoaaicomdjaa
open Go.RowKit Go.WideMaps Go.Maps
set_option linter.unusedVariables false
set_option linter.unusedSimpArgs false

theorem rwidth (t : Int) (w : World) :
    Calls Try.prog 13 #[.int .i64 t] w fun e w' => e = .returned (.int .i64 (wd t)) ∧ w = w' := by
  by_cases h1 : t = 1
  · subst h1
    go_enter Try.func13, Try.ntmps13
    go_wp2
    go_ret
    exact ⟨rfl, rfl⟩
  by_cases h2 : t = 2
  · subst h2
    go_enter Try.func13, Try.ntmps13
    go_wp2
    go_ret
    exact ⟨rfl, rfl⟩
  by_cases h3 : t = 3
  · subst h3
    go_enter Try.func13, Try.ntmps13
    go_wp2
    go_ret
    exact ⟨rfl, rfl⟩
  · have hw : Hid (wd t = 0) := by show wd t = 0; unfold wd; rw [if_neg h1, if_neg h2, if_neg h3]
    have k1 : (t == 1) = false := by simpa using h1
    have k2 : (t == 2) = false := by simpa using h2
    have k3 : (t == 3) = false := by simpa using h3
    clear h1 h2 h3
    go_enter Try.func13, Try.ntmps13
    go_wp2
    go_ret
    exact ⟨ret_int hw.out.symm, rfl⟩

theorem rone (b : Bool) (w : World) :
    Calls Try.prog 26 #[.bool b] w fun e w' => e = .returned (.int .i64 (tr b)) ∧ w = w' := by
  cases b
  · go_enter Try.func26, Try.ntmps26
    go_wp2
    go_ret
    exact ⟨rfl, rfl⟩
  · go_enter Try.func26, Try.ntmps26
    go_wp2
    go_ret
    exact ⟨rfl, rfl⟩

theorem tm (M v : Int) (hM : 0 < M) : v.tmod M = v % M ∨ v.tmod M = v % M - M := by
  rw [Int.tmod_eq_emod]
  split
  · left; omega
  · right; omega
set_option maxHeartbeats 400000 in
theorem rwrap_1 (v : Int) (w : World) (hv1 : -9223372036854775808 ≤ v) (hv2 : v ≤ 9223372036854775807) :
    Calls Try.prog 15 #[.int .i64 1, .int .i64 v] w fun e w' => e = .returned (.int .i64 (wr 1 v)) ∧ w = w' := by
  have h0 := tm 4294967296 v (by decide)
  have hb1 : -4294967295 ≤ v.tmod 4294967296 := by have := Int.emod_nonneg v (b := 4294967296) (by decide); have := Int.lt_tmod_of_pos v (b := 4294967296) (by decide); omega
  have hb2 : v.tmod 4294967296 ≤ 4294967295 := by have := Int.emod_lt_of_pos v (b := 4294967296) (by decide); omega
  have h := Lib.hid h0
  clear h0
  go_enter Try.func15, Try.ntmps15
  go_wp2_with fail
  refine (rwidth 1 _).mono ?_
  rintro e w' ⟨rfl, rfl⟩
  rw [show wd 1 = 32 from rfl]
  go_wp2_with fail
  all_goals
    go_ret
    have h2 := h.out
    exact ⟨ret_int (by rw [wr1_eq]; unfold wrap32; omega), rfl⟩
set_option maxHeartbeats 400000 in
theorem rwrap_3 (v : Int) (w : World) (hv1 : -9223372036854775808 ≤ v) (hv2 : v ≤ 9223372036854775807) :
    Calls Try.prog 15 #[.int .i64 3, .int .i64 v] w fun e w' => e = .returned (.int .i64 (wr 3 v)) ∧ w = w' := by
  have h0 := tm 256 v (by decide)
  have hb1 : -255 ≤ v.tmod 256 := by have := Int.emod_nonneg v (b := 256) (by decide); have := Int.lt_tmod_of_pos v (b := 256) (by decide); omega
  have hb2 : v.tmod 256 ≤ 255 := by have := Int.emod_lt_of_pos v (b := 256) (by decide); omega
  have h := Lib.hid h0
  clear h0
  go_enter Try.func15, Try.ntmps15
  go_wp2_with fail
  refine (rwidth 3 _).mono ?_
  rintro e w' ⟨rfl, rfl⟩
  rw [show wd 3 = 8 from rfl]
  go_wp2_with fail
  all_goals
    go_ret
    have h2 := h.out
    exact ⟨ret_int (by show _ = (v + 128) % 256 - 128; omega), rfl⟩
set_option maxHeartbeats 400000 in
theorem rwrap (t v : Int) (w : World) (hv : (Lit.int .i64 v).wf = true) :
    Calls Try.prog 15 #[.int .i64 t, .int .i64 v] w fun e w' => e = .returned (.int .i64 (wr t v)) ∧ w = w' := by
  have hv1 := (bd64 hv).1
  have hv2 := (bd64 hv).2
  by_cases h1 : t = 1
  · subst h1; exact rwrap_1 v w hv1 hv2
  by_cases h3 : t = 3
  · subst h3; exact rwrap_3 v w hv1 hv2
  by_cases h2 : t = 2
  · subst h2
    clear h1 h3
    go_enter Try.func15, Try.ntmps15
    go_wp2_with fail
    refine (rwidth 2 _).mono ?_
    rintro e w' ⟨rfl, rfl⟩
    rw [show wd 2 = 64 from rfl]
    go_wp2_with fail
    go_ret
    exact ⟨ret_int (by rw [wr2_eq, w64_id ⟨hv1, hv2⟩]), rfl⟩
  · have hw : Hid (wd t = 0) := by show wd t = 0; unfold wd; rw [if_neg h1, if_neg h2, if_neg h3]
    have hx : Hid (wr t v = 0) := by show wr t v = 0; unfold wr; rw [if_neg h1, if_neg h2, if_neg h3]
    clear h1 h2 h3
    go_enter Try.func15, Try.ntmps15
    go_wp2_with fail
    refine (rwidth t _).mono ?_
    rintro e w' ⟨rfl, rfl⟩
    rw [hw.out]
    go_wp2_with fail
    go_ret
    exact ⟨ret_int (by rw [hx.out]), rfl⟩

theorem ret_bool {a b : Bool} (h : a = b) : Ending.returned (.bool a) = .returned (.bool b) := by rw [h]
/-- A bit of a number: so many times halved, is it odd? -/
def bitAt (v : Int) (k : Nat) : Bool := u64 v / 2 ^ k % 2 == 1
set_option maxHeartbeats 400000 in
theorem rbit (v : Int) (n : Nat) (w : World) (hn : n ≤ 64) :
    Calls Try.prog 37 #[.int .i64 v, .int .i64 n] w fun e w' => e = .returned (.bool (bitAt v n)) ∧ w = w' := by
  obtain ⟨U, HU, hlt, hU⟩ : ∃ U : Nat, Hid (u64 v = U) ∧ U < 18446744073709551616 ∧ IntKind.u64.wrap v = (U : Int) := by
    refine ⟨_, rfl, ?_, ?_⟩
    · unfold u64; omega
    · rw [IntKind.wrap_u64]; unfold u64; omega
  go_enter Try.func37, Try.ntmps37
  go_wp2
  clear hU
  go_loop [5, 6] (fun u i => ∃ k : Nat, k ≤ n ∧ i = .int .i64 k ∧ u = .int .u64 ((U / 2 ^ k : Nat) : Int)) (fun _ i => n - (intOf i).toNat)
  case atStart => exact ⟨0, by omega, rfl, by simp⟩
  case round =>
    obtain ⟨k, hk, rfl, rfl⟩ := hrel
    obtain ⟨x, HX, hx⟩ : ∃ x : Nat, Hid (U / 2 ^ k = x) ∧ x < 18446744073709551616 := ⟨_, rfl, Nat.lt_of_le_of_lt (Nat.div_le_self _ _) hlt⟩
    rw [HX.out]
    by_cases hlt2 : k < n
    · go_wp2
      go_round
      case rel => exact ⟨k + 1, by omega, by go_num, by rw [Nat.pow_succ, ← Nat.div_div_eq_div_mul, HX.out]; rfl⟩
      case measure => simp [intOf]; omega
    · have hkk : k = n := by omega
      subst hkk
      clear hlt2
      go_wp2
      go_ret
      exact ⟨ret_bool (by unfold bitAt; rw [HU.out, HX.out, Bool.eq_iff_iff]; simp; omega), rfl⟩
end Go.Proofs.Ytfbdoaaicomdjaa
