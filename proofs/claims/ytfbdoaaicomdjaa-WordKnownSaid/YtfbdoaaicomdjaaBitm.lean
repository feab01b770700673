/-
  Bits and shifts: plain mathematics.
-/
import Derived.Test.YtfbdoaaicomdjaaRing
namespace Go.Proofs.Ytfbdoaaicomdjaa
set_option linter.unusedSimpArgs false
open Go.RowKit

def bw (t : Int) : Nat := if t = 1 then 32 else 64
/-- The bits of a number, of a type. -/
def uu (t x : Int) : Nat := (x % md t).toNat
theorem uu_1 (x : Int) : uu 1 x = u32 x := rfl
theorem uu_2 (x : Int) : uu 2 x = u64 x := rfl
theorem wr1_eq (x : Int) : wr 1 x = wrap32 x := by unfold wr; rw [if_pos rfl]
theorem wr2_eq (x : Int) : wr 2 x = wrap64 x := by unfold wr; rw [if_neg (by decide), if_pos rfl]
theorem md_pow (t : Int) (ht : t = 1 ∨ t = 2) : md t = ((2 ^ bw t : Nat) : Int) := by rcases ht with rfl | rfl <;> rfl
theorem md_pos (t : Int) (ht : t = 1 ∨ t = 2) : 0 < md t := by rcases ht with rfl | rfl <;> simp [md]
theorem uu_cast (t x : Int) (ht : t = 1 ∨ t = 2) : (uu t x : Int) = x % md t := Int.toNat_of_nonneg (Int.emod_nonneg _ (by have := md_pos t ht; omega))
theorem uu_lt (t x : Int) (ht : t = 1 ∨ t = 2) : uu t x < 2 ^ bw t := by
  have h := Int.emod_lt_of_pos x (md_pos t ht)
  have h2 := md_pow t ht
  have h3 := uu_cast t x ht
  omega
theorem uu_wr (t x : Int) (ht : t = 1 ∨ t = 2) : uu t (wr t x) = uu t x := by unfold uu; rw [wr_mod t x ht]
theorem wr_uu (t x : Int) (ht : t = 1 ∨ t = 2) : wr t (uu t x : Int) = wr t x := wr_congr ht (by rw [uu_cast t x ht]; exact Int.emod_emod_of_dvd _ (Int.dvd_refl _))
theorem uu_nat (t : Int) (n : Nat) (ht : t = 1 ∨ t = 2) (h : n < 2 ^ bw t) : uu t (n : Int) = n := by
  unfold uu
  rw [md_pow t ht, Int.emod_eq_of_lt (by omega) (by omega)]; rfl

theorem bn_and (t a b : Int) (ht : t = 1 ∨ t = 2) : bn t [38] a b = (wr t ((uu t a &&& uu t b : Nat) : Int), 0) := by
  rcases ht with rfl | rfl
  · have h : bn 1 [38] a b = (bits .and .i32 (wr 1 a) (wr 1 b), 0) := rfl
    rw [h, bits32_and, ← uu_1, ← uu_1, uu_wr 1 a (Or.inl rfl), uu_wr 1 b (Or.inl rfl), ← wr1_eq]
  · have h : bn 2 [38] a b = (bits .and .i64 a b, 0) := rfl
    rw [h, bits64_and, ← uu_2, ← uu_2, ← wr2_eq]
theorem bn_or (t a b : Int) (ht : t = 1 ∨ t = 2) : bn t [124] a b = (wr t ((uu t a ||| uu t b : Nat) : Int), 0) := by
  rcases ht with rfl | rfl
  · have h : bn 1 [124] a b = (bits .or .i32 (wr 1 a) (wr 1 b), 0) := rfl
    rw [h, bits32_or, ← uu_1, ← uu_1, uu_wr 1 a (Or.inl rfl), uu_wr 1 b (Or.inl rfl), ← wr1_eq]
  · have h : bn 2 [124] a b = (bits .or .i64 a b, 0) := rfl
    rw [h, bits64_or, ← uu_2, ← uu_2, ← wr2_eq]
theorem bn_xor (t a b : Int) (ht : t = 1 ∨ t = 2) : bn t [94] a b = (wr t ((uu t a ^^^ uu t b : Nat) : Int), 0) := by
  rcases ht with rfl | rfl
  · have h : bn 1 [94] a b = (bits .xor .i32 (wr 1 a) (wr 1 b), 0) := rfl
    rw [h, bits32_xor, ← uu_1, ← uu_1, uu_wr 1 a (Or.inl rfl), uu_wr 1 b (Or.inl rfl), ← wr1_eq]
  · have h : bn 2 [94] a b = (bits .xor .i64 a b, 0) := rfl
    rw [h, bits64_xor, ← uu_2, ← uu_2, ← wr2_eq]

/-- The law's first answers. -/
def Heads (t a b s n o z n2 x : Int) : Prop :=
  bn t [43] a b = (s, 0) ∧ bn t [38] a b = (n, 0) ∧ bn t [124] a b = (o, 0) ∧ bn t [43] o n = (s, 0) ∧ bn t [94] a b = (z, 0) ∧ bn t [43] n n = (n2, 0) ∧ bn t [43] z n2 = (s, 0)
  ∧ bn t [94] z b = (x, 0) ∧ bn t [38] a (-1) = (x, 0) ∧ bn t [124] a 0 = (x, 0) ∧ wr t a = x

theorem heads_any (t a b : Int) (ht : t = 1 ∨ t = 2) :
    Heads t a b (wr t (a + b)) (wr t ((uu t a &&& uu t b : Nat) : Int)) (wr t ((uu t a ||| uu t b : Nat) : Int)) (wr t ((uu t a ^^^ uu t b : Nat) : Int)) (wr t (((uu t a &&& uu t b : Nat) : Int) + ((uu t a &&& uu t b : Nat) : Int))) (wr t a) := by
  have hs : wr t ((uu t a : Int) + (uu t b : Int)) = wr t (a + b) := by
    rw [← wr_addl t _ _ ht, ← wr_addr t _ _ ht, wr_uu t a ht, wr_uu t b ht, wr_addl t _ _ ht, wr_addr t _ _ ht]
  have h1 := nat_or_and (uu t a) (uu t b)
  have h2 := nat_xor_and (uu t a) (uu t b)
  refine ⟨bn_add t a b ht, bn_and t a b ht, bn_or t a b ht, ?_, bn_xor t a b ht, ?_, ?_, ?_, ?_, ?_, rfl⟩
  · have e : ((uu t a ||| uu t b : Nat) : Int) + ((uu t a &&& uu t b : Nat) : Int) = (uu t a : Int) + (uu t b : Int) := by rw [← Int.natCast_add, h1, Int.natCast_add]
    rw [bn_add t _ _ ht, wr_addl t _ _ ht, wr_addr t _ _ ht, ← hs, e]
  · rw [bn_add t _ _ ht, wr_addl t _ _ ht, wr_addr t _ _ ht]
  · have e : ((uu t a ^^^ uu t b : Nat) : Int) + (((uu t a &&& uu t b : Nat) : Int) + ((uu t a &&& uu t b : Nat) : Int)) = (uu t a : Int) + (uu t b : Int) := by
      rw [← Int.natCast_add, ← Int.natCast_add, ← Nat.two_mul, h2, Int.natCast_add]
    rw [bn_add t _ _ ht, wr_addl t _ _ ht, wr_addr t _ _ ht, ← hs, e]
  · rw [bn_xor t _ b ht, uu_wr t _ ht, uu_nat t _ ht (Nat.xor_lt_two_pow (uu_lt t a ht) (uu_lt t b ht)), Nat.xor_assoc, Nat.xor_self, Nat.xor_zero, wr_uu t a ht]
  · have hm : uu t (-1) = 2 ^ bw t - 1 := by rcases ht with rfl | rfl <;> simp [uu, md, bw]
    rw [bn_and t a _ ht, hm, Nat.and_two_pow_sub_one_eq_mod, Nat.mod_eq_of_lt (uu_lt t a ht), wr_uu t a ht]
  · have hm : uu t 0 = 0 := by rcases ht with rfl | rfl <;> simp [uu, md, bw]
    rw [bn_or t a _ ht, hm, Nat.or_zero, wr_uu t a ht]

/-- Shifts by a place, counted modulo the width. -/
theorem bn_shl (t a i : Int) (k : Nat) (ht : t = 1 ∨ t = 2) (hi : i % (bw t : Int) = (k : Int)) (ha : (Lit.int .i64 a).wf = true) : bn t [60, 60] a i = (wr t (wr t a * 2 ^ k), 0) := by
  rcases ht with rfl | rfl
  · have h : bn 1 [60, 60] a i = (wrap32 (wrap32 a * 2 ^ (wrap32 i % 32).toNat), 0) := rfl
    have e : (wrap32 i % 32).toNat = k := by have hi' : i % 32 = (k : Int) := hi; unfold wrap32; omega
    rw [h, e, ← wr1_eq, ← wr1_eq]
  · have h : bn 2 [60, 60] a i = (wrap64 (a * 2 ^ (i % 64).toNat), 0) := rfl
    have e : (i % 64).toNat = k := by have hi' : i % 64 = (k : Int) := hi; omega
    rw [h, e, ← wr2_eq, show wr 2 a = a from w64_id (bd64 ha)]
theorem bn_shr (t a i : Int) (k : Nat) (ht : t = 1 ∨ t = 2) (hi : i % (bw t : Int) = (k : Int)) (ha : (Lit.int .i64 a).wf = true) : bn t [62, 62] a i = (wr t a / 2 ^ k, 0) := by
  rcases ht with rfl | rfl
  · have h : bn 1 [62, 62] a i = (wrap32 a / 2 ^ (wrap32 i % 32).toNat, 0) := rfl
    have e : (wrap32 i % 32).toNat = k := by have hi' : i % 32 = (k : Int) := hi; unfold wrap32; omega
    rw [h, e, ← wr1_eq]
  · have h : bn 2 [62, 62] a i = (a / 2 ^ (i % 64).toNat, 0) := rfl
    have e : (i % 64).toNat = k := by have hi' : i % 64 = (k : Int) := hi; omega
    rw [h, e, show wr 2 a = a from w64_id (bd64 ha)]
theorem low_any (t r : Int) (ht : t = 1 ∨ t = 2) : wr t ((uu t r % 2 : Nat) : Int) = r % 2 := by
  have h3 := uu_cast t r ht
  generalize uu t r = u at h3
  rcases ht with rfl | rfl
  · have h4 : (u : Int) = r % 4294967296 := h3
    rw [wr1_eq]
    clear h3
    unfold wrap32
    omega
  · have h4 : (u : Int) = r % 18446744073709551616 := h3
    rw [wr2_eq]
    clear h3
    unfold wrap64
    omega
theorem uu_one (t : Int) (ht : t = 1 ∨ t = 2) : uu t 1 = 1 := by rcases ht with rfl | rfl <;> simp [uu, md]
theorem bn_low (t r : Int) (ht : t = 1 ∨ t = 2) : bn t [38] r 1 = (r % 2, 0) := by
  rw [bn_and t r 1 ht, uu_one t ht, Nat.and_one_is_mod, low_any t r ht]

/-- One round: what its calls answer. -/
def Round (t a i W l r l2 q : Int) : Prop :=
  bn t [60, 60] a i = (l, 0) ∧ bn t [62, 62] a i = (r, 0) ∧ bn t [60, 60] a (i + W) = (l, 0) ∧ bn t [62, 62] a (i - W) = (r, 0) ∧ bn t [43] l l = (l2, 0) ∧ bn t [38] r 1 = (q, 0)
theorem round_any (t a : Int) (k : Nat) (ht : t = 1 ∨ t = 2) (hk : k < bw t) (ha : (Lit.int .i64 a).wf = true) :
    Round t a k (bw t) (wr t (wr t a * 2 ^ k)) (wr t a / 2 ^ k) (wr t (wr t a * 2 ^ (k + 1))) (wr t a / 2 ^ k % 2) := by
  have h1 : (k : Int) % (bw t : Int) = (k : Int) := Int.emod_eq_of_lt (by omega) (by omega)
  have h2 : ((k : Int) + (bw t : Int)) % (bw t : Int) = (k : Int) := by rw [Int.add_emod_right]; exact h1
  have h3 : ((k : Int) - (bw t : Int)) % (bw t : Int) = (k : Int) := by rw [Int.sub_emod_right]; exact h1
  refine ⟨bn_shl t a _ k ht h1 ha, bn_shr t a _ k ht h1 ha, bn_shl t a _ k ht h2 ha, bn_shr t a _ k ht h3 ha, ?_, bn_low t _ ht⟩
  have e : ∀ y : Int, y + y = y * 2 := fun y => by omega
  rw [bn_add t _ _ ht, wr_addl t _ _ ht, wr_addr t _ _ ht, Int.pow_succ, ← Int.mul_assoc, e]
/-- The number, shifted to the left by a place; and to the right. -/
def lft (t x : Int) (k : Nat) : Int := wr t (x * 2 ^ k)
theorem lft_wf (t x : Int) (k : Nat) : (Lit.int .i64 (lft t x k)).wf = true := wr_wf _ _
theorem lft_zero (t a x : Int) (ht : t = 1 ∨ t = 2) (h : wr t a = x) : x = lft t x 0 := by unfold lft; rw [Int.pow_zero, Int.mul_one, ← h, wr_id t a ht]
theorem rgt_bd (t a x : Int) (k : Nat) (h : wr t a = x) : -9223372036854775808 ≤ x / 2 ^ k ∧ x / 2 ^ k ≤ 9223372036854775807 := by
  have hx := wr_bd t a
  have := shr_bd 9223372036854775808 (wr t a) k (by decide) (by omega) (by omega)
  rw [← h]
  omega
theorem round_lft (t a x : Int) (k : Nat) (ht : t = 1 ∨ t = 2) (hk : k < bw t) (ha : (Lit.int .i64 a).wf = true) (h : wr t a = x) :
    Round t a k (bw t) (lft t x k) (x / 2 ^ k) (lft t x (k + 1)) (x / 2 ^ k % 2) := by
  rw [← h]; exact round_any t a k ht hk ha
/-- What the round makes of the shifted number. -/
theorem half (r : Int) (h : -9223372036854775808 ≤ r ∧ r ≤ 9223372036854775807) : wrap64 ((wrap64 (r - r % 2)).tdiv 2) = r / 2 := by
  have h1 : wrap64 (r - r % 2) = 2 * (r / 2) := by unfold wrap64; omega
  rw [h1, Int.mul_comm, Int.mul_tdiv_cancel _ (by decide)]
  exact w64_id (by omega)
theorem shift_succ (x : Int) (k : Nat) : x / 2 ^ k / 2 = x / 2 ^ (k + 1) := by
  rw [Int.ediv_ediv_of_nonneg (Int.pow_nonneg (by decide)), Int.pow_succ]
end Go.Proofs.Ytfbdoaaicomdjaa
