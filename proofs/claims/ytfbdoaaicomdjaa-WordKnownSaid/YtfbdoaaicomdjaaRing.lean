/-
  PLAIN MATHEMATICS of layer word, more: the ring modulo 2^32 and 2^64; what the comparisons see.
-/
import Derived.Test.YtfbdoaaicomdjaaMath
namespace Go.Proofs.Ytfbdoaaicomdjaa
open Go.RowKit

/-! ### The ring -/
def md (t : Int) : Int := if t = 1 then 4294967296 else 18446744073709551616
theorem wr_mod (t x : Int) (ht : t = 1 ∨ t = 2) : wr t x % md t = x % md t := by
  rcases ht with rfl | rfl
  · show wrap32 x % 4294967296 = x % 4294967296
    unfold wrap32; omega
  · show wrap64 x % 18446744073709551616 = x % 18446744073709551616
    unfold wrap64; omega
theorem wr_congr {t x y : Int} (ht : t = 1 ∨ t = 2) (h : x % md t = y % md t) : wr t x = wr t y := by
  rcases ht with rfl | rfl
  · have h' : x % 4294967296 = y % 4294967296 := h
    show wrap32 x = wrap32 y
    unfold wrap32; omega
  · have h' : x % 18446744073709551616 = y % 18446744073709551616 := h
    show wrap64 x = wrap64 y
    unfold wrap64; omega
theorem wr_addl (t x y : Int) (ht : t = 1 ∨ t = 2) : wr t (wr t x + y) = wr t (x + y) := wr_congr ht (by rw [Int.add_emod, wr_mod t x ht, ← Int.add_emod])
theorem wr_addr (t x y : Int) (ht : t = 1 ∨ t = 2) : wr t (x + wr t y) = wr t (x + y) := wr_congr ht (by rw [Int.add_emod, wr_mod t y ht, ← Int.add_emod])
theorem wr_mull (t x y : Int) (ht : t = 1 ∨ t = 2) : wr t (wr t x * y) = wr t (x * y) := wr_congr ht (by rw [Int.mul_emod, wr_mod t x ht, ← Int.mul_emod])
theorem wr_mulr (t x y : Int) (ht : t = 1 ∨ t = 2) : wr t (x * wr t y) = wr t (x * y) := wr_congr ht (by rw [Int.mul_emod, wr_mod t y ht, ← Int.mul_emod])
theorem wr_sub (t x y : Int) (ht : t = 1 ∨ t = 2) : wr t (wr t x - wr t y) = wr t (x - y) := wr_congr ht (by rw [Int.sub_emod, wr_mod t x ht, wr_mod t y ht, ← Int.sub_emod])
theorem wr_id (t x : Int) (ht : t = 1 ∨ t = 2) : wr t (wr t x) = wr t x := wr_congr ht (wr_mod t x ht)
theorem wr_bd (t x : Int) : -9223372036854775808 ≤ wr t x ∧ wr t x ≤ 9223372036854775807 := by
  unfold wr
  have := w32_bd x
  have := w64_bd x
  split
  · omega
  split
  · omega
  split <;> omega
theorem wf_of {x : Int} (h : -9223372036854775808 ≤ x ∧ x ≤ 9223372036854775807) : (Lit.int .i64 x).wf = true := by
  simpa [Lit.wf, IntKind.min, IntKind.max, IntKind.signed, IntKind.bits] using h
theorem wr_wf (t x : Int) : (Lit.int .i64 (wr t x)).wf = true := wf_of (wr_bd t x)

theorem bn_add (t a b : Int) (ht : t = 1 ∨ t = 2) : bn t [43] a b = (wr t (a + b), 0) := by
  rcases ht with rfl | rfl
  · have h := wr_addl 1 a (wr 1 b) (Or.inl rfl)
    rw [wr_addr 1 a b (Or.inl rfl)] at h
    rw [← h]; rfl
  · rfl
theorem bn_sub (t a b : Int) (ht : t = 1 ∨ t = 2) : bn t [45] a b = (wr t (a - b), 0) := by
  rcases ht with rfl | rfl
  · rw [← wr_sub 1 a b (Or.inl rfl)]; rfl
  · rfl
theorem bn_mul (t a b : Int) (ht : t = 1 ∨ t = 2) : bn t [42] a b = (wr t (a * b), 0) := by
  rcases ht with rfl | rfl
  · have h := wr_mull 1 a (wr 1 b) (Or.inl rfl)
    rw [wr_mulr 1 a b (Or.inl rfl)] at h
    rw [← h]; rfl
  · rfl
/-- What the comparisons see. -/
theorem bn_cmp (t a b : Int) (ht : t = 1 ∨ t = 2) (ha : (Lit.int .i64 a).wf = true) (hb : (Lit.int .i64 b).wf = true) :
    bn t [61, 61] a b = (tr (wr t a == wr t b), 0) ∧ bn t [33, 61] a b = (tr (wr t a != wr t b), 0) ∧ bn t [60] a b = (tr (decide (wr t a < wr t b)), 0) ∧ bn t [60, 61] a b = (tr (decide (wr t a ≤ wr t b)), 0)
    ∧ bn t [62] a b = (tr (decide (wr t b < wr t a)), 0) ∧ bn t [62, 61] a b = (tr (decide (wr t b ≤ wr t a)), 0) := by
  rcases ht with rfl | rfl
  · exact ⟨rfl, rfl, rfl, rfl, rfl, rfl⟩
  · have ea : wr 2 a = a := w64_id (bd64 ha)
    have eb : wr 2 b = b := w64_id (bd64 hb)
    rw [ea, eb]
    exact ⟨rfl, rfl, rfl, rfl, rfl, rfl⟩
end Go.Proofs.Ytfbdoaaicomdjaa
