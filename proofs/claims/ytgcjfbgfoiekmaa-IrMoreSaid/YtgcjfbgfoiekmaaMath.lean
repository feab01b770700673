/-
  PLAIN MATHEMATICS of layer word: no Go in sight. Numbers that wrap round at 32 and 64 bits, and the operations on them.
-/
import Derived.RowKit
import Derived.IntWalk
import Derived.Laws.BitsAllLaws
namespace Go.Proofs.Ytgcjfbgfoiekmaa
open Go.RowKit

/-- A number, brought to a type (1: 32 bits, 2: 64 bits, 3: 8 bits; else 0). -/
def wr (t v : Int) : Int := if t = 1 then wrap32 v else if t = 2 then wrap64 v else if t = 3 then (v + 128) % 256 - 128 else 0

theorem wr_1 (v : Int) : wrap64 (v * 4294967296) / 4294967296 = wr 1 v := by simp [wr, wrap32, wrap64]; omega
theorem wr_3 (v : Int) : wrap64 (v * 72057594037927936) / 72057594037927936 = wr 3 v := by simp [wr, wrap64]; omega
theorem wr_2 (v : Int) : wrap64 v = wr 2 v := by simp [wr]
theorem wr_0 (v : Int) : wrap64 (v * 18446744073709551616) / 18446744073709551616 = 0 := by simp [wrap64]

theorem bd64 {v : Int} (hv : (Lit.int .i64 v).wf = true) : -9223372036854775808 ≤ v ∧ v ≤ 9223372036854775807 := by
  simpa [Lit.wf, IntKind.min, IntKind.max, IntKind.signed, IntKind.bits] using hv
theorem ret_int {k : IntKind} {a b : Int} (h : a = b) : Ending.returned (.int k a) = .returned (.int k b) := by rw [h]
theorem ret_two {k k' : IntKind} {a b c d : Int} (h : a = b) (h' : c = d) : Ending.returned (.tuple #[.int k a, .int k' c]) = .returned (.tuple #[.int k b, .int k' d]) := by rw [h, h']

theorem w32_bd (x : Int) : -2147483648 ≤ wrap32 x ∧ wrap32 x ≤ 2147483647 := by unfold wrap32; omega
theorem w64_bd (x : Int) : -9223372036854775808 ≤ wrap64 x ∧ wrap64 x ≤ 9223372036854775807 := by unfold wrap64; omega
theorem w64_id {x : Int} (h : -9223372036854775808 ≤ x ∧ x ≤ 9223372036854775807) : wrap64 x = x := by unfold wrap64; omega
theorem w32_id {x : Int} (h : -2147483648 ≤ x ∧ x ≤ 2147483647) : wrap32 x = x := by unfold wrap32; omega
theorem w64_32 (x : Int) : wrap64 (wrap32 x) = wrap32 x := w64_id (by have := w32_bd x; omega)
theorem k32 (x : Int) : IntKind.i32.wrap x = wrap32 x := by simp [IntKind.wrap, IntKind.bits, IntKind.signed, wrap32]; omega
theorem k64 (x : Int) : IntKind.i64.wrap x = wrap64 x := by simp [IntKind.wrap, IntKind.bits, IntKind.signed, wrap64]; omega

theorem bits32_bd (o : BinOp) (x y : Int) : -2147483648 ≤ bits o .i32 x y ∧ bits o .i32 x y ≤ 2147483647 := by
  unfold bits; simp only [k32]; exact w32_bd _
theorem bits64_bd (o : BinOp) (x y : Int) : -9223372036854775808 ≤ bits o .i64 x y ∧ bits o .i64 x y ≤ 9223372036854775807 := by
  unfold bits; simp only [k64]; exact w64_bd _

/-- The bits of a number, as a natural number. -/
def u32 (x : Int) : Nat := (x % 4294967296).toNat
def u64 (x : Int) : Nat := (x % 18446744073709551616).toNat

theorem bits32_and (x y : Int) : bits .and .i32 x y = wrap32 ((u32 x &&& u32 y : Nat) : Int) := by
  show IntKind.i32.wrap ((BitVec.ofInt 32 x &&& BitVec.ofInt 32 y).toNat : Int) = _
  rw [BitVec.toNat_and, BitVec.toNat_ofInt, BitVec.toNat_ofInt, k32]; rfl
theorem bits32_or (x y : Int) : bits .or .i32 x y = wrap32 ((u32 x ||| u32 y : Nat) : Int) := by
  show IntKind.i32.wrap ((BitVec.ofInt 32 x ||| BitVec.ofInt 32 y).toNat : Int) = _
  rw [BitVec.toNat_or, BitVec.toNat_ofInt, BitVec.toNat_ofInt, k32]; rfl
theorem bits32_xor (x y : Int) : bits .xor .i32 x y = wrap32 ((u32 x ^^^ u32 y : Nat) : Int) := by
  show IntKind.i32.wrap ((BitVec.ofInt 32 x ^^^ BitVec.ofInt 32 y).toNat : Int) = _
  rw [BitVec.toNat_xor, BitVec.toNat_ofInt, BitVec.toNat_ofInt, k32]; rfl
theorem bits64_and (x y : Int) : bits .and .i64 x y = wrap64 ((u64 x &&& u64 y : Nat) : Int) := by
  show IntKind.i64.wrap ((BitVec.ofInt 64 x &&& BitVec.ofInt 64 y).toNat : Int) = _
  rw [BitVec.toNat_and, BitVec.toNat_ofInt, BitVec.toNat_ofInt, k64]; rfl
theorem bits64_or (x y : Int) : bits .or .i64 x y = wrap64 ((u64 x ||| u64 y : Nat) : Int) := by
  show IntKind.i64.wrap ((BitVec.ofInt 64 x ||| BitVec.ofInt 64 y).toNat : Int) = _
  rw [BitVec.toNat_or, BitVec.toNat_ofInt, BitVec.toNat_ofInt, k64]; rfl
theorem bits64_xor (x y : Int) : bits .xor .i64 x y = wrap64 ((u64 x ^^^ u64 y : Nat) : Int) := by
  show IntKind.i64.wrap ((BitVec.ofInt 64 x ^^^ BitVec.ofInt 64 y).toNat : Int) = _
  rw [BitVec.toNat_xor, BitVec.toNat_ofInt, BitVec.toNat_ofInt, k64]; rfl

theorem and31 (b : Int) : bits .and .i64 b 31 = b % 32 := by
  have h : u64 31 = 31 := rfl
  rw [bits64_and, h, show (31 : Nat) = 2 ^ 5 - 1 from rfl, Nat.and_two_pow_sub_one_eq_mod]
  unfold u64 wrap64
  omega
theorem and63 (b : Int) : bits .and .i64 b 63 = b % 64 := by
  have h : u64 63 = 63 := rfl
  rw [bits64_and, h, show (63 : Nat) = 2 ^ 6 - 1 from rfl, Nat.and_two_pow_sub_one_eq_mod]
  unfold u64 wrap64
  omega
theorem nat_or_and (a b : Nat) : (a ||| b) + (a &&& b) = a + b := by
  induction a using Nat.strongRecOn generalizing b with
  | _ a ih =>
    by_cases h0 : a = 0
    · subst h0; simp
    · have h := ih (a / 2) (by omega) (b / 2)
      have h1 : (a ||| b) / 2 = a / 2 ||| b / 2 := Nat.or_div_two
      have h2 : (a &&& b) / 2 = a / 2 &&& b / 2 := Nat.and_div_two
      have h3 : (a ||| b) % 2 = (a % 2) ||| (b % 2) := by simpa using Nat.or_mod_two_pow (a := a) (b := b) (n := 1)
      have h4 : (a &&& b) % 2 = (a % 2) &&& (b % 2) := by simpa using Nat.and_mod_two_pow (a := a) (b := b) (n := 1)
      have h5 : ∀ x, x < 2 → ∀ y, y < 2 → (x ||| y) + (x &&& y) = x + y := by decide
      have h6 := h5 (a % 2) (by omega) (b % 2) (by omega)
      omega
theorem nat_xor_and (a b : Nat) : (a ^^^ b) + 2 * (a &&& b) = a + b := by
  induction a using Nat.strongRecOn generalizing b with
  | _ a ih =>
    by_cases h0 : a = 0
    · subst h0; simp
    · have h := ih (a / 2) (by omega) (b / 2)
      have h1 : (a ^^^ b) / 2 = a / 2 ^^^ b / 2 := Nat.xor_div_two
      have h2 : (a &&& b) / 2 = a / 2 &&& b / 2 := Nat.and_div_two
      have h3 : (a ^^^ b) % 2 = (a % 2) ^^^ (b % 2) := by simpa using Nat.xor_mod_two_pow (a := a) (b := b) (n := 1)
      have h4 : (a &&& b) % 2 = (a % 2) &&& (b % 2) := by simpa using Nat.and_mod_two_pow (a := a) (b := b) (n := 1)
      have h5 : ∀ x, x < 2 → ∀ y, y < 2 → (x ^^^ y) + 2 * (x &&& y) = x + y := by decide
      have h6 := h5 (a % 2) (by omega) (b % 2) (by omega)
      omega

theorem tdiv_bd (M a b : Int) (ha1 : -M ≤ a) (ha2 : a ≤ M - 1) (h0 : b ≠ 0) (h : ¬ (a = -M ∧ b = -1)) (hM : 2 ≤ M) : -M ≤ a.tdiv b ∧ a.tdiv b ≤ M - 1 := by
  have e : (a.tdiv b).natAbs = a.natAbs / b.natAbs := Int.natAbs_tdiv a b
  have h1 : a.natAbs / b.natAbs ≤ a.natAbs := Nat.div_le_self _ _
  by_cases hb1 : b = 1
  · subst hb1; rw [Int.tdiv_one]; omega
  by_cases hb2 : b = -1
  · subst hb2; rw [Int.tdiv_neg, Int.tdiv_one]; omega
  have h2 : a.natAbs / b.natAbs ≤ a.natAbs / 2 := Nat.div_le_div_left (by omega) (by omega)
  omega
theorem tmod_bd (a b : Int) (M : Int) (h0 : b ≠ 0) (hb1 : -M ≤ b) (hb2 : b ≤ M - 1) : -M ≤ a.tmod b ∧ a.tmod b ≤ M - 1 := by
  have e := Int.natAbs_tmod a b
  have h1 : a.natAbs % b.natAbs < b.natAbs := Nat.mod_lt _ (by omega)
  have h2 : a.natAbs % b.natAbs ≤ a.natAbs := Nat.mod_le _ _
  omega

theorem shr_bd (M a : Int) (n : Nat) (hM : 1 ≤ M) (h1 : -M ≤ a) (h2 : a ≤ M - 1) : -M ≤ a / 2 ^ n ∧ a / 2 ^ n ≤ M - 1 := by
  have hp : (0 : Int) < 2 ^ n := Int.pow_pos (by decide)
  constructor
  · rw [Int.le_ediv_iff_mul_le hp]
    have : -M * 2 ^ n ≤ -M * 1 := Int.mul_le_mul_of_nonpos_left (by omega) (by omega)
    omega
  · by_cases h : 0 ≤ a
    · have := Int.ediv_le_self (a := a) (2 ^ n) h
      omega
    · have := Int.ediv_neg_of_neg_of_pos (a := a) (b := 2 ^ n) (by omega) hp
      omega

/-! ### What an operation makes of two numbers of 32 bits, and of 64; the trap -/
def tr (c : Bool) : Int := if c then 1 else 0
def bn32 (l : List UInt8) (a b : Int) : Int × Int :=
  if l = [43] then (wrap32 (a + b), 0) else if l = [45] then (wrap32 (a - b), 0) else if l = [42] then (wrap32 (a * b), 0)
  else if l = [47] then (if b = 0 then (0, 1) else if a = -2147483648 ∧ b = -1 then (0, 2) else (a.tdiv b, 0))
  else if l = [37] then (if b = 0 then (0, 1) else (a.tmod b, 0))
  else if l = [38] then (bits .and .i32 a b, 0) else if l = [124] then (bits .or .i32 a b, 0) else if l = [94] then (bits .xor .i32 a b, 0)
  else if l = [60, 60] then (wrap32 (a * 2 ^ (b % 32).toNat), 0) else if l = [62, 62] then (a / 2 ^ (b % 32).toNat, 0)
  else if l = [61, 61] then (tr (a == b), 0) else if l = [33, 61] then (tr (a != b), 0)
  else if l = [60] then (tr (decide (a < b)), 0) else if l = [60, 61] then (tr (decide (a ≤ b)), 0)
  else if l = [62] then (tr (decide (b < a)), 0) else if l = [62, 61] then (tr (decide (b ≤ a)), 0) else (0, 0)
def bn64 (l : List UInt8) (a b : Int) : Int × Int :=
  if l = [43] then (wrap64 (a + b), 0) else if l = [45] then (wrap64 (a - b), 0) else if l = [42] then (wrap64 (a * b), 0)
  else if l = [47] then (if b = 0 then (0, 1) else if a = -9223372036854775808 ∧ b = -1 then (0, 2) else (a.tdiv b, 0))
  else if l = [37] then (if b = 0 then (0, 1) else (a.tmod b, 0))
  else if l = [38] then (bits .and .i64 a b, 0) else if l = [124] then (bits .or .i64 a b, 0) else if l = [94] then (bits .xor .i64 a b, 0)
  else if l = [60, 60] then (wrap64 (a * 2 ^ (b % 64).toNat), 0) else if l = [62, 62] then (a / 2 ^ (b % 64).toNat, 0)
  else if l = [61, 61] then (tr (a == b), 0) else if l = [33, 61] then (tr (a != b), 0)
  else if l = [60] then (tr (decide (a < b)), 0) else if l = [60, 61] then (tr (decide (a ≤ b)), 0)
  else if l = [62] then (tr (decide (b < a)), 0) else if l = [62, 61] then (tr (decide (b ≤ a)), 0) else (0, 0)
/-- What 'Bin' answers. -/
def bn (t : Int) (l : List UInt8) (a b : Int) : Int × Int :=
  if t = 1 then bn32 l (wrap32 a) (wrap32 b) else if t = 2 then bn64 l a b else (0, 0)
end Go.Proofs.Ytgcjfbgfoiekmaa
