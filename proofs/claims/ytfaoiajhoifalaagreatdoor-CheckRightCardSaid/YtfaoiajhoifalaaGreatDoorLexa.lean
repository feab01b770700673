/-
  Walks of layer lex: the bytes' tests, the ends of blanks and comments.
-/
import Derived.Test.YtfaoiajhoifalaaGreatDoorProg
import Derived.Test.YtfaoiajhoifalaaGreatDoorLexm
import Derived.Test.YtfaoiajhoifalaaGreatDoorShelf
import Derived.WalkKit
import Derived.WalkSpells
import Derived.WalkLawsBesides
import Derived.Lib.Hide
import Derived.ScopeJumps
namespace Go.Proofs.YtfaoiajhoifalaaGreatDoor
open Go.RowKit
set_option linter.unusedVariables false
set_option linter.unusedSimpArgs false

theorem hd_at (f : UInt8 → Bool) (s : ByteArray) (k : Nat) (h : k < s.size) : hd f (s.data.toList.drop k) = f s[k] := by
  rw [List.drop_eq_getElem_cons (by rw [← Lib.size_eq]; exact h)]
  rfl
theorem hd_end (f : UInt8 → Bool) (s : ByteArray) (k : Nat) (h : s.size ≤ k) : hd f (s.data.toList.drop k) = false := by
  rw [List.drop_of_length_le (by rw [← Lib.size_eq]; exact h)]
  rfl
theorem ret_bool {a b : Bool} (h : a = b) : Ending.returned (.bool a) = .returned (.bool b) := by rw [h]
theorem ret_int {k : IntKind} {a b : Int} (h : a = b) : Ending.returned (.int k a) = .returned (.int k b) := by rw [h]

theorem isLetter_any (c : UInt8) (w : World) :
    Calls Tryz.prog 104 #[.int .u8 c.toNat] w fun e w' => e = .returned (.bool (isL c)) ∧ w = w' := by
  go_enter Tryz.func104, Tryz.ntmps104
  go_wp2
  all_goals (go_ret; refine ⟨ret_bool ?_, rfl⟩; rw [Bool.eq_iff_iff]; simp [isL]; omega)

theorem isDigit_any (c : UInt8) (w : World) :
    Calls Tryz.prog 106 #[.int .u8 c.toNat] w fun e w' => e = .returned (.bool (isD c)) ∧ w = w' := by
  go_enter Tryz.func106, Tryz.ntmps106
  go_wp2
  all_goals (go_ret; refine ⟨ret_bool ?_, rfl⟩; rw [Bool.eq_iff_iff]; simp [isD]; omega)

theorem isInName_any (c : UInt8) (w : World) :
    Calls Tryz.prog 140 #[.int .u8 c.toNat] w fun e w' => e = .returned (.bool (isN c)) ∧ w = w' := by
  go_enter Tryz.func140, Tryz.ntmps140
  go_wp2_with (first
    | (go_at_call 104; refine (isLetter_any _ _).mono ?_; rintro e w1 ⟨rfl, rfl⟩)
    | (go_at_call 106; refine (isDigit_any _ _).mono ?_; rintro e w1 ⟨rfl, rfl⟩))
  all_goals (go_ret; refine ⟨ret_bool ?_, rfl⟩; simp_all [isN])

end Go.Proofs.YtfaoiajhoifalaaGreatDoor
