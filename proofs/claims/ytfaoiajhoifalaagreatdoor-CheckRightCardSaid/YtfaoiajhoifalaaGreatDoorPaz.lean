/-
  Layer parse: the recursion is tied: expressions, operands, arguments, statements, blocks.
-/
import Derived.Test.YtfaoiajhoifalaaGreatDoorParz
namespace Go.Proofs.YtfaoiajhoifalaaGreatDoor
open Go.RowKit
set_option linter.unusedVariables false
set_option linter.unusedSimpArgs false

theorem run_tie {X : Rdr} {es : Array MapEntry} {clock : Nat} (hmo : X.mo = .map es clock) (hes : es.toList = stEs) (n : Nat) : KBn X (run X.e n) ∧ KOp X (run X.e n) ∧ KAr X (run X.e n) ∧ KSt X (run X.e n) := by
  induction n using Nat.strongRecOn with
  | _ n ih =>
    cases n with
    | zero => exact ⟨fun d l w s ns v _ _ _ _ h => absurd rfl h, fun d w s ns v _ _ h => absurd rfl h, fun d w s ns v _ _ h => absurd rfl h, fun d w s ns v _ _ h => absurd rfl h⟩
    | succ n =>
      have h0 := ih n (by omega)
      have hX : KEx X (run X.e n) := expression_any h0.1
      have hL : KEl X (run X.e n) := fun f d w s ns v hd h hno => element_any hX h f d hd hno
      have hB : ∀ (d : Nat) (w : World) (s : St) (ns : List NV) (v : Value), d ≤ 40 → At X w s ns v → blockB X.e (run X.e n) d s ≠ .out → Calls Tryz.prog 109 #[rd X, .int .i64 d] w (RT X w ns v (blockB X.e (run X.e n) d s)) :=
        fun d w s ns v hd h hno => block_any n (fun j hj => (ih j (by omega)).2.2.2) h d hd hno
      exact ⟨fun d l w s ns v hd h1 h2 h hno => binary_any n h0.2.1 (fun j hj => (ih j (by omega)).1) h d l hd h1 h2 hno,
        fun d w s ns v hd h hno => operand_any h0.2.1 hX h0.2.2.1 hL h d hd hno,
        fun d w s ns v hd h hno => arguments_any n (fun j hj => expression_any (ih j (by omega)).1) h d hd hno,
        fun d w s ns v hd h hno => statement_any hmo hes hX h0.2.2.2 h0.2.2.1 hB h d hd hno⟩

/-- A block, in whatever reader. -/
theorem block_ok {X : Rdr} {es : Array MapEntry} {clock : Nat} (hmo : X.mo = .map es clock) (hes : es.toList = stEs) (n : Nat) {w : World} {s : St} {ns : List NV} {v : Value} (h : At X w s ns v) (d : Nat) (hd : d ≤ 40)
    (hno : blockB X.e (run X.e n) d s ≠ .out) : Calls Tryz.prog 109 #[rd X, .int .i64 d] w (RT X w ns v (blockB X.e (run X.e n) d s)) :=
  block_any n (fun j hj => (run_tie hmo hes j).2.2.2) h d hd hno
end Go.Proofs.YtfaoiajhoifalaaGreatDoor
