/-
  Package clone: a slice that is read is cloned (slices.Clone at three element types), and a text (strings.Clone).
-/
import Derived.Test.YtjmlpbnejcfnhaaIva
import Derived.Test.YtjmlpbnejcfnhaaIo
import Derived.Test.YtjmlpbnejcfnhaaShelf2
import Derived.Lib.SliceRun
import Derived.Laws.OwnMore
import Derived.OwnWalk
import Derived.WalkSpells
namespace Go.Proofs.Ytjmlpbnejcfnhaa
open Go Go.RowKit Go.Maps
set_option linter.unusedVariables false
set_option linter.unusedSimpArgs false

/-- A slice that is read: its n elements' cells. -/
def RdS (w : World) (v : Value) (n : Nat) (xs : List Value) : Prop := ∃ A c, v = .slice A n c ∧ ((A = none ∧ xs = []) ∨ ∃ b o, A = some ⟨b, o, none⟩ ∧ ∀ (j : Nat) (u : Value), xs[j]? = some u → b < w.heap.size ∧ w.cell? ⟨b, o + j, none⟩ = some u)
theorem RdS.on {w w' : World} {v : Value} {n : Nat} {xs : List Value} (h : RdS w v n xs) (hb : Below w.heap.size w w') : RdS w' v n xs := by
  obtain ⟨A, c, e, h⟩ := h
  refine ⟨A, c, e, h.imp id ?_⟩
  rintro ⟨b, o, e, hc⟩
  refine ⟨b, o, e, fun j u hj => ?_⟩
  obtain ⟨h1, h2⟩ := hc j u hj
  exact ⟨Nat.lt_of_lt_of_le h1 hb.size, (hb.cell (p := ⟨b, _, none⟩) h1).trans h2⟩
abbrev tIns : TypeId := 72
abbrev tBlo : TypeId := 46
theorem infoCnN : (Try.prog.info? tIns).map (fun i => (i.zero, i.size, i.bytes)) = some (some (.agg #[.int .i64 0, .int .i64 0, .int .i64 0, .int .i64 0, .int .i64 0, .int .i64 0, .string ⟨#[]⟩, .slice none 0 0]), 8, 88) := by kernel_rfl
set_option maxHeartbeats 1000000 in
set_option maxRecDepth 100000 in
theorem cloneCnN_any {w : World} {v : Value} {n : Nat} {xs : List Value} (h : RdS w v n xs) (hl : xs.length = n * 8) (hn : n ≤ 1000000) (h1 : ∀ u ∈ xs, u.oneCell' = true) :
    Calls Try.prog 69 #[v] w fun e w' => ∃ v', e = .returned v' ∧ w'.ownsRow w.heap.size tIns 8 v' n xs ∧ (1 ≤ n → ∃ g c, v' = .slice (some ⟨g, 0, none⟩) n c) ∧ Below w.heap.size w w' := by
  obtain ⟨i0, hi, hz0, hz1, hz2⟩ := info_parts infoCnN
  have q22 : ∀ (w : World) (a : Option Addr) (n c n' c' : Nat), (binOp .eql 44 (.slice a n c) (.slice none n' c')).run Try.prog w = .ok (.bool a.isNone) w := fun w a n c n' c' => Lib.run_eql_slice_nil w _ _ a n c n' c' Try.underlying44
  obtain ⟨A, c, rfl, h⟩ := h
  rcases h with ⟨rfl, rfl⟩ | ⟨b, o, rfl, hc⟩
  · obtain rfl : n = 0 := by simp only [List.length_nil] at hl; omega
    go_enter Try.func69, Try.ntmps69
    go_wp2_with fail
    go_ret
    exact ⟨_, rfl, World.ownsRow_nil _ _ _ _, fun e => by omega, Below.refl _ _⟩
  · have HC := Lib.hid hc
    clear hc
    go_enter Try.func69, Try.ntmps69
    go_wp2_with (at_builtin; refine wpList_append_own _ rfl _ _ 44 rfl w.heap.size tIns i0 _ 8 88 Try.underlying44 hi hz0 hz1 hz2 rfl (by omega) _ _ _ rfl (World.ownsRow_made w #[] 0 (Nat.le_refl _) (Nat.zero_le _) (by simp)) ⟨b, o, none⟩ n c xs rfl ?qc1 ?qc2 ?qc3 ?qc4 ?qc5 ?qc6 ?_)
    case qc1 => exact hl
    case qc2 =>
      intro j u hj
      rw [Addr.add_lit]
      exact (((Below.refl _ w).alloc (Nat.le_refl _) _).cell (p := ⟨b, _, none⟩) (HC.out j u hj).1).trans (HC.out j u hj).2
    case qc3 => exact h1
    case qc4 => rw [Nat.zero_add]; unfold maxLen; omega
    case qc5 => rw [Nat.zero_add]; omega
    case qc6 => simp
    intro v' w1 hown hgrow hnil
    have HF := Lib.hid (And.intro hown (And.intro hgrow hnil))
    clear hown hgrow hnil
    go_wp2_with fail
    go_ret
    obtain ⟨hown, hgrow, hnil⟩ := HF.out
    refine ⟨v', rfl, by simpa using hown, fun hn1 => ?_, ((Below.refl _ w).alloc (Nat.le_refl _) _).grown hgrow (by simp) (by intro k hk; simp [Value.ownBlock] at hk; omega)⟩
    rcases hown.2 with ⟨-, e⟩ | ⟨g, cap, cur, e, _⟩
    · omega
    · exact ⟨g, cap, by simpa using e⟩
theorem infoCnB : (Try.prog.info? tBlo).map (fun i => (i.zero, i.size, i.bytes)) = some (some (.agg #[.slice none 0 0, .int .i64 0, .int .i64 0, .int .i64 0, .int .i64 0]), 5, 56) := by kernel_rfl
set_option maxHeartbeats 1000000 in
set_option maxRecDepth 100000 in
theorem cloneCnB_any {w : World} {v : Value} {n : Nat} {xs : List Value} (h : RdS w v n xs) (hl : xs.length = n * 5) (hn : n ≤ 1000000) (h1 : ∀ u ∈ xs, u.oneCell' = true) :
    Calls Try.prog 52 #[v] w fun e w' => ∃ v', e = .returned v' ∧ w'.ownsRow w.heap.size tBlo 5 v' n xs ∧ (1 ≤ n → ∃ g c, v' = .slice (some ⟨g, 0, none⟩) n c) ∧ Below w.heap.size w w' := by
  obtain ⟨i0, hi, hz0, hz1, hz2⟩ := info_parts infoCnB
  have q22 : ∀ (w : World) (a : Option Addr) (n c n' c' : Nat), (binOp .eql 32 (.slice a n c) (.slice none n' c')).run Try.prog w = .ok (.bool a.isNone) w := fun w a n c n' c' => Lib.run_eql_slice_nil w _ _ a n c n' c' Try.underlying32
  obtain ⟨A, c, rfl, h⟩ := h
  rcases h with ⟨rfl, rfl⟩ | ⟨b, o, rfl, hc⟩
  · obtain rfl : n = 0 := by simp only [List.length_nil] at hl; omega
    go_enter Try.func52, Try.ntmps52
    go_wp2_with fail
    go_ret
    exact ⟨_, rfl, World.ownsRow_nil _ _ _ _, fun e => by omega, Below.refl _ _⟩
  · have HC := Lib.hid hc
    clear hc
    go_enter Try.func52, Try.ntmps52
    go_wp2_with (at_builtin; refine wpList_append_own _ rfl _ _ 32 rfl w.heap.size tBlo i0 _ 5 56 Try.underlying32 hi hz0 hz1 hz2 rfl (by omega) _ _ _ rfl (World.ownsRow_made w #[] 0 (Nat.le_refl _) (Nat.zero_le _) (by simp)) ⟨b, o, none⟩ n c xs rfl ?qc1 ?qc2 ?qc3 ?qc4 ?qc5 ?qc6 ?_)
    case qc1 => exact hl
    case qc2 =>
      intro j u hj
      rw [Addr.add_lit]
      exact (((Below.refl _ w).alloc (Nat.le_refl _) _).cell (p := ⟨b, _, none⟩) (HC.out j u hj).1).trans (HC.out j u hj).2
    case qc3 => exact h1
    case qc4 => rw [Nat.zero_add]; unfold maxLen; omega
    case qc5 => rw [Nat.zero_add]; omega
    case qc6 => simp
    intro v' w1 hown hgrow hnil
    have HF := Lib.hid (And.intro hown (And.intro hgrow hnil))
    clear hown hgrow hnil
    go_wp2_with fail
    go_ret
    obtain ⟨hown, hgrow, hnil⟩ := HF.out
    refine ⟨v', rfl, by simpa using hown, fun hn1 => ?_, ((Below.refl _ w).alloc (Nat.le_refl _) _).grown hgrow (by simp) (by intro k hk; simp [Value.ownBlock] at hk; omega)⟩
    rcases hown.2 with ⟨-, e⟩ | ⟨g, cap, cur, e, _⟩
    · omega
    · exact ⟨g, cap, by simpa using e⟩
theorem infoCnI : (Try.prog.info? tI1).map (fun i => (i.zero, i.size, i.bytes)) = some (some (.int .i64 0), 1, 8) := by kernel_rfl
set_option maxHeartbeats 1000000 in
set_option maxRecDepth 100000 in
theorem cloneCnI_any {w : World} {v : Value} {n : Nat} {xs : List Value} (h : RdS w v n xs) (hl : xs.length = n * 1) (hn : n ≤ 1000000) (h1 : ∀ u ∈ xs, u.oneCell' = true) :
    Calls Try.prog 50 #[v] w fun e w' => ∃ v', e = .returned v' ∧ w'.ownsRow w.heap.size tI1 1 v' n xs ∧ (1 ≤ n → ∃ g c, v' = .slice (some ⟨g, 0, none⟩) n c) ∧ Below w.heap.size w w' := by
  obtain ⟨i0, hi, hz0, hz1, hz2⟩ := info_parts infoCnI
  have q22 : ∀ (w : World) (a : Option Addr) (n c n' c' : Nat), (binOp .eql 31 (.slice a n c) (.slice none n' c')).run Try.prog w = .ok (.bool a.isNone) w := fun w a n c n' c' => Lib.run_eql_slice_nil w _ _ a n c n' c' Try.underlying31
  obtain ⟨A, c, rfl, h⟩ := h
  rcases h with ⟨rfl, rfl⟩ | ⟨b, o, rfl, hc⟩
  · obtain rfl : n = 0 := by simp only [List.length_nil] at hl; omega
    go_enter Try.func50, Try.ntmps50
    go_wp2_with fail
    go_ret
    exact ⟨_, rfl, World.ownsRow_nil _ _ _ _, fun e => by omega, Below.refl _ _⟩
  · have HC := Lib.hid hc
    clear hc
    go_enter Try.func50, Try.ntmps50
    go_wp2_with (at_builtin; refine wpList_append_own _ rfl _ _ 31 rfl w.heap.size tI1 i0 _ 1 8 Try.underlying31 hi hz0 hz1 hz2 rfl (by omega) _ _ _ rfl (World.ownsRow_made w #[] 0 (Nat.le_refl _) (Nat.zero_le _) (by simp)) ⟨b, o, none⟩ n c xs rfl ?qc1 ?qc2 ?qc3 ?qc4 ?qc5 ?qc6 ?_)
    case qc1 => exact hl
    case qc2 =>
      intro j u hj
      rw [Addr.add_lit]
      exact (((Below.refl _ w).alloc (Nat.le_refl _) _).cell (p := ⟨b, _, none⟩) (HC.out j u hj).1).trans (HC.out j u hj).2
    case qc3 => exact h1
    case qc4 => rw [Nat.zero_add]; unfold maxLen; omega
    case qc5 => rw [Nat.zero_add]; omega
    case qc6 => simp
    intro v' w1 hown hgrow hnil
    have HF := Lib.hid (And.intro hown (And.intro hgrow hnil))
    clear hown hgrow hnil
    go_wp2_with fail
    go_ret
    obtain ⟨hown, hgrow, hnil⟩ := HF.out
    refine ⟨v', rfl, by simpa using hown, fun hn1 => ?_, ((Below.refl _ w).alloc (Nat.le_refl _) _).grown hgrow (by simp) (by intro k hk; simp [Value.ownBlock] at hk; omega)⟩
    rcases hown.2 with ⟨-, e⟩ | ⟨g, cap, cur, e, _⟩
    · omega
    · exact ⟨g, cap, by simpa using e⟩
theorem sclone_any (s : List UInt8) (hs : s.length ≤ 1000000) (w : World) : Calls Try.prog 51 #[.string (str s)] w fun e w' => e = .returned (.string (str s)) ∧ Below w.heap.size w w' := by
  have hsz : (str s).size ≤ 281474976710656 := by rw [str_size]; omega
  have HC := Lib.hid (Try.stringslite_Clone (str s) w hsz)
  clear hsz
  go_enter Try.func51, Try.ntmps51
  go_wp2_with fail
  refine HC.out.mono ?_
  clear HC
  rintro e w1 ⟨rfl, hb1⟩
  go_wp2_with fail
  go_ret
  exact ⟨rfl, hb1⟩
end Go.Proofs.Ytjmlpbnejcfnhaa
