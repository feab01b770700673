/-
  Walks of layer lex: the chapter's first text.
-/
import Derived.Test.YtpmljgnnfljjpaaDoorLexk
namespace Go.Proofs.YtpmljgnnfljjpaaDoor
open Go.RowKit
set_option linter.unusedVariables false
set_option linter.unusedSimpArgs false

/-- What a caller has of Lex's answer. -/
theorem lex_use {w : World} {x : List Tok × Int × Int} {e : Ending} {w' : World} (h : LexPost w x e w') :
    ∃ A c, e = .returned (.tuple #[.slice A x.1.length c, .agg #[.int .i64 x.2.1, .int .i64 x.2.2]]) ∧ RdT w' w'.heap.size A x.1 ∧ x.1.length ≤ c ∧ c ≤ maxLen ∧ Below w.heap.size w w' ∧ w'.ownsRow w.heap.size tE 4 (.slice A x.1.length c) x.1.length (cellsT x.1) := by
  obtain ⟨v, rfl, hr, hb⟩ := h
  obtain ⟨A, c, rfl⟩ : ∃ A c, v = .slice A x.1.length c := by
    rcases hr.2 with ⟨rfl, h0⟩ | ⟨g, cap, cur, rfl, _⟩
    · exact ⟨none, 0, by rw [h0]⟩
    · exact ⟨_, _, rfl⟩
  obtain ⟨h1, h2, h3⟩ := RdT.of_own hr rfl
  exact ⟨A, c, rfl, h1, h2, h3, hb, hr⟩

def kn1 : List Tok := [⟨1, 0, 0, [97]⟩, ⟨3, 1, 0, [60, 60]⟩, ⟨3, 3, 0, [61]⟩, ⟨1, 4, 0, [98, 49]⟩, ⟨4, 6, 0, []⟩]
theorem lex_kn1 : lexL [97, 60, 60, 61, 98, 49] = (kn1, 0, 0) := by decide
theorem lex_kn2 : lexL [49, 32, 48, 49] = ([], 2, 2) := by decide

theorem own_cells {w : World} {base n cap g : Nat} {toks : List Tok} (h : w.ownsRow base tE 4 (.slice (some ⟨g, 0, none⟩) n cap) n (cellsT toks)) (j : Nat) (u : Value) (hu : (cellsT toks)[j]? = some u) : w.cell? ⟨g, j, none⟩ = some u := by
  have h1 := h.cells (g := g) rfl j u hu
  rw [Addr.add_mid, Nat.zero_add] at h1
  exact h1

set_option maxHeartbeats 2000000 in
set_option maxRecDepth 100000 in
theorem known_any (w : World) (hE : Env w) :
    Calls Tryd.prog 8 #[] w fun e w' => e = .returned (.bool true) ∧ Below w.heap.size w w' := by
  have hs1 : (str [97, 60, 60, 61, 98, 49]).size ≤ maxLen := by decide
  have hs2 : (str [49, 32, 48, 49]).size ≤ maxLen := by decide
  go_enter Tryd.func8, Tryd.ntmps8
  go_wp2_with fail
  refine (lex_any (str [97, 60, 60, 61, 98, 49]) hs1 w hE).mono ?_
  rintro e w1 hp1
  obtain ⟨v, rfl, hr1, hb1⟩ := hp1
  rw [show (str [97, 60, 60, 61, 98, 49]).data.toList = [97, 60, 60, 61, 98, 49] from rfl, lex_kn1] at hr1 ⊢
  obtain ⟨g, cap, rfl⟩ := ownsRow_succ (k := 4) hr1
  have c7 := own_cells hr1 7 (.string (str [60, 60])) rfl
  have c11 := own_cells hr1 11 (.string (str [61])) rfl
  have c15 := own_cells hr1 15 (.string (str [98, 49])) rfl
  have c13 := own_cells hr1 13 (.int .i64 4) rfl
  have c16 := own_cells hr1 16 (.int .i64 4) rfl
  have hgl : g < w1.heap.size := World.block_lt_of_cell? w1 _ c7
  have hE1 : Env (w1.alloc (.cells #[.int .i64 0, .int .i64 0] tD)) := (hE.of hb1).of ((Below.refl _ _).alloc (Nat.le_refl _) _)
  clear hr1
  go_wp2_with fail
  refine (lex_any (str [49, 32, 48, 49]) hs2 _ hE1).mono ?_
  rintro e w2 hp2
  obtain ⟨v2, rfl, hr2, hb2⟩ := hp2
  rw [show (str [49, 32, 48, 49]).data.toList = [49, 32, 48, 49] from rfl, lex_kn2] at hr2 ⊢
  obtain ⟨A2, cc2, rfl⟩ : ∃ A c, v2 = .slice A 0 c := by
    rcases hr2.2 with ⟨rfl, h0⟩ | ⟨g, cap, cur, rfl, _⟩
    · exact ⟨none, 0, rfl⟩
    · exact ⟨_, _, rfl⟩
  clear hr2 hE1
  obtain ⟨hcl, hfr⟩ := bcell hb2
  have hg2 : g < w2.heap.size := by have := hb2.size; simp at this; omega
  have hz2 : w1.heap.size < w2.heap.size := by have := hb2.size; simp at this; omega
  have HB1 := Lib.hid hb1
  have HB2 := Lib.hid hb2
  clear hb1 hb2
  go_wp2
  go_ret
  have h2 := HB1.out.alloc HB1.out.size (.cells #[.int .i64 0, .int .i64 0] tD)
  have h3 := h2.trans (HB2.out.mono h2.size)
  exact ⟨rfl, h3.alloc h3.size _⟩

/-- The same, further up. -/
theorem known_at (w0 w : World) (hE : Env w0) (hb : Below w0.heap.size w0 w) :
    Calls Tryd.prog 8 #[] w fun e w' => e = .returned (.bool true) ∧ Below w0.heap.size w0 w' :=
  (known_any w (hE.of hb)).mono (by rintro e w' ⟨rfl, h⟩; exact ⟨rfl, hb.trans (h.mono hb.size)⟩)
end Go.Proofs.YtpmljgnnfljjpaaDoor
