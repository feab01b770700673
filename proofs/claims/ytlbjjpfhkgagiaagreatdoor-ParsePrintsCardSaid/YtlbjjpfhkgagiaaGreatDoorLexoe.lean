/-
  PLAIN MATHEMATICS of layer lex: of a text with an error no token is told.
-/
import Derived.Test.YtlbjjpfhkgagiaaGreatDoorLexo
namespace Go.Proofs.YtlbjjpfhkgagiaaGreatDoor
set_option linter.unusedVariables false
set_option linter.unusedSimpArgs false

theorem sq_err (n : Nat) : ∀ (a : Nat) (l : List UInt8) (pre : List Tok), (res pre (sq n a l)).2.1 ≠ 0 → (res pre (sq n a l)).1 = [] ∧ (a : Int) ≤ (res pre (sq n a l)).2.2 ∧ (res pre (sq n a l)).2.2 < ((a + l.length : Nat) : Int) := by
  induction n with
  | zero => intro a l pre h; exact absurd rfl h
  | succ n ih =>
    intro a l pre h
    rw [sq] at h ⊢
    by_cases hl : l = []
    · rw [if_pos hl] at h; simp [res] at h
    · rw [if_neg hl] at h ⊢
      have hl1 := List.length_pos_iff.2 hl
      by_cases h0 : (sc l).2.2 ≠ 0
      · rw [if_pos h0] at h ⊢
        rw [res, if_pos h0]
        refine ⟨rfl, ?_, ?_⟩
        · show (a : Int) ≤ (a : Int); omega
        · show (a : Int) < _; omega
      · rw [if_neg h0] at h ⊢
        rw [res, if_neg (by simp)] at h ⊢
        have hsz := sc_size (l := l) (by simpa using h0)
        have hsk := sk_le false (l.drop (sc l).2.1)
        rw [List.length_drop] at hsk
        obtain ⟨h1, h2, h3⟩ := ih _ _ _ h
        refine ⟨h1, by omega, ?_⟩
        rw [List.length_drop] at h3
        omega

theorem lex_err {l : List UInt8} (hl : l.length ≤ 1048576) (h : (lexL l).2.1 ≠ 0) : (lexL l).1 = [] ∧ 0 ≤ (lexL l).2.2 ∧ (lexL l).2.2 < (l.length : Int) := by
  rw [lexL, if_neg (by omega)] at h ⊢
  have h2 := sk_le false l
  have := sq_err (l.length + 1 - sk false l) (sk false l) (l.drop (sk false l)) []
  unfold seqL seqAt skAt at h ⊢
  rw [List.drop_zero, Nat.zero_add] at h ⊢
  obtain ⟨h3, h4, h5⟩ := this h
  rw [List.length_drop] at h5
  exact ⟨h3, by omega, by omega⟩

end Go.Proofs.YtlbjjpfhkgagiaaGreatDoor
