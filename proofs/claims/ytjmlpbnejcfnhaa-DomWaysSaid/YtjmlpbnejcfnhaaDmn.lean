/-
  Layer dom: the mathematics of the first loop of dominators.
-/
import Derived.Test.YtjmlpbnejcfnhaaDmm
namespace Go.Proofs.Ytjmlpbnejcfnhaa
open Go Go.RowKit Go.Maps
set_option linter.unusedVariables false
set_option linter.unusedSimpArgs false

/-- The nearest ones, while they are reckoned: each is lower than its own number. -/
structure NrOk (K : Nat) (s : List Nat) : Prop where
  len : s.length = K
  z : s.getD 0 0 = 0
  lt : ∀ i, 0 < i → i < K → s.getD i 0 < i
theorem NrOk.step {K n : Nat} {s : List Nat} (h : NrOk K s) (hn : n < K) (hs : 0 < s.getD n 0) : NrOk K (s.set n (s.getD (s.getD n 0) 0)) ∧ s.getD (s.getD n 0) 0 < s.getD n 0 := by
  have hn0 : 0 < n := by
    rcases Nat.eq_zero_or_pos n with e | e
    · rw [e, h.z] at hs; omega
    · exact e
  have h1 := h.lt n hn0 hn
  have h2 := h.lt (s.getD n 0) hs (by omega)
  refine ⟨⟨by rw [List.length_set, h.len], ?_, fun i hi hk => ?_⟩, h2⟩
  · rw [List.getD_eq_getElem?_getD, List.getElem?_set_ne (by omega), ← List.getD_eq_getElem?_getD, h.z]
  · by_cases e : n = i
    · subst e
      rw [List.getD_eq_getElem?_getD, List.getElem?_set_self (by rw [h.len]; exact hn)]
      simp only [Option.getD_some]
      omega
    · rw [List.getD_eq_getElem?_getD, List.getElem?_set_ne e, ← List.getD_eq_getElem?_getD]
      exact h.lt i hi hk
/-- With fuel above what stands at n, one more changes nothing: a round of the loop is one step of nearN. -/
theorem nearN_step (se : List Nat) (n F : Nat) (s : List Nat) : nearN se n (F + 1) s = if se.getD n 0 < s.getD n 0 then nearN se n F (s.set n (s.getD (s.getD n 0) 0)) else s := rfl
end Go.Proofs.Ytjmlpbnejcfnhaa
