/-
  Layer dom, mathematics for DomWays: reached in blocks, and reached in the visit's numbers.
-/
import Derived.Test.YtjmlpbnejcfnhaaDmb
namespace Go.Proofs.Ytjmlpbnejcfnhaa
open Go
set_option linter.unusedVariables false

/-- Reached from block 0 by successors, without block a (-1: without any). -/
inductive Rb (T : List (List Nat)) (a : Int) : Nat → Prop
  | root : a ≠ 0 → Rb T a 0
  | step {u v : Nat} : Rb T a u → v ∈ T.getD u [] → (v : Int) ≠ a → Rb T a v
theorem Rb.ne {T : List (List Nat)} {a : Int} {v : Nat} (h : Rb T a v) : (v : Int) ≠ a := by
  cases h with
  | root h => exact fun e => h e.symm
  | step _ _ h => exact h
theorem FinW.rb_blk {N : Nat} {T : List (List Nat)} {k : Wk} (h : FinW N T k) {a : Int} {b : Nat} (hr : Rb T a b) : b ∈ k.blk := by
  induction hr with
  | root _ => exact List.mem_of_getElem? h.zero
  | step _ hv _ ih =>
    obtain ⟨i, hi⟩ := List.getElem?_of_mem ih
    exact h.closed i _ hi _ hv
theorem FinW.rb_rw {N : Nat} {T : List (List Nat)} {k : Wk} (h : FinW N T k) {a i : Nat} (hi : k.blk[i]? = some a) {b : Nat} (hr : Rb T a b) : ∃ j, k.blk[j]? = some b ∧ Rw (k.E T) i j := by
  induction hr with
  | root h0 =>
    refine ⟨0, h.zero, .root fun e => ?_⟩
    subst e
    rw [h.zero] at hi
    cases hi
    exact h0 rfl
  | @step u v hu hv hne ih =>
    obtain ⟨j, hj, hw⟩ := ih
    obtain ⟨j', hj'⟩ := List.getElem?_of_mem (h.closed j u hj v hv)
    refine ⟨j', hj', .step hw ⟨u, v, hj, hv, hj'⟩ fun e => ?_⟩
    subst e
    rw [hi] at hj'
    cases hj'
    exact hne rfl
theorem FinW.rw_rb {N : Nat} {T : List (List Nat)} {k : Wk} (h : FinW N T k) {a : Int} {i : Nat} (hi : ∀ (j b : Nat), k.blk[j]? = some b → (b : Int) = a → j = i) {j : Nat} (hr : Rw (k.E T) i j) : ∀ b, k.blk[j]? = some b → Rb T a b := by
  induction hr with
  | root h0 =>
    intro b hb
    rw [h.zero] at hb
    cases hb
    exact .root fun e => h0 (hi 0 0 h.zero (by rw [e]; rfl)).symm
  | @step u v hu he hne ih =>
    intro b hb
    obtain ⟨c, t, hc, ht, hv⟩ := he
    rw [hb] at hv
    cases hv
    exact .step (ih c hc) ht fun e => hne (hi v b hb e)
/-- Without one block: by the numbers. -/
theorem FinW.rb_iff {N : Nat} {T : List (List Nat)} {k : Wk} (h : FinW N T k) {a b i j : Nat} (hi : k.blk[i]? = some a) (hj : k.blk[j]? = some b) : Rb T a b ↔ Rw (k.E T) i j := by
  constructor
  · intro hr
    obtain ⟨j', hj', hw⟩ := h.rb_rw hi hr
    rw [h.ok.inj hj hj']
    exact hw
  · intro hr
    exact h.rw_rb (fun j' b' hb' e => by
      have e' : b' = a := by omega
      subst e'
      exact h.ok.inj hb' hi) hr b hj
/-- Without none: what is visited. -/
theorem FinW.rb_all {N : Nat} {T : List (List Nat)} {k : Wk} (h : FinW N T k) {b : Nat} : Rb T (-1) b ↔ b ∈ k.blk := by
  constructor
  · exact h.rb_blk
  · intro hb
    obtain ⟨j, hj⟩ := List.getElem?_of_mem hb
    have hjl : j < k.blk.length := (List.getElem?_eq_some_iff.1 hj).1
    have hw : Rw (k.E T) k.blk.length j := h.tr.tree hjl fun ha => by have := ha.le; omega
    exact h.rw_rb (a := -1) (fun j' b' _ e => by omega) hw b hj
/-- What is closed under successors holds all that is reached. -/
theorem rb_closed {T : List (List Nat)} {a : Int} {s : Nat → Bool} (h0 : a ≠ 0 → s 0 = true) (hc : ∀ u v : Nat, s u = true → v ∈ T.getD u [] → (v : Int) ≠ a → s v = true) {b : Nat} (h : Rb T a b) : s b = true := by
  induction h with
  | root h => exact h0 h
  | step _ hv hne ih => exact hc _ _ ih hv hne
/-- Blocks that dominate: by the chain of the nearest ones, where both are reached. -/
theorem FinW.rb_ch {N : Nat} {T : List (List Nat)} {k : Wk} (h : FinW N T k) {a b i j : Nat} (hi : k.blk[i]? = some a) (hj : k.blk[j]? = some b) (hab : a ≠ b) :
    ¬ Rb T a b ↔ Ch (fun i => (nearM (semiM T k) k.par).getD i 0) i j := by
  rw [h.rb_iff hi hj]
  have hjl : j < k.blk.length := (List.getElem?_eq_some_iff.1 hj).1
  exact dom_ch h.tr h.sem.2.2 h.near.1 j hjl i fun e => hab (by subst e; rw [hi] at hj; exact Option.some.inj hj)
end Go.Proofs.Ytjmlpbnejcfnhaa
