/-
  What a run answers: with more steps, with other inputs (mathematics over runM).
-/
import Derived.Test.YtgcjfbgfoiekmaaIwb
namespace Go.Proofs.Ytgcjfbgfoiekmaa
open Go Go.RowKit Go.Maps
set_option linter.unusedVariables false
set_option linter.unusedSimpArgs false

theorem runM_ends (m : Mdl) (inp : List Int) (st : Int) : ex m (fuelM st) (.call (mainAt m) []) (st0 m inp st) ≠ .out := ex_ends m _ _ _ (by simp [need, fuelM, st0])
theorem runM_eq (m : Mdl) (inp : List Int) {st : Int} {n : Nat} (hn : fuelM st ≤ n) : runM m inp st = ranOf (ex m n (.call (mainAt m) []) (st0 m inp st)) := by
  unfold runM
  rw [ex_fuel_le m _ _ (runM_ends m inp st) hn]
/-- How a run may end: Done; out of steps, with the code 0; a trap, with a code from 1 to 4. -/
def Ran.fine (r : Ran) : Prop := r.status = 1 ∨ (r.status = 3 ∧ r.code = 0) ∨ (r.status = 2 ∧ 1 ≤ r.code ∧ r.code ≤ 4)
theorem runM_fine (m : Mdl) (inp : List Int) {st : Int} (h0 : 0 ≤ st) : (runM m inp st).fine ∧ ((runM m inp st).out.length : Int) ≤ st := by
  have h := ex_good m (fuelM st) (.call (mainAt m) []) (st0 m inp st)
  have hn := runM_ends m inp st
  unfold runM
  cases hr : ex m (fuelM st) (.call (mainAt m) []) (st0 m inp st) with
  | ok v s =>
    rw [hr] at h
    obtain ⟨h1, h2, h3, h4⟩ : Adv 0 _ s := h
    refine ⟨.inl rfl, ?_⟩
    simp only [st0, List.length_nil] at h3 h4
    simp only [ranOf]
    have := h4 h0
    omega
  | er a b s =>
    rw [hr] at h
    obtain ⟨⟨h1, h2, h3, h4⟩, h5⟩ := h
    refine ⟨h5.elim (fun h => .inr (.inl h)) (fun h => .inr (.inr h)), ?_⟩
    simp only [st0, List.length_nil] at h3 h4
    simp only [ranOf]
    have := h4 h0
    omega
  | out => exact absurd hr hn
theorem runM_more (m : Mdl) (inp : List Int) {st k : Int} (h0 : 0 ≤ st) (hk : 0 ≤ k) : (runM m inp st).out <+: (runM m inp (st + k)).out ∧ ((runM m inp st).status ≠ 3 → runM m inp (st + k) = runM m inp st) := by
  have e1 := runM_eq m inp (st := st) (n := fuelM (st + k)) (by unfold fuelM; omega)
  have h := ex_more m hk (fuelM (st + k)) (.call (mainAt m) []) (st0 m inp st)
  have hn := runM_ends m inp (st + k)
  rw [e1]
  have e2 : (st0 m inp st).up k = st0 m inp (st + k) := rfl
  rw [e2] at h
  unfold runM
  cases hr : ex m (fuelM (st + k)) (.call (mainAt m) []) (st0 m inp st) with
  | ok v s =>
    rw [hr] at h
    rw [show ex m (fuelM (st + k)) (.call (mainAt m) []) (st0 m inp (st + k)) = .ok v (s.up k) from h]
    exact ⟨List.prefix_refl _, fun _ => rfl⟩
  | er a b s =>
    rw [hr] at h
    rcases h with ⟨ha, h⟩ | ⟨ha, h⟩
    · rw [h]; exact ⟨List.prefix_refl _, fun _ => rfl⟩
    · refine ⟨?_, fun hc => absurd ha hc⟩
      cases hr' : ex m (fuelM (st + k)) (.call (mainAt m) []) (st0 m inp (st + k)) with
      | ok v t => rw [hr'] at h; exact h
      | er a' b' t => rw [hr'] at h; exact h
      | out => exact absurd hr' hn
  | out =>
    exact absurd hr (by rw [ex_fuel_le m _ _ (runM_ends m inp st) (show fuelM st ≤ fuelM (st + k) by unfold fuelM; omega)]; exact runM_ends m inp st)
theorem runM_sim (m : Mdl) {inp inp' : List Int} {st : Int} (h : ∀ j : Nat, (j : Int) < st → inp'.getD j 0 = inp.getD j 0) : runM m inp' st = runM m inp st := by
  have hs := ex_sim m (fuelM st) (.call (mainAt m) []) (st0 m inp st) (st0 m inp' st) ⟨rfl, rfl, rfl, rfl, rfl, fun j hj => h j (by simp only [st0] at hj; omega)⟩
  unfold runM
  cases hr : ex m (fuelM st) (.call (mainAt m) []) (st0 m inp st) with
  | ok v s => rw [hr] at hs; obtain ⟨t, e, ht⟩ := hs; rw [e]; simp only [ranOf, ht.1]
  | er a b s => rw [hr] at hs; obtain ⟨t, e, ht⟩ := hs; rw [e]; simp only [ranOf, ht]
  | out => exact absurd hr (runM_ends m inp st)
theorem runM_noughts (m : Mdl) (inp : List Int) (st : Int) (n : Nat) : runM m (inp ++ List.replicate n 0) st = runM m inp st := by
  refine runM_sim m fun j _ => ?_
  simp only [List.getD_eq_getElem?_getD, List.getElem?_append, List.getElem?_replicate]
  by_cases h : j < inp.length
  · rw [if_pos h]
  · rw [if_neg h, List.getElem?_eq_none (l := inp) (by omega)]
    split <;> rfl
theorem runM_behind (m : Mdl) (inp other : List Int) {st : Int} (hn : st.toNat < inp.length) : runM m (inp.take st.toNat ++ other) st = runM m inp st := by
  refine runM_sim m fun j hj => ?_
  simp only [List.getD_eq_getElem?_getD]
  rw [List.getElem?_append_left (by simp; omega), List.getElem?_take_of_lt (by omega)]
end Go.Proofs.Ytgcjfbgfoiekmaa
