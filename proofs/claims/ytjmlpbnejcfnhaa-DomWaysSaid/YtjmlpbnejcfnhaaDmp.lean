/-
  PLAIN MATHEMATICS of layer dom: where blocks stand in the order; a dominator stands ahead of what it dominates. No Go in sight.
-/
import Derived.Test.YtjmlpbnejcfnhaaDmb
namespace Go.Proofs.Ytjmlpbnejcfnhaa
set_option linter.unusedVariables false
set_option linter.unusedSimpArgs false

section
variable {N : Nat} {T : List (List Nat)} {k : Wk}
theorem FinW.ordN (h : FinW N T k) {i b : Nat} (hi : k.ord[i]? = some b) : b < N := by
  obtain ⟨j, hj⟩ := List.getElem?_of_mem ((h.ord b).1 (List.mem_of_getElem? hi))
  exact (h.ok.b j b hj).1
theorem nodup_at {α : Type} {l : List α} (h : l.Nodup) {i j : Nat} {x : α} (hi : l[i]? = some x) (hj : l[j]? = some x) : i = j := by
  obtain ⟨hi1, hi2⟩ := List.getElem?_eq_some_iff.1 hi
  obtain ⟨hj1, hj2⟩ := List.getElem?_eq_some_iff.1 hj
  have hp := List.pairwise_iff_getElem.1 h
  rcases Nat.lt_trichotomy i j with hl | hl | hl
  · exact absurd (hi2.trans hj2.symm) (hp i j hi1 hj1 hl)
  · exact hl
  · exact absurd (hj2.trans hi2.symm) (hp j i hj1 hi1 hl)
theorem placesM_len (N : Nat) (l : List Nat) : (placesM N l).length = N := by
  unfold placesM
  have key : ∀ (r : List Nat) (d : List Nat), (r.foldl (fun p i => p.set (l.getD i 0) i) d).length = d.length := fun r => by
    induction r with
    | nil => intro d; rfl
    | cons a r ih => intro d; rw [List.foldl_cons, ih, List.length_set]
  rw [key, List.length_replicate]
theorem FinW.place (h : FinW N T k) {i b : Nat} (hi : k.ord[i]? = some b) : (placesM N k.ord).getD b 0 = i := by
  have hb : ∀ {i : Nat}, i < k.ord.length → k.ord[i]? = some (k.ord.getD i 0) := fun hi => by rw [List.getD_eq_getElem?_getD, List.getElem?_eq_getElem hi]; rfl
  obtain ⟨h1, h2, h3⟩ := set_fold (fun i => k.ord.getD i 0) (fun i => i) (List.replicate N 0) 0 k.ord.length (fun i hi => by
    rw [List.length_replicate]; exact h.ordN (hb hi)) fun i j hi hj e => nodup_at h.nd (hb hi) (by rw [hb hj]; exact congrArg some e.symm)
  have := h2 i (List.getElem?_eq_some_iff.1 hi).1
  rw [getD_some hi] at this
  exact this
theorem FinW.inOrd (h : FinW N T k) {i b : Nat} (hi : k.blk[i]? = some b) : ∃ p : Nat, k.ord[p]? = some b := List.getElem?_of_mem ((h.ord b).2 (List.mem_of_getElem? hi))
theorem FinW.par_place (h : FinW N T k) {i b q c : Nat} (hi0 : 0 < i) (hi : k.blk[i]? = some b) (hq : k.par[i]? = some q) (hc : k.blk[q]? = some c) : (placesM N k.ord).getD c 0 < (placesM N k.ord).getD b 0 := by
  obtain ⟨p, hp⟩ := h.inOrd hi
  obtain ⟨r, hr⟩ := h.inOrd hc
  rw [h.place hp, h.place hr]
  have hlt := h.tr.p i q hi0 hq
  have hne : c ≠ b := by
    rintro rfl
    have := h.ok.inj hi hc
    omega
  have hpl := (List.getElem?_eq_some_iff.1 hp).1
  have hm := h.fin i b q c hi0 hi hq hc (k.ord.take (p + 1)) (k.ord.drop (p + 1)) (List.take_append_drop _ _).symm (List.mem_of_getElem? (i := p) (by rw [List.getElem?_take_of_lt (by omega)]; exact hp))
  obtain ⟨r', hr'⟩ := List.getElem?_of_mem hm
  have hlr : r' < p + 1 := by
    have := (List.getElem?_eq_some_iff.1 hr').1
    rw [List.length_take] at this
    omega
  rw [List.getElem?_take_of_lt hlr] at hr'
  have e1 := nodup_at h.nd hr hr'
  have : r' ≠ p := by
    rintro rfl
    rw [hp] at hr'
    exact hne (Option.some.inj hr').symm
  omega
theorem FinW.anc_place (h : FinW N T k) {i j b c : Nat} (ha : Anc k.par j i) (hi : k.blk[i]? = some b) (hj : k.blk[j]? = some c) (hne : j ≠ i) : (placesM N k.ord).getD c 0 < (placesM N k.ord).getD b 0 := by
  induction ha generalizing b with
  | refl => exact absurd rfl hne
  | @step m p h1 h2 h3 ih =>
    have hml := (List.getElem?_eq_some_iff.1 hi).1
    have hd : k.blk[p]? = some (k.blk.getD p 0) := by rw [List.getD_eq_getElem?_getD, List.getElem?_eq_getElem (by omega)]; rfl
    have hp := h.par_place (by omega) hi h1 hd
    by_cases e : j = p
    · subst e
      rw [hd] at hj
      rw [← Option.some.inj hj]
      exact hp
    · have := ih hd e
      omega
theorem NeP.anc {par : List Nat} {n : Nat} {S D : Nat → Nat} (h : NeP par n S D) (hl : par.length = n) (hp : ∀ i q, 0 < i → par[i]? = some q → q < i) : ∀ b, b < n → ∀ y, Ch D y b → Anc par y b := by
  intro b
  induction b using Nat.strongRecOn with
  | ind b ih =>
    intro hb y hy
    cases hy with
    | refl => exact .refl _
    | step h0 hy =>
      obtain ⟨q, hq⟩ : ∃ q, par[b]? = some q := ⟨_, List.getElem?_eq_getElem (by rw [hl]; exact hb)⟩
      have hqb := hp b q h0 hq
      have h1 := ih q hqb (by omega) _ (h.ch b q h0 hq)
      have h2 := ih (D b) (h.lt b h0 hb) (by have := h.lt b h0 hb; omega) y hy
      exact h2.trans (.step hq hqb h1)
/-- A dominator: it is reached, and stands ahead. -/
theorem FinW.dom_place (h : FinW N T k) (hT : T.length = N) {i b : Nat} (hi0 : 0 < i) (hi : k.blk[i]? = some b) :
    ∃ c j : Nat, (domsM T k).getD b 0 = (c : Int) ∧ k.blk[j]? = some c ∧ j < i ∧ c ∈ k.ord ∧ (placesM N k.ord).getD c 0 < (placesM N k.ord).getD b 0 := by
  obtain ⟨n1, n2, n3⟩ := h.near
  have hil := (List.getElem?_eq_some_iff.1 hi).1
  have hlt := n1.lt i hi0 hil
  have hd : k.blk[(nearM (semiM T k) k.par).getD i 0]? = some (k.blk.getD ((nearM (semiM T k) k.par).getD i 0) 0) := by rw [List.getD_eq_getElem?_getD (l := k.blk), List.getElem?_eq_getElem (by omega)]; rfl
  refine ⟨_, _, (h.doms hT).2.1 i b hi, hd, hlt, (h.ord _).2 (List.mem_of_getElem? hd), ?_⟩
  refine h.anc_place (n1.anc h.ok.par h.tr.p i hil _ (.step hi0 .refl)) hi hd (by omega)
theorem FinW.dom_zero (h : FinW N T k) (hT : T.length = N) : (domsM T k).getD 0 0 = 0 := by
  have := (h.doms hT).2.1 0 0 h.zero
  rw [h.near.2.2, getD_some h.zero] at this
  simpa using this
theorem FinW.place_zero (h : FinW N T k) : (placesM N k.ord).getD 0 0 = 0 := by
  obtain ⟨o, ho⟩ := h.head
  exact h.place (by rw [ho]; rfl)
end
end Go.Proofs.Ytjmlpbnejcfnhaa
