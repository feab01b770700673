/-
  PLAIN MATHEMATICS of layer dom: a row of bools that tells what is reached; places in the order. No Go in sight.
-/
import Derived.Test.YtjmlpbnejcfnhaaDne
import Derived.Test.YtjmlpbnejcfnhaaDmp
namespace Go.Proofs.Ytjmlpbnejcfnhaa
open Go
set_option linter.unusedVariables false
set_option linter.unusedSimpArgs false

/-- What is true in the row is reached without block a. -/
structure RsM (T : List (List Nat)) (a : Int) (s : List Bool) : Prop where
  len : s.length = T.length
  z : s[0]? = some true
  r : ∀ b : Nat, s[b]? = some true → Rb T a b
/-- What is true before place i has its successors true. -/
def CloM (T : List (List Nat)) (a : Int) (s : List Bool) (i : Nat) : Prop := ∀ u, u < i → s[u]? = some true → ∀ v ∈ T.getD u [], (v : Int) ≠ a → s[v]? = some true
/-- The first k successors of block i are true. -/
def ClkM (T : List (List Nat)) (a : Int) (s : List Bool) (i k : Nat) : Prop := ∀ m v, m < k → (T.getD i [])[m]? = some v → (v : Int) ≠ a → s[v]? = some true
def cf (s : List Bool) : Nat := s.countP (fun b => !b)
theorem cf_set {s : List Bool} {v : Nat} (h : s[v]? = some false) : cf (s.set v true) + 1 = cf s := by
  induction s generalizing v with
  | nil => simp at h
  | cons x s ih =>
    cases v with
    | zero =>
      simp only [List.getElem?_cons_zero, Option.some.injEq] at h
      subst h
      simp [cf]
    | succ v =>
      rw [List.getElem?_cons_succ] at h
      have := ih h
      unfold cf at this ⊢
      rw [List.set_cons_succ, List.countP_cons, List.countP_cons]
      omega
theorem RsM.start {T : List (List Nat)} {a : Int} (h0 : 0 < T.length) (ha : a ≠ 0) : RsM T a ((List.replicate T.length false).set 0 true) := by
  refine ⟨by simp, by simp [h0], fun b hb => ?_⟩
  by_cases e : b = 0
  · subst e; exact .root ha
  · rw [List.getElem?_set_ne (fun e' => e e'.symm), List.getElem?_replicate] at hb
    split at hb <;> cases hb
theorem RsM.step {T : List (List Nat)} {a : Int} {s : List Bool} (h : RsM T a s) {i k v : Nat} (hi : s[i]? = some true) (hv : (T.getD i [])[k]? = some v) (hva : (v : Int) ≠ a) : RsM T a (s.set v true) := by
  refine ⟨by rw [List.length_set]; exact h.len, ?_, fun b hb => ?_⟩
  · by_cases e : v = 0
    · subst e
      rw [List.getElem?_set_self (List.getElem?_eq_some_iff.1 h.z).1]
    · rw [List.getElem?_set_ne e]; exact h.z
  · by_cases e : v = b
    · subst e; exact .step (h.r i hi) (List.mem_of_getElem? hv) hva
    · rw [List.getElem?_set_ne e] at hb; exact h.r b hb
theorem ClkM.next {T : List (List Nat)} {a : Int} {s : List Bool} {i k v : Nat} (h : ClkM T a s i k) (hv : (T.getD i [])[k]? = some v) (hs : (v : Int) = a ∨ s[v]? = some true) : ClkM T a s i (k + 1) := by
  intro m u hm hu hua
  by_cases e : m = k
  · subst e
    rw [hv] at hu
    cases hu
    exact hs.resolve_left hua
  · exact h m u (by omega) hu hua
theorem CloM.next {T : List (List Nat)} {a : Int} {s : List Bool} {i : Nat} (h : CloM T a s i) (hk : s[i]? = some false ∨ ClkM T a s i (T.getD i []).length) : CloM T a s (i + 1) := by
  intro u hu hs v hv hva
  by_cases e : u = i
  · subst e
    rcases hk with hk | hk
    · rw [hk] at hs; cases hs
    · obtain ⟨m, hm⟩ := List.getElem?_of_mem hv
      exact hk m v (List.getElem?_eq_some_iff.1 hm).1 hm hva
  · exact h u (by omega) hs v hv hva
theorem RsM.fin {T : List (List Nat)} {a : Int} {s : List Bool} (h : RsM T a s) (hc : CloM T a s T.length) (b : Nat) : s[b]? = some true ↔ Rb T a b := by
  refine ⟨h.r b, fun hr => ?_⟩
  have := rb_closed (T := T) (a := a) (s := fun u => s.getD u false) (fun _ => by rw [List.getD_eq_getElem?_getD, h.z]; rfl) (fun u v hu hv hva => by
    have hu' : s[u]? = some true := by
      rw [List.getD_eq_getElem?_getD] at hu
      rcases e : s[u]? with _ | x
      · rw [e] at hu; simp at hu
      · rw [e] at hu; simp at hu; rw [hu]
    have := hc u (by rw [← h.len]; exact (List.getElem?_eq_some_iff.1 hu').1) hu' v hv hva
    rw [List.getD_eq_getElem?_getD, this]; rfl) hr
  have this : (s[b]?).getD false = true := by rw [← List.getD_eq_getElem?_getD]; exact this
  rcases e : s[b]? with _ | x
  · rw [e] at this; simp at this
  · rw [e] at this; simp at this; rw [this]
theorem rb_none {T : List (List Nat)} {b : Nat} : ¬ Rb T 0 b := by
  intro h
  induction h with
  | root h => exact h rfl
  | step _ _ _ ih => exact ih
/-- The places (and one) of what stands first in the order. -/
structure PlM (N : Nat) (ord : List Nat) (i : Nat) (p : List Nat) : Prop where
  len : p.length = N
  at_ : ∀ b x : Nat, p[b]? = some x → (x = 0 ∧ ∀ j, j < i → ord[j]? ≠ some b) ∨ ∃ j, j < i ∧ ord[j]? = some b ∧ x = j + 1
theorem PlM.start (N : Nat) (ord : List Nat) : PlM N ord 0 (List.replicate N 0) := by
  refine ⟨by simp, fun b x h => .inl ⟨?_, fun j h => by omega⟩⟩
  rw [List.getElem?_replicate] at h
  split at h
  · exact (Option.some.inj h).symm
  · cases h
theorem PlM.next {N : Nat} {ord : List Nat} {i b : Nat} {p : List Nat} (h : PlM N ord i p) (hb : ord[i]? = some b) (hbN : b < N) : PlM N ord (i + 1) (p.set b (i + 1)) := by
  refine ⟨by rw [List.length_set]; exact h.len, fun c x hc => ?_⟩
  by_cases e : b = c
  · subst e
    rw [List.getElem?_set_self (by rw [h.len]; exact hbN)] at hc
    exact .inr ⟨i, by omega, hb, (Option.some.inj hc).symm⟩
  · rw [List.getElem?_set_ne e] at hc
    rcases h.at_ c x hc with ⟨h1, h2⟩ | ⟨j, h1, h2, h3⟩
    · refine .inl ⟨h1, fun j hj hjc => ?_⟩
      by_cases e2 : j = i
      · subst e2; rw [hb] at hjc; exact e (Option.some.inj hjc)
      · exact h2 j (by omega) hjc
    · exact .inr ⟨j, by omega, h2, h3⟩
theorem PlM.zero {N : Nat} {ord : List Nat} {i b : Nat} {p : List Nat} (h : PlM N ord i p) (hn : ord.Nodup) (hb : ord[i]? = some b) {x : Nat} (hx : p[b]? = some x) : x = 0 := by
  rcases h.at_ b x hx with ⟨h1, -⟩ | ⟨j, h1, h2, -⟩
  · exact h1
  · have := nodup_at hn h2 hb
    omega
/-- In the end: 0 where a block does not stand in the order, and its place and one where it does. -/
theorem PlM.out {N : Nat} {ord : List Nat} {b : Nat} {p : List Nat} (h : PlM N ord ord.length p) {x : Nat} (hx : p[b]? = some x) : (x = 0 ∧ b ∉ ord) ∨ ∃ j, ord[j]? = some b ∧ x = j + 1 := by
  rcases h.at_ b x hx with ⟨h1, h2⟩ | ⟨j, h1, h2, h3⟩
  · refine .inl ⟨h1, fun hm => ?_⟩
    obtain ⟨j, hj⟩ := List.getElem?_of_mem hm
    exact h2 j (List.getElem?_eq_some_iff.1 hj).1 hj
  · exact .inr ⟨j, h2, h3⟩
section
variable {N : Nat} {T : List (List Nat)} {k : Wk}
/-- Of a block that is reached, but the first: the nearest one that dominates it, its places. -/
theorem FinW.way (h : FinW N T k) (hT : T.length = N) {p : List Nat} (hp : PlM N k.ord k.ord.length p) {b x : Nat} (hb0 : 0 < b) (hb : p[b]? = some x) (hx : 0 < x) :
    ∃ c y : Nat, (domsM T k)[b]? = some (c : Int) ∧ c < N ∧ p[c]? = some y ∧ 0 < y ∧ y < x := by
  rcases hp.out hb with ⟨rfl, -⟩ | ⟨j, hj, rfl⟩
  · omega
  obtain ⟨i, hi⟩ := List.getElem?_of_mem ((h.ord b).1 (List.mem_of_getElem? hj))
  have hi0 : 0 < i := by
    rcases Nat.eq_zero_or_pos i with rfl | h9
    · rw [h.zero] at hi; cases hi; omega
    · exact h9
  obtain ⟨c, q, h1, h2, h3, h4, h5⟩ := h.dom_place hT hi0 hi
  have hcN := (h.ok.b q c h2).1
  obtain ⟨y, hy⟩ : ∃ y, p[c]? = some y := ⟨_, List.getElem?_eq_getElem (by rw [hp.len]; exact hcN)⟩
  rcases hp.out hy with ⟨rfl, h6⟩ | ⟨j', hj', rfl⟩
  · exact absurd h4 h6
  rw [h.place hj', h.place hj] at h5
  have hbN := (h.ok.b i b hi).1
  refine ⟨c, j' + 1, ?_, hcN, hy, by omega, by omega⟩
  have hl := (h.doms hT).1
  rw [List.getD_eq_getElem?_getD, List.getElem?_eq_getElem (by omega)] at h1
  rw [List.getElem?_eq_getElem (by omega)]
  exact congrArg some h1
/-- On the chain of nearest ones: in blocks. -/
def UpM (T : List (List Nat)) (k : Wk) (a b : Nat) : Prop := ∃ i j, k.blk[i]? = some a ∧ k.blk[j]? = some b ∧ Ch (fun i => (nearM (semiM T k) k.par).getD i 0) i j
theorem FinW.up_iff (h : FinW N T k) {a b : Nat} (ha : a ∈ k.blk) (hb : b ∈ k.blk) (hab : a ≠ b) : ¬ Rb T a b ↔ UpM T k a b := by
  obtain ⟨i, hi⟩ := List.getElem?_of_mem ha
  obtain ⟨j, hj⟩ := List.getElem?_of_mem hb
  rw [h.rb_ch hi hj hab]
  constructor
  · intro hc; exact ⟨i, j, hi, hj, hc⟩
  · rintro ⟨i', j', hi', hj', hc⟩
    rw [h.ok.inj hi hi', h.ok.inj hj hj']
    exact hc
theorem FinW.up_self (h : FinW N T k) {a : Nat} (ha : a ∈ k.blk) : UpM T k a a := by
  obtain ⟨i, hi⟩ := List.getElem?_of_mem ha
  exact ⟨i, i, hi, hi, .refl⟩
theorem FinW.up_zero (h : FinW N T k) {a : Nat} (ha : a ≠ 0) : ¬ UpM T k a 0 := by
  rintro ⟨i, j, hi, hj, hc⟩
  have := h.ok.inj hj h.zero
  subst this
  cases hc with
  | refl => rw [h.zero] at hi; cases hi; exact ha rfl
  | step h0 _ => omega
/-- One step up. -/
theorem FinW.up_step (h : FinW N T k) (hT : T.length = N) {a b c : Nat} (hb : b ∈ k.blk) (hb0 : b ≠ 0) (hab : a ≠ b) (hd : (domsM T k)[b]? = some (c : Int)) : c ∈ k.blk ∧ (UpM T k a b ↔ UpM T k a c) ∧ (placesM N k.ord).getD c 0 < (placesM N k.ord).getD b 0 := by
  obtain ⟨j, hj⟩ := List.getElem?_of_mem hb
  have hj0 : 0 < j := by
    rcases Nat.eq_zero_or_pos j with rfl | h9
    · rw [h.zero] at hj; cases hj; exact absurd rfl hb0
    · exact h9
  have hjl := (List.getElem?_eq_some_iff.1 hj).1
  obtain ⟨n1, n2, n3⟩ := h.near
  have hlt := n1.lt j hj0 hjl
  have hdd : k.blk[(nearM (semiM T k) k.par).getD j 0]? = some (k.blk.getD ((nearM (semiM T k) k.par).getD j 0) 0) := by rw [List.getD_eq_getElem?_getD (l := k.blk), List.getElem?_eq_getElem (by omega)]; rfl
  have hc : c = k.blk.getD ((nearM (semiM T k) k.par).getD j 0) 0 := by
    have h1 := (h.doms hT).2.1 j b hj
    rw [getD_some hd] at h1
    exact Int.ofNat.inj h1
  rw [← hc] at hdd
  have hpl : (placesM N k.ord).getD c 0 < (placesM N k.ord).getD b 0 := by
    obtain ⟨c', q, h1, -, -, -, h5⟩ := h.dom_place hT hj0 hj
    rw [getD_some hd] at h1
    rw [Int.ofNat.inj h1]
    exact h5
  refine ⟨List.mem_of_getElem? hdd, ?_, hpl⟩
  constructor
  · rintro ⟨i', j', hi', hj', hch⟩
    have := h.ok.inj hj hj'
    subst this
    cases hch with
    | refl => rw [hj] at hi'; exact absurd (Option.some.inj hi').symm hab
    | step _ hch => exact ⟨i', _, hi', hdd, hch⟩
  · rintro ⟨i', j', hi', hj', hch⟩
    have := h.ok.inj hdd hj'
    subst this
    exact ⟨i', j, hi', hj, .step hj0 hch⟩
end
end Go.Proofs.Ytjmlpbnejcfnhaa
