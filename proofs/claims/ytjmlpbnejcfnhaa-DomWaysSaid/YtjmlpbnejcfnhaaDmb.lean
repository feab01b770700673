/-
  PLAIN MATHEMATICS of layer dom: the tree of a visit; that what is reckoned as dominators are what dominators are. No Go in sight.
-/
import Derived.Test.YtjmlpbnejcfnhaaDma
namespace Go.Proofs.Ytjmlpbnejcfnhaa
set_option linter.unusedVariables false
set_option linter.unusedSimpArgs false

/-! the tree of a visit -/
/-- i is j, or above it. -/
inductive Anc (par : List Nat) : Nat → Nat → Prop
  | refl (i : Nat) : Anc par i i
  | step {i j p : Nat} : par[j]? = some p → p < j → Anc par i p → Anc par i j
theorem get_pre {α : Type} {l r : List α} {i : Nat} {x : α} (h : l[i]? = some x) : (l ++ r)[i]? = some x := by
  rw [List.getElem?_append_left (List.getElem?_eq_some_iff.1 h).1]; exact h
theorem get_un {α : Type} {l r : List α} {i : Nat} {x : α} (h : (l ++ r)[i]? = some x) (hi : i < l.length) : l[i]? = some x := by
  rwa [List.getElem?_append_left hi] at h
theorem Anc.pre {par q : List Nat} {i j : Nat} (h : Anc par i j) : Anc (par ++ q) i j := by
  induction h with
  | refl => exact .refl _
  | step h1 h2 _ ih => exact .step (get_pre h1) h2 ih
theorem Anc.trans {par : List Nat} {i j k : Nat} (h : Anc par i j) (h2 : Anc par j k) : Anc par i k := by
  induction h2 with
  | refl => exact h
  | step h1 h2 _ ih => exact .step h1 h2 ih
theorem Anc.le {par : List Nat} {i j : Nat} (h : Anc par i j) : i ≤ j := by
  induction h with
  | refl => exact Nat.le_refl _
  | step h1 h2 _ ih => omega
theorem Wk.Ok.inj {N : Nat} {k : Wk} (h : k.Ok N) {i j b : Nat} (hi : k.blk[i]? = some b) (hj : k.blk[j]? = some b) : i = j := by
  have h1 := (h.b i b hi).2
  rw [(h.b j b hj).2] at h1
  have := Option.some.inj h1
  omega
theorem Wk.Ok.fresh {N : Nat} {k : Wk} (h : k.Ok N) {b : Nat} (hb : k.num[b]? = some (-1)) : b ∉ k.blk := by
  intro hm
  obtain ⟨i, hi⟩ := List.getElem?_of_mem hm
  have := (h.b i b hi).2
  rw [hb] at this
  simp at this
theorem Wk.Ok.seen {N : Nat} {k : Wk} (h : k.Ok N) {b : Nat} (hb : b < N) (hs : ¬ k.num.getD b 0 < 0) : b ∈ k.blk := by
  have hl : b < k.num.length := by rw [h.num]; exact hb
  rcases h.n b _ (List.getElem?_eq_getElem hl) with e | ⟨i, -, e⟩
  · exact absurd (by rw [List.getD_eq_getElem?_getD, List.getElem?_eq_getElem hl, e]; decide) hs
  · exact List.mem_of_getElem? e
/-- What has been seen since a visit of a began, as number m; all of it finished but a. -/
structure Mid (N : Nat) (T : List (List Nat)) (k s : Wk) (a p : Nat) : Prop where
  ok : s.Ok N
  blk : ∃ l, s.blk = k.blk ++ a :: l
  par : ∃ q, s.par = k.par ++ p :: q
  closed : ∀ i b, k.blk.length < i → s.blk[i]? = some b → ∀ t ∈ T.getD b [], t ∈ s.blk
  edge : ∀ i b q c, k.blk.length < i → s.blk[i]? = some b → s.par[i]? = some q → s.blk[q]? = some c → b ∈ T.getD c []
  desc : ∀ i, k.blk.length ≤ i → i < s.blk.length → Anc s.par k.blk.length i
  fwd : ∀ i b t j, k.blk.length < i → s.blk[i]? = some b → t ∈ T.getD b [] → s.blk[j]? = some t → i < j → Anc s.par i j
  ord : ∃ o, s.ord = k.ord ++ o ∧ ∀ b, b ∈ o ↔ ∃ i, k.blk.length < i ∧ s.blk[i]? = some b
  fin : ∀ i b q c, k.blk.length < i → s.blk[i]? = some b → s.par[i]? = some q → s.blk[q]? = some c → k.blk.length < q → ∀ x y, s.ord = x ++ y → c ∈ x → b ∈ x
  nd : s.ord.Nodup
  adj : ∀ i q, k.blk.length ≤ i → s.par[i + 1]? = some q → Anc s.par q i
/-- The same when a is finished, too. -/
structure Vis (N : Nat) (T : List (List Nat)) (k s : Wk) (a p : Nat) : Prop where
  ok : s.Ok N
  blk : ∃ l, s.blk = k.blk ++ a :: l
  par : ∃ q, s.par = k.par ++ p :: q
  closed : ∀ i b, k.blk.length ≤ i → s.blk[i]? = some b → ∀ t ∈ T.getD b [], t ∈ s.blk
  edge : ∀ i b q c, k.blk.length < i → s.blk[i]? = some b → s.par[i]? = some q → s.blk[q]? = some c → b ∈ T.getD c []
  desc : ∀ i, k.blk.length ≤ i → i < s.blk.length → Anc s.par k.blk.length i
  fwd : ∀ i b t j, k.blk.length ≤ i → s.blk[i]? = some b → t ∈ T.getD b [] → s.blk[j]? = some t → i < j → Anc s.par i j
  ord : ∃ o, s.ord = k.ord ++ o ∧ ∀ b, b ∈ o ↔ ∃ i, k.blk.length ≤ i ∧ s.blk[i]? = some b
  fin : ∀ i b q c, k.blk.length < i → s.blk[i]? = some b → s.par[i]? = some q → s.blk[q]? = some c → ∀ x y, s.ord = x ++ y → c ∈ x → b ∈ x
  nd : s.ord.Nodup
  adj : ∀ i q, k.blk.length ≤ i → s.par[i + 1]? = some q → Anc s.par q i
  fi : ∃ o, s.ord = o ++ [a]
theorem split_pre {α : Type} {x y u v : List α} (h : x ++ y = u ++ v) : (∃ z, u = x ++ z) ∨ ∃ z, x = u ++ z := by
  rcases List.append_eq_append_iff.1 h with ⟨z, h1, h2⟩ | ⟨z, h1, h2⟩
  · exact .inl ⟨z, h1⟩
  · exact .inr ⟨z, h1⟩
theorem Mid.begun {N : Nat} {T : List (List Nat)} {k : Wk} (h : k.Ok N) (hnd : k.ord.Nodup) {a p : Nat} (ha : k.num[a]? = some (-1)) (hp : (k.blk = [] ∧ p = 0) ∨ p < k.blk.length) : Mid N T k (k.begun a p) a p := by
  have hlen : (k.begun a p).blk.length = k.blk.length + 1 := by simp [Wk.begun]
  have no : ∀ {i b : Nat}, k.blk.length < i → (k.begun a p).blk[i]? = some b → False := fun hi hb => by
    have := (List.getElem?_eq_some_iff.1 hb).1; omega
  refine ⟨h.begun ha hp, ⟨[], rfl⟩, ⟨[], rfl⟩, fun i b hi hb => (no hi hb).elim, fun i b _ _ hi hb => (no hi hb).elim, fun i hi hl => ?_, fun i b _ _ hi hb => (no hi hb).elim, ⟨[], by simp [Wk.begun], fun b => ?_⟩, fun i b _ _ hi hb => (no hi hb).elim, hnd, fun i q hi hq => ?_⟩
  · obtain rfl : i = k.blk.length := by omega
    exact .refl _
  · constructor
    · intro h; cases h
    · rintro ⟨i, hi, hb⟩; exact (no hi hb).elim
  · have := (List.getElem?_eq_some_iff.1 hq).1
    rw [(h.begun ha hp).par] at this
    omega
theorem Mid.sub {N : Nat} {T : List (List Nat)} {k s s' : Wk} {a p t : Nat} (hk : k.Ok N) (h : Mid N T k s a p) (hv : Vis N T s s' t k.blk.length) (hta : t ∈ T.getD a []) (htn : s.num[t]? = some (-1)) : Mid N T k s' a p := by
  obtain ⟨l, hl⟩ := h.blk
  obtain ⟨q, hq⟩ := h.par
  obtain ⟨l', hl'⟩ := hv.blk
  obtain ⟨q', hq'⟩ := hv.par
  have hsl : k.blk.length < s.blk.length := by rw [hl]; simp
  have hm : s'.blk[k.blk.length]? = some a := by rw [hl', hl]; simp
  have hpl : s.par.length = s.blk.length := h.ok.par
  have hfirst : s'.blk[s.blk.length]? = some t := by rw [hl']; simp
  have hpfirst : s'.par[s.blk.length]? = some k.blk.length := by rw [hq', ← hpl]; simp
  have down : ∀ {i b : Nat}, s'.blk[i]? = some b → i < s.blk.length → s.blk[i]? = some b := fun hb hi => by rw [hl'] at hb; exact get_un hb hi
  have downp : ∀ {i b : Nat}, s'.par[i]? = some b → i < s.blk.length → s.par[i]? = some b := fun hb hi => by rw [hq'] at hb; exact get_un hb (by omega)
  have up : ∀ {b : Nat}, b ∈ s.blk → b ∈ s'.blk := fun hb => by rw [hl']; exact List.mem_append_left _ hb
  have plt : ∀ {i q : Nat}, k.blk.length < i → s'.par[i]? = some q → q < i := fun hi hq => by
    rcases hv.ok.p _ _ hq with ⟨rfl, -⟩ | h
    · omega
    · exact h
  refine ⟨hv.ok, ⟨l ++ t :: l', by rw [hl', hl]; simp⟩, ⟨q ++ k.blk.length :: q', by rw [hq', hq]; simp⟩, ?_, ?_, ?_, ?_, ?_, ?_, hv.nd, ?_⟩
  · intro i b hi hb u hu
    by_cases c : i < s.blk.length
    · exact up (h.closed i b hi (down hb c) u hu)
    · exact hv.closed i b (by omega) hb u hu
  · intro i b j c hi hb hj hc
    by_cases e : i < s.blk.length
    · have := plt hi hj
      exact h.edge i b j c hi (down hb e) (downp hj e) (down hc (by omega))
    · by_cases e2 : i = s.blk.length
      · subst e2
        obtain rfl : b = t := by rw [hfirst] at hb; exact (Option.some.inj hb).symm
        obtain rfl : j = k.blk.length := by rw [hpfirst] at hj; exact (Option.some.inj hj).symm
        obtain rfl : c = a := by rw [hm] at hc; exact (Option.some.inj hc).symm
        exact hta
      · exact hv.edge i b j c (by omega) hb hj hc
  · intro i hi hil
    by_cases e : i < s.blk.length
    · have := h.desc i hi e
      rw [hq']
      exact this.pre
    · exact (Anc.step hpfirst hsl (.refl _)).trans (hv.desc i (by omega) hil)
  · intro i b u j hi hb hu hj hij
    by_cases e : i < s.blk.length
    · have hus := h.closed i b hi (down hb e) u hu
      obtain ⟨j', hj'⟩ := List.getElem?_of_mem hus
      have : j' = j := hv.ok.inj (by rw [hl']; exact get_pre hj') hj
      subst this
      have := h.fwd i b u j' hi (down hb e) hu hj' hij
      rw [hq']
      exact this.pre
    · exact hv.fwd i b u j (by omega) hb hu hj hij
  · obtain ⟨o, ho, hoi⟩ := h.ord
    obtain ⟨o', ho', hoi'⟩ := hv.ord
    refine ⟨o ++ o', by rw [ho', ho, List.append_assoc], fun b => ?_⟩
    rw [List.mem_append, hoi, hoi']
    constructor
    · rintro (⟨i, hi, hb⟩ | ⟨i, hi, hb⟩)
      · exact ⟨i, hi, by rw [hl']; exact get_pre hb⟩
      · exact ⟨i, by omega, hb⟩
    · rintro ⟨i, hi, hb⟩
      by_cases e : i < s.blk.length
      · exact .inl ⟨i, hi, down hb e⟩
      · exact .inr ⟨i, by omega, hb⟩
  · intro i b j c hi hb hj hc hjm x y hxy hcx
    have hji := plt hi hj
    by_cases e : i < s.blk.length
    · obtain ⟨o', ho', hoi'⟩ := hv.ord
      have hcs := down hc (by omega)
      rw [ho'] at hxy
      rcases split_pre hxy.symm with ⟨z, hz⟩ | ⟨z, hz⟩
      · exact h.fin i b j c hi (down hb e) (downp hj e) hcs hjm x z hz hcx
      · obtain ⟨o, ho, hoi⟩ := h.ord
        rw [hz, ho]
        exact List.mem_append_left _ (List.mem_append_right _ ((hoi b).2 ⟨i, hi, down hb e⟩))
    · by_cases e2 : i = s.blk.length
      · subst e2
        obtain rfl : j = k.blk.length := by rw [hpfirst] at hj; exact (Option.some.inj hj).symm
        omega
      · exact hv.fin i b j c (by omega) hb hj hc x y hxy hcx
  · intro i j hi hj
    by_cases e : i + 1 < s.blk.length
    · have := h.adj i j hi (downp hj e)
      rw [hq']
      exact this.pre
    · by_cases e2 : i + 1 = s.blk.length
      · obtain rfl : j = k.blk.length := by rw [e2, hpfirst] at hj; exact (Option.some.inj hj).symm
        have := h.desc i hi (by omega)
        rw [hq']
        exact this.pre
      · exact hv.adj i j (by omega) hj
theorem Mid.done {N : Nat} {T : List (List Nat)} {k s : Wk} {a p : Nat} (hk : k.Ok N) (ha : k.num[a]? = some (-1)) (h : Mid N T k s a p) (hall : ∀ t ∈ T.getD a [], t ∈ s.blk) : Vis N T k (s.done a) a p := by
  obtain ⟨l, hl⟩ := h.blk
  obtain ⟨q, hq⟩ := h.par
  obtain ⟨o, ho, hoi⟩ := h.ord
  have hm : s.blk[k.blk.length]? = some a := by rw [hl]; simp
  have hao : a ∉ s.ord := by
    rw [ho, List.mem_append]
    rintro (h1 | h1)
    · exact hk.fresh ha (hk.o a h1)
    · obtain ⟨i, hi, hb⟩ := (hoi a).1 h1
      have := h.ok.inj hb hm
      omega
  refine ⟨h.ok.done (List.mem_of_getElem? hm), ⟨l, hl⟩, ⟨q, hq⟩, ?_, h.edge, h.desc, ?_, ⟨o ++ [a], by simp [Wk.done, ho], fun b => ?_⟩, ?_, ?_, h.adj, ⟨_, rfl⟩⟩
  · intro i b hi hb u hu
    by_cases e : i = k.blk.length
    · subst e
      obtain rfl : b = a := by rw [show (s.done a).blk = s.blk from rfl, hm] at hb; exact (Option.some.inj hb).symm
      exact hall u hu
    · exact h.closed i b (by omega) hb u hu
  · intro i b u j hi hb hu hj hij
    by_cases e : i = k.blk.length
    · subst e
      exact h.desc j (by omega) (List.getElem?_eq_some_iff.1 hj).1
    · exact h.fwd i b u j (by omega) hb hu hj hij
  · rw [List.mem_append, hoi, List.mem_singleton]
    constructor
    · rintro (⟨i, hi, hb⟩ | rfl)
      · exact ⟨i, by omega, hb⟩
      · exact ⟨_, Nat.le_refl _, hm⟩
    · rintro ⟨i, hi, hb⟩
      by_cases e : i = k.blk.length
      · subst e
        exact .inr (by rw [show (s.done a).blk = s.blk from rfl, hm] at hb; exact (Option.some.inj hb).symm)
      · exact .inl ⟨i, by omega, hb⟩
  · intro i b j c hi hb hj hc x y hxy hcx
    have hxy' : s.ord ++ [a] = x ++ y := hxy
    have hbo : b ∈ s.ord := by rw [ho]; exact List.mem_append_right _ ((hoi b).2 ⟨i, hi, hb⟩)
    rcases split_pre hxy'.symm with ⟨z, hz⟩ | ⟨z, hz⟩
    · by_cases hjm : k.blk.length < j
      · exact h.fin i b j c hi hb hj hc hjm x z hz hcx
      · have hd := h.desc i (by omega) (List.getElem?_eq_some_iff.1 hb).1
        cases hd with
        | refl => omega
        | step h1 h2 h3 =>
          have e := Option.some.inj (h1.symm.trans hj)
          subst e
          have := h3.le
          have e : k.blk.length = _ := Nat.le_antisymm this (by omega)
          subst e
          obtain rfl : c = a := by rw [show (s.done a).blk = s.blk from rfl, hm] at hc; exact (Option.some.inj hc).symm
          exact absurd (by rw [hz]; exact List.mem_append_left _ hcx) hao
    · rw [hz]; exact List.mem_append_left _ hbo
  · show (s.ord ++ [a]).Nodup
    rw [List.nodup_append]
    exact ⟨h.nd, by simp, fun x hx y hy => by simp at hy; subst hy; rintro rfl; exact hao hx⟩
theorem vis_all {N : Nat} {T : List (List Nat)} (hT : RowsOk N T) (F : Nat) : ∀ (a p : Nat) (k : Wk), k.Ok N → k.ord.Nodup → k.num[a]? = some (-1) → ((k.blk = [] ∧ p = 0) ∨ p < k.blk.length) → k.un ≤ F → Vis N T k (visW T F a p k) a p := by
  induction F with
  | zero =>
    intro a p k h hnd ha hp hF
    exfalso
    have : 0 < k.un := List.countP_pos_iff.2 ⟨-1, List.mem_of_getElem? ha, by decide⟩
    omega
  | succ F ih =>
    intro a p k h hnd ha hp hF
    unfold visW
    have hu := k.un_begun_lt (p := p) ha (by decide)
    suffices key : ∀ (l : List Nat) (s : Wk), Mid N T k s a p → s.un ≤ F → (∀ t ∈ l, t ∈ T.getD a []) → Mid N T k (l.foldl (fun s to => if s.num.getD to 0 < 0 then visW T F to k.blk.length s else s) s) a p ∧ (∀ b ∈ s.blk, b ∈ (l.foldl (fun s to => if s.num.getD to 0 < 0 then visW T F to k.blk.length s else s) s).blk) ∧ ∀ t ∈ l, t ∈ (l.foldl (fun s to => if s.num.getD to 0 < 0 then visW T F to k.blk.length s else s) s).blk by
      obtain ⟨h1, -, h2⟩ := key (T.getD a []) (k.begun a p) (Mid.begun h hnd ha hp) (by omega) fun _ h => h
      exact h1.done h ha h2
    intro l
    induction l with
    | nil => exact fun s hs _ _ => ⟨hs, fun b hb => hb, fun t ht => by cases ht⟩
    | cons t l ih2 =>
      intro s hs hun hl
      rw [List.foldl_cons]
      by_cases hlt : s.num.getD t 0 < 0
      · rw [if_pos hlt]
        have htn := hs.ok.neg (hT.get (hl t (.head _))) hlt
        have hsb : k.blk.length < s.blk.length := by obtain ⟨l, e⟩ := hs.blk; rw [e]; simp
        have hv := ih t k.blk.length s hs.ok hs.nd htn (.inr hsb) hun
        have hm := hs.sub h hv (hl t (.head _)) htn
        obtain ⟨h1, h2, h3⟩ := ih2 _ hm (Nat.le_trans (visW_un _ _ _ _ _) hun) fun u hu => hl u (.tail _ hu)
        obtain ⟨l', hl'⟩ := hv.blk
        refine ⟨h1, fun b hb => h2 b (by rw [hl']; exact List.mem_append_left _ hb), fun u hu => ?_⟩
        rcases List.mem_cons.1 hu with rfl | hu
        · exact h2 _ (by rw [hl']; simp)
        · exact h3 u hu
      · rw [if_neg hlt]
        obtain ⟨h1, h2, h3⟩ := ih2 s hs hun fun u hu => hl u (.tail _ hu)
        refine ⟨h1, h2, fun u hu => ?_⟩
        rcases List.mem_cons.1 hu with rfl | hu
        · exact h2 _ (hs.ok.seen (hT.get (hl _ (.head _))) hlt)
        · exact h3 u hu

/-! dominators, by numbers -/
/-- A tree of a visit: par, and edges. -/
structure Tr (par : List Nat) (E : Nat → Nat → Prop) (n : Nat) : Prop where
  len : par.length = n
  p : ∀ i q, 0 < i → par[i]? = some q → q < i
  edge : ∀ i q, 0 < i → par[i]? = some q → E q i
  fwd : ∀ i j, E i j → i < j → Anc par i j
  adj : ∀ i q, par[i + 1]? = some q → Anc par q i
  lt : ∀ i j, E i j → i < n ∧ j < n
/-- A way of one edge or more, behind whose first place all are such. -/
inductive Wy (E : Nat → Nat → Prop) (P : Nat → Prop) (u : Nat) : Nat → Prop
  | one {v : Nat} : E u v → P v → Wy E P u v
  | snoc {v w : Nat} : Wy E P u v → E v w → P w → Wy E P u w
theorem Wy.mono {E : Nat → Nat → Prop} {P Q : Nat → Prop} {u v : Nat} (h : Wy E P u v) (k : ∀ z, P z → Q z) : Wy E Q u v := by
  induction h with
  | one h1 h2 => exact .one h1 (k _ h2)
  | snoc _ h1 h2 ih => exact .snoc ih h1 (k _ h2)
/-- A way whose places between are greater than its end. -/
def Sd (E : Nat → Nat → Prop) (n u : Nat) : Prop := E u n ∨ ∃ x, Wy E (fun z => n < z) u x ∧ E x n
/-- Reached from 0 without a. -/
inductive Rw (E : Nat → Nat → Prop) (a : Nat) : Nat → Prop
  | root : a ≠ 0 → Rw E a 0
  | step {u v : Nat} : Rw E a u → E u v → v ≠ a → Rw E a v
theorem Rw.ne {E : Nat → Nat → Prop} {a v : Nat} (h : Rw E a v) : v ≠ a := by
  cases h with
  | root h => exact fun e => h e.symm
  | step _ _ h => exact h
theorem Rw.wy {E : Nat → Nat → Prop} {P : Nat → Prop} {a u v : Nat} (h : Rw E a u) (hw : Wy E P u v) (k : ∀ z, P z → z ≠ a) : Rw E a v := by
  induction hw with
  | one h1 h2 => exact .step h h1 (k _ h2)
  | snoc _ h1 h2 ih => exact .step ih h1 (k _ h2)
theorem Rw.sd {E : Nat → Nat → Prop} {a u n : Nat} (h : Rw E a u) (hs : Sd E n u) (hn : a < n) : Rw E a n := by
  rcases hs with hs | ⟨x, hw, hx⟩
  · exact .step h hs (by omega)
  · exact .step (h.wy hw fun z hz => by omega) hx (by omega)
theorem Rw.other {E : Nat → Nat → Prop} {a x v : Nat} (hx : ¬ Rw E a x) (h : Rw E a v) : Rw E x v := by
  induction h with
  | root h => exact .root (by rintro rfl; exact hx (.root h))
  | @step u w h1 h2 h3 ih => exact .step ih h2 (by rintro rfl; exact hx (.step h1 h2 h3))
section
variable {par : List Nat} {E : Nat → Nat → Prop} {n : Nat}
theorem Tr.up (h : Tr par E n) {c z : Nat} (ha : Anc par c (z + 1)) (hc : c ≤ z) : Anc par c z := by
  cases ha with
  | refl => omega
  | step h1 h2 h3 => exact h3.trans (h.adj _ _ h1)
theorem Tr.itv (h : Tr par E n) {c v z : Nat} (ha : Anc par c v) (hc : c ≤ z) (hv : z ≤ v) : Anc par c z := by
  induction v with
  | zero => obtain rfl : z = 0 := by omega
            exact ha
  | succ v ih =>
    by_cases e : z = v + 1
    · subst e; exact ha
    · exact ih (h.up ha (by omega)) (by omega)
theorem Tr.root (h : Tr par E n) {i : Nat} (hi : i < n) : Anc par 0 i := by
  induction i using Nat.strongRecOn with
  | ind i ih =>
    by_cases e : i = 0
    · subst e; exact .refl _
    · obtain ⟨q, hq⟩ : ∃ q, par[i]? = some q := ⟨_, List.getElem?_eq_getElem (by rw [h.len]; exact hi)⟩
      have := h.p i q (by omega) hq
      exact .step hq this (ih q this (by omega))
/-- Down the tree, without a. -/
theorem Tr.down (h : Tr par E n) {a c v : Nat} (hr : Rw E a c) (ha : Anc par c v) (k : ∀ z, Anc par c z → Anc par z v → z ≠ a) : Rw E a v := by
  induction ha with
  | refl => exact hr
  | @step j p h1 h2 h3 ih =>
    exact .step (ih fun z hz hz2 => k z hz (.step h1 h2 hz2)) (h.edge _ _ (by omega) h1) (k _ (.step h1 h2 h3) (.refl _))
theorem Tr.tree (h : Tr par E n) {a v : Nat} (hv : v < n) (k : ¬ Anc par a v) : Rw E a v :=
  h.down (.root (by rintro rfl; exact k (h.root hv))) (h.root hv) fun z _ hz e => k (e ▸ hz)
theorem Tr.low (h : Tr par E n) {a v : Nat} (hv : v < n) (k : v < a) : Rw E a v := h.tree hv fun hh => by have := hh.le; omega
theorem Tr.least (h : Tr par E n) {P : Nat → Prop} {u v : Nat} (hw : Wy E P u v) : ∃ c, P c ∧ Wy E (fun z => c ≤ z) u v ∧ Sd E c u ∧ Anc par c v := by
  induction hw with
  | @one v h1 h2 => exact ⟨v, h2, .one h1 (Nat.le_refl _), .inl h1, .refl _⟩
  | @snoc v w hw h1 h2 ih =>
    obtain ⟨c, hc, hcw, hsd, ha⟩ := ih
    by_cases e : w < c
    · exact ⟨w, h2, .snoc (hcw.mono fun z hz => by omega) h1 (Nat.le_refl _), .inr ⟨v, hcw.mono fun z hz => by omega, h1⟩, .refl _⟩
    · refine ⟨c, hc, .snoc hcw h1 (by omega), hsd, ?_⟩
      by_cases e2 : v < w
      · exact ha.trans (h.fwd v w h1 e2)
      · exact h.itv ha (by omega) (by omega)
theorem Rw.last {a v : Nat} (h : Rw E a v) (hv : a < v) : ∃ w, w < a ∧ Rw E a w ∧ Wy E (fun z => a < z) w v := by
  induction h with
  | root => omega
  | @step u v h1 h2 h3 ih =>
    by_cases e : u < a
    · exact ⟨u, e, h1, .one h2 hv⟩
    · have := h1.ne
      obtain ⟨w, hw, hr, hy⟩ := ih (by omega)
      exact ⟨w, hw, hr, .snoc hy h2 hv⟩
/-- What semidominators are. -/
structure Se (E : Nat → Nat → Prop) (n : Nat) (S : Nat → Nat) : Prop where
  lt : ∀ v, 0 < v → v < n → S v < v
  way : ∀ v, 0 < v → v < n → Sd E v (S v)
  le : ∀ v u, 0 < v → v < n → u < v → Sd E v u → S v ≤ u
/-- On the way up from b, to 0. -/
inductive Ch (D : Nat → Nat) (a : Nat) : Nat → Prop
  | refl : Ch D a a
  | step {b : Nat} : 0 < b → Ch D a (D b) → Ch D a b
theorem Ch.trans {D : Nat → Nat} {a b c : Nat} (h : Ch D a b) (h2 : Ch D b c) : Ch D a c := by
  induction h2 with
  | refl => exact h
  | step h1 _ ih => exact .step h1 ih
/-- What the nearest ones are. -/
structure NeP (par : List Nat) (n : Nat) (S D : Nat → Nat) : Prop where
  lt : ∀ b, 0 < b → b < n → D b < b
  ch : ∀ b q, 0 < b → par[b]? = some q → Ch D (D b) q
  le : ∀ b, 0 < b → b < n → D b ≤ S b
  first : ∀ b q y, 0 < b → par[b]? = some q → Ch D y q → y ≤ S b → Ch D y (D b)
theorem dom_ch (h : Tr par E n) {S D : Nat → Nat} (hS : Se E n S) (hD : NeP par n S D) : ∀ b, b < n → ∀ a, a ≠ b → (¬ Rw E a b ↔ Ch D a b) := by
  intro b
  induction b using Nat.strongRecOn with
  | ind b ih =>
    intro hb a hab
    by_cases e0 : b = 0
    · subst e0
      constructor
      · exact fun hn => absurd (.root hab) hn
      · intro hc
        cases hc with
        | refl => exact absurd rfl hab
        | step h0 _ => omega
    obtain ⟨q, hq⟩ : ∃ q, par[b]? = some q := ⟨_, List.getElem?_eq_getElem (by rw [h.len]; exact hb)⟩
    have hqb := h.p b q (by omega) hq
    have hx := hD.lt b (by omega) hb
    have dom : ¬ Rw E (D b) b := by
      intro hr
      obtain ⟨w, hw, hrw, hy⟩ := hr.last hx
      obtain ⟨c, hc, -, hsd, hanc⟩ := h.least hy
      have hcn : c < n := Nat.lt_of_le_of_lt hanc.le hb
      have hSc := hS.le c w (by omega) hcn (by omega) hsd
      by_cases ecb : c = b
      · subst ecb
        have := hD.le c (by omega) hb
        omega
      · have hcq : Anc par c q := by
          cases hanc with
          | refl => exact absurd rfl ecb
          | step h1 h2 h3 => rw [hq] at h1; rw [Option.some.inj h1]; exact h3
        have hrq : Rw E (D b) q := h.down (hrw.sd hsd hc) hcq fun z hz _ => by have := hz.le; omega
        have hch := hD.ch b q (by omega) hq
        by_cases exq : D b = q
        · have := hcq.le; omega
        · exact (ih q hqb (by omega) (D b) exq).2 hch hrq
    constructor
    · intro hn
      have hanc : Anc par a b := Classical.byContradiction fun hna => hn (h.tree hb hna)
      have hle := hanc.le
      have hnq : ¬ Rw E a q := fun hr => hn (.step hr (h.edge b q (by omega) hq) (_root_.Ne.symm hab))
      have hcq : Ch D a q := by
        by_cases eq : a = q
        · subst eq; exact .refl
        · exact (ih q hqb (by omega) a eq).1 hnq
      have hSa : a ≤ S b := Classical.byContradiction fun hlt => hn ((h.low (by have := hS.lt b (by omega) hb; omega) (by omega)).sd (hS.way b (by omega) hb) (by omega))
      exact .step (by omega) (hD.first b q a (by omega) hq hcq hSa)
    · intro hc
      have hcx : Ch D a (D b) := by
        cases hc with
        | refl => exact absurd rfl hab
        | step _ h => exact h
      by_cases eax : a = D b
      · rw [eax]; exact dom
      · exact fun hr => dom (hr.other ((ih (D b) hx (by omega) a eax).2 hcx))
end

/-! what is reckoned of a visit -/
/-- Edges, by numbers. -/
def Wk.E (T : List (List Nat)) (k : Wk) (i j : Nat) : Prop := ∃ b t, k.blk[i]? = some b ∧ t ∈ T.getD b [] ∧ k.blk[j]? = some t
theorem walk_vis {N : Nat} {T : List (List Nat)} (hT : RowsOk N T) (hN : 0 < N) : Vis N T (wk0 N) (visW T N 0 0 (wk0 N)) 0 0 := by
  refine vis_all hT N 0 0 (wk0 N) (wk0_ok N) (by simp [wk0]) ?_ (.inl ⟨rfl, rfl⟩) ?_
  · simp [wk0, List.getElem?_replicate]; omega
  · refine Nat.le_trans List.countP_le_length ?_
    simp [wk0]
theorem walkM_eq {N : Nat} {T : List (List Nat)} (hT : RowsOk N T) (hN : 0 < N) : walkM T = { visW T N 0 0 (wk0 N) with ord := (visW T N 0 0 (wk0 N)).ord.reverse } := by
  unfold walkM
  rw [if_neg (by rw [hT.1]; omega), hT.1]
theorem walk_tr {N : Nat} {T : List (List Nat)} (hT : RowsOk N T) (hN : 0 < N) : Tr (walkM T).par ((walkM T).E T) (walkM T).blk.length := by
  have hv := walk_vis hT hN
  rw [walkM_eq hT hN]
  generalize visW T N 0 0 (wk0 N) = s at hv
  have hp : ∀ i q, 0 < i → s.par[i]? = some q → q < i := fun i q hi hq => by
    rcases hv.ok.p i q hq with ⟨rfl, -⟩ | h
    · omega
    · exact h
  refine ⟨hv.ok.par, hp, fun i q hi hq => ?_, ?_, fun i q hq => hv.adj i q (Nat.zero_le _) hq, ?_⟩
  · have hil : i < s.blk.length := by rw [← hv.ok.par]; exact (List.getElem?_eq_some_iff.1 hq).1
    have hb := List.getElem?_eq_getElem hil
    have hc := List.getElem?_eq_getElem (Nat.lt_trans (hp i q hi hq) hil)
    exact ⟨_, _, hc, hv.edge i _ q _ hi hb hq hc, hb⟩
  · rintro i j ⟨b, t, h1, h2, h3⟩ hij
    exact hv.fwd i b t j (Nat.zero_le _) h1 h2 h3 hij
  · rintro i j ⟨b, t, h1, h2, h3⟩
    exact ⟨(List.getElem?_eq_some_iff.1 h1).1, (List.getElem?_eq_some_iff.1 h3).1⟩
theorem getD_set_self {α : Type} {l : List α} {i : Nat} {x d : α} (h : i < l.length) : (l.set i x).getD i d = x := by
  rw [List.getD_eq_getElem?_getD, List.getElem?_set_self h]; rfl
theorem getD_set_ne {α : Type} {l : List α} {i j : Nat} {x d : α} (h : i ≠ j) : (l.set i x).getD j d = l.getD j d := by
  rw [List.getD_eq_getElem?_getD, List.getElem?_set_ne h, List.getD_eq_getElem?_getD]
theorem getD_some {α : Type} {l : List α} {i : Nat} {x d : α} (h : l[i]? = some x) : l.getD i d = x := by
  rw [List.getD_eq_getElem?_getD, h]; rfl
/-- Climbing. -/
theorem climb_spec {par : List Nat} {n : Nat} (hp : ∀ i q, 0 < i → par[i]? = some q → q < i) (F : Nat) : ∀ (f : Nat) (s : List Nat), f < F → f < par.length → n < s.length →
    (climbM par n F f s).length = s.length ∧ (∀ j, j ≠ n → (climbM par n F f s).getD j 0 = s.getD j 0) ∧ (climbM par n F f s).getD n 0 ≤ s.getD n 0 ∧
    (∀ g, Anc par g f → n < g → (climbM par n F f s).getD n 0 ≤ s.getD g 0) ∧ ((climbM par n F f s).getD n 0 = s.getD n 0 ∨ ∃ g, Anc par g f ∧ n < g ∧ (climbM par n F f s).getD n 0 = s.getD g 0) := by
  induction F with
  | zero => intro f s h; omega
  | succ F ih =>
    intro f s hf hfl hn
    unfold climbM
    by_cases c : n < f
    · rw [if_pos c]
      have hq : par[f]? = some (par.getD f 0) := by rw [List.getD_eq_getElem?_getD, List.getElem?_eq_getElem hfl]; rfl
      have hlt := hp f _ (by omega) hq
      obtain ⟨h1, h2, h3, h4, h5⟩ := ih (par.getD f 0) (s.set n (min (s.getD n 0) (s.getD f 0))) (by omega) (by omega) (by simpa using hn)
      have e0 : (s.set n (min (s.getD n 0) (s.getD f 0))).getD n 0 = min (s.getD n 0) (s.getD f 0) := getD_set_self hn
      have e1 : ∀ j, j ≠ n → (s.set n (min (s.getD n 0) (s.getD f 0))).getD j 0 = s.getD j 0 := fun j hj => getD_set_ne (_root_.Ne.symm hj)
      rw [e0] at h3 h5
      refine ⟨by rw [h1]; simp, fun j hj => by rw [h2 j hj, e1 j hj], by omega, fun g hg hng => ?_, ?_⟩
      · cases hg with
        | refl => omega
        | step a1 a2 a3 =>
          rw [hq] at a1
          have := h4 g (by rw [Option.some.inj a1]; exact a3) hng
          rwa [e1 g (by omega)] at this
      · rcases h5 with h5 | ⟨g, hg, hng, h5⟩
        · rw [h5]
          rcases Nat.le_total (s.getD n 0) (s.getD f 0) with hle | hle
          · exact .inl (Nat.min_eq_left hle)
          · exact .inr ⟨f, .refl _, c, Nat.min_eq_right hle⟩
        · exact .inr ⟨g, .step hq hlt hg, hng, by rw [h5, e1 g (by omega)]⟩
    · rw [if_neg c]
      exact ⟨rfl, fun _ _ => rfl, Nat.le_refl _, fun g hg hng => by have := hg.le; omega, .inl rfl⟩
/-- A semidominator's way through one that is above. -/
theorem Tr.wyD {par : List Nat} {E : Nat → Nat → Prop} {n : Nat} (h : Tr par E n) {P : Nat → Prop} {u g f : Nat} (hw : Wy E P u g) (ha : Anc par g f) (k : ∀ z, g ≤ z → P z) : Wy E P u f := by
  induction ha with
  | refl => exact hw
  | step h1 h2 h3 ih => exact .snoc ih (h.edge _ _ (by omega) h1) (k _ (by have := h3.le; omega))
theorem Tr.sdD {par : List Nat} {E : Nat → Nat → Prop} {n : Nat} (h : Tr par E n) {u v g f : Nat} (hs : Sd E g u) (ha : Anc par g f) (hv : v < g) (hf : E f v) : Sd E v u := by
  refine .inr ⟨f, h.wyD ?_ ha fun z hz => by omega, hf⟩
  rcases hs with hs | ⟨x, hw, hx⟩
  · exact .one hs hv
  · exact .snoc (hw.mono fun z hz => by omega) hx hv
/-- What stands in the list at v when v has been done. -/
structure SeP (par : List Nat) (E : Nat → Nat → Prop) (v : Nat) (D : List Nat) (s0 s : List Nat) : Prop where
  len : s.length = s0.length
  other : ∀ j, j ≠ v → s.getD j 0 = s0.getD j 0
  le0 : s.getD v 0 ≤ s0.getD v 0
  sd : Sd E v (s.getD v 0)
  le : ∀ f ∈ D, f < v → s.getD v 0 ≤ f
  up : ∀ f ∈ D, ∀ g, Anc par g f → v < g → s.getD v 0 ≤ s0.getD g 0
theorem semi_fold {par : List Nat} {E : Nat → Nat → Prop} {n : Nat} (h : Tr par E n) {v : Nat} {s0 : List Nat} (hv : v < s0.length) (hd : ∀ g, v < g → g < n → Sd E g (s0.getD g 0)) (l : List Nat) :
    ∀ (D : List Nat) (s : List Nat), (∀ f ∈ l, E f v) → SeP par E v D s0 s → SeP par E v (D ++ l) s0 (l.foldl (semi1 par v) s) := by
  induction l with
  | nil => intro D s _ hs; simpa using hs
  | cons f l ih =>
    intro D s hl hs
    rw [List.foldl_cons, show D ++ f :: l = (D ++ [f]) ++ l by simp]
    refine ih _ _ (fun f hf => hl f (.tail _ hf)) ?_
    have hE := hl f (.head _)
    have hfn : f < par.length := by rw [h.len]; exact (h.lt _ _ hE).1
    unfold semi1
    obtain ⟨s1, e1⟩ : ∃ s1, (if f < v then s.set v (min (s.getD v 0) f) else s) = s1 := ⟨_, rfl⟩
    have q1 : s1.length = s.length ∧ (∀ j, j ≠ v → s1.getD j 0 = s.getD j 0) ∧ s1.getD v 0 ≤ s.getD v 0 ∧ (f < v → s1.getD v 0 ≤ f) ∧ Sd E v (s1.getD v 0) := by
      rw [← e1]
      split
      · refine ⟨by simp, fun j hj => getD_set_ne (_root_.Ne.symm hj), ?_, fun _ => ?_, ?_⟩
        · rw [getD_set_self (by rw [hs.len]; exact hv)]; omega
        · rw [getD_set_self (by rw [hs.len]; exact hv)]; omega
        · rw [getD_set_self (by rw [hs.len]; exact hv)]
          rcases Nat.le_total (s.getD v 0) f with hle | hle
          · rw [Nat.min_eq_left hle]; exact hs.sd
          · rw [Nat.min_eq_right hle]; exact .inl hE
      · exact ⟨rfl, fun _ _ => rfl, Nat.le_refl _, fun hh => absurd hh (by assumption), hs.sd⟩
    dsimp only
    rw [e1]
    obtain ⟨r1, r2, r3, r4, r5⟩ := climb_spec (n := v) h.p (f + 1) f s1 (by omega) hfn (by rw [q1.1, hs.len]; exact hv)
    have eg : ∀ g, v < g → s1.getD g 0 = s0.getD g 0 := fun g hg => by rw [q1.2.1 g (by omega), hs.other g (by omega)]
    refine ⟨by rw [r1, q1.1, hs.len], fun j hj => by rw [r2 j hj, q1.2.1 j hj, hs.other j hj], by have := hs.le0; have := q1.2.2.1; omega, ?_, ?_, ?_⟩
    · rcases r5 with r5 | ⟨g, hg, hvg, r5⟩
      · rw [r5]; exact q1.2.2.2.2
      · rw [r5, eg g hvg]
        exact h.sdD (hd g hvg (by have := hg.le; have := (h.lt _ _ hE).1; omega)) hg hvg hE
    · intro f' hf' hlt
      rcases List.mem_append.1 hf' with hf' | hf'
      · have := hs.le f' hf' hlt; have := q1.2.2.1; omega
      · have : f' = f := by simpa using hf'
        subst this
        have := q1.2.2.2.1 hlt; omega
    · intro f' hf' g hg hvg
      rcases List.mem_append.1 hf' with hf' | hf'
      · have := hs.up f' hf' g hg hvg; have := q1.2.2.1; omega
      · have : f' = f := by simpa using hf'
        subst this
        have := r4 g hg hvg
        rwa [eg g hvg] at this
theorem semi_spec {par : List Nat} {E : Nat → Nat → Prop} {n : Nat} (h : Tr par E n) {fr : List (List Nat)} (h1 : ∀ i j, i ∈ fr.getD j [] → E i j) (h2 : ∀ i j, E i j → i ∈ fr.getD j []) :
    ∀ (m : Nat) (s : List Nat), m ≤ n → s.length = n → (∀ j, j < m → s.getD j 0 = par.getD j 0) → (∀ g, m ≤ g → 0 < g → g < n → s.getD g 0 < g ∧ Sd E g (s.getD g 0) ∧ ∀ u, u < g → Sd E g u → s.getD g 0 ≤ u) →
    (semiN par fr m s).length = n ∧ (0 < m → (semiN par fr m s).getD 0 0 = par.getD 0 0) ∧ (∀ j, j < n → (semiN par fr m s).getD j 0 ≤ s.getD j 0) ∧ ∀ g, 0 < g → g < n → (semiN par fr m s).getD g 0 < g ∧ Sd E g ((semiN par fr m s).getD g 0) ∧ ∀ u, u < g → Sd E g u → (semiN par fr m s).getD g 0 ≤ u := by
  intro m
  induction m with
  | zero =>
    intro s _ hl _ hg
    exact ⟨hl, fun e => absurd e (Nat.lt_irrefl 0), fun _ _ => Nat.le_refl _, fun g hg0 => hg g (Nat.zero_le _) hg0⟩
  | succ v ih =>
    intro s hm hl hp hg
    unfold semiN
    by_cases c : v = 0
    · rw [if_pos c]
      subst c
      exact ⟨hl, fun _ => hp 0 (by omega), fun _ _ => Nat.le_refl _, fun g hg0 => hg g (by omega) hg0⟩
    · rw [if_neg c]
      have hq : par[v]? = some (par.getD v 0) := by rw [List.getD_eq_getElem?_getD, List.getElem?_eq_getElem (by rw [h.len]; omega)]; rfl
      have e0 : s.getD v 0 = par.getD v 0 := hp v (by omega)
      have hpv := h.p v _ (by omega) hq
      have hs0 : SeP par E v [] s s := ⟨rfl, fun _ _ => rfl, Nat.le_refl _, .inl (by rw [e0]; exact h.edge v _ (by omega) hq), fun f hf => (by cases hf), fun f hf => (by cases hf)⟩
      have hf := semi_fold h (v := v) (s0 := s) (by omega) (fun g hvg hgn => (hg g (by omega) (by omega) hgn).2.1) (fr.getD v []) [] s (fun f hf => h1 f v hf) hs0
      rw [List.nil_append] at hf
      obtain ⟨r1, r2, r3, r4⟩ := ih ((fr.getD v []).foldl (semi1 par v) s) (by omega) (by rw [hf.len, hl]) (fun j hj => by rw [hf.other j (by omega)]; exact hp j (by omega)) fun g hvg hg0 hgn => by
        by_cases e : g = v
        · subst e
          refine ⟨by have := hf.le0; omega, hf.sd, fun u hu hsd => ?_⟩
          rcases hsd with hsd | ⟨x, hw, hx⟩
          · exact hf.le u (h2 u g hsd) hu
          · obtain ⟨cc, hcc, -, hsd, hanc⟩ := h.least hw
            have hcn : cc < n := by have := hanc.le; have := (h.lt _ _ hx).1; omega
            have a1 := hf.up x (h2 x g hx) cc hanc hcc
            have a2 := (hg cc (by omega) (by omega) hcn).2.2 u (by omega) hsd
            omega
        · rw [hf.other g e]
          exact hg g (by omega) hg0 hgn
      refine ⟨r1, fun _ => r2 (by omega), fun j hj => ?_, r4⟩
      have := r3 j hj
      by_cases e : j = v
      · subst e; have := hf.le0; omega
      · rwa [hf.other j e] at this
theorem near_spec {se : List Nat} {b : Nat} {D : Nat → Nat} (hD : ∀ m, 0 < m → m < b → D m < m) (F : Nat) : ∀ (s : List Nat), b < s.length → (∀ m, m < b → s.getD m 0 = D m) → s.getD b 0 < b → s.getD b 0 < F →
    (nearN se b F s).length = s.length ∧ (∀ j, j ≠ b → (nearN se b F s).getD j 0 = s.getD j 0) ∧ (nearN se b F s).getD b 0 ≤ s.getD b 0 ∧ (nearN se b F s).getD b 0 ≤ se.getD b 0 ∧ Ch D ((nearN se b F s).getD b 0) (s.getD b 0) ∧
    ∀ y, Ch D y (s.getD b 0) → y ≤ se.getD b 0 → Ch D y ((nearN se b F s).getD b 0) := by
  induction F with
  | zero => intro s _ _ _ h; omega
  | succ F ih =>
    intro s hb hs hlt hF
    unfold nearN
    by_cases c : se.getD b 0 < s.getD b 0
    · rw [if_pos c]
      have e1 : s.getD (s.getD b 0) 0 = D (s.getD b 0) := hs _ hlt
      have e2 : (s.set b (s.getD (s.getD b 0) 0)).getD b 0 = D (s.getD b 0) := by rw [getD_set_self hb, e1]
      have hd := hD _ (by omega) hlt
      obtain ⟨r1, r2, r3, r4, r5, r6⟩ := ih (s.set b (s.getD (s.getD b 0) 0)) (by simpa using hb) (fun m hm => by rw [getD_set_ne (by omega)]; exact hs m hm) (by rw [e2]; omega) (by rw [e2]; omega)
      rw [e2] at r3 r5 r6
      refine ⟨by rw [r1]; simp, fun j hj => by rw [r2 j hj, getD_set_ne (_root_.Ne.symm hj)], by omega, r4, .step (by omega) r5, fun y hy hle => r6 y ?_ hle⟩
      cases hy with
      | refl => omega
      | step _ h => exact h
    · rw [if_neg c]
      exact ⟨rfl, fun _ _ => rfl, Nat.le_refl _, by omega, .refl, fun y hy _ => hy⟩
theorem Ch.mono {D D' : Nat → Nat} {a b : Nat} (h : Ch D a b) (hlt : ∀ m, 0 < m → m ≤ b → D m < m) (k : ∀ m, 0 < m → m ≤ b → D m = D' m) : Ch D' a b := by
  induction h with
  | refl => exact .refl
  | @step b h0 _ ih =>
    have := hlt b h0 (Nat.le_refl _)
    exact .step h0 (by rw [← k b h0 (Nat.le_refl _)]; exact ih (fun m h1 h2 => hlt m h1 (by omega)) fun m h1 h2 => k m h1 (by omega))
theorem near_fold {se par : List Nat} {n : Nat} (hl : par.length = n) (hp : ∀ i q, 0 < i → par[i]? = some q → q < i) (h0 : par.getD 0 0 = 0) :
    ∀ m, m ≤ n → ((List.range m).foldl (fun s n => nearN se n (par.length + 1) s) par).length = n ∧ (∀ j, m ≤ j → ((List.range m).foldl (fun s n => nearN se n (par.length + 1) s) par).getD j 0 = par.getD j 0) ∧
      (0 < m → ((List.range m).foldl (fun s n => nearN se n (par.length + 1) s) par).getD 0 0 = 0) ∧
      ∀ b, 0 < b → b < m → ((List.range m).foldl (fun s n => nearN se n (par.length + 1) s) par).getD b 0 < b ∧ ((List.range m).foldl (fun s n => nearN se n (par.length + 1) s) par).getD b 0 ≤ se.getD b 0 ∧
        Ch (fun i => ((List.range m).foldl (fun s n => nearN se n (par.length + 1) s) par).getD i 0) (((List.range m).foldl (fun s n => nearN se n (par.length + 1) s) par).getD b 0) (par.getD b 0) ∧
        ∀ y, Ch (fun i => ((List.range m).foldl (fun s n => nearN se n (par.length + 1) s) par).getD i 0) y (par.getD b 0) → y ≤ se.getD b 0 → Ch (fun i => ((List.range m).foldl (fun s n => nearN se n (par.length + 1) s) par).getD i 0) y (((List.range m).foldl (fun s n => nearN se n (par.length + 1) s) par).getD b 0) := by
  intro m
  induction m with
  | zero => intro _; exact ⟨hl, fun _ _ => rfl, fun h => absurd h (Nat.lt_irrefl _), fun b h1 h2 => by omega⟩
  | succ m ih =>
    intro hm
    obtain ⟨i1, i2, i3, i4⟩ := ih (by omega)
    rw [List.range_succ, List.foldl_append, List.foldl_cons, List.foldl_nil]
    generalize (List.range m).foldl (fun s n => nearN se n (par.length + 1) s) par = s at i1 i2 i3 i4 ⊢
    by_cases c : m = 0
    · subst c
      have e0 : s.getD 0 0 = 0 := by rw [i2 0 (Nat.le_refl _), h0]
      have e1 : nearN se 0 (par.length + 1) s = s := by unfold nearN; rw [if_neg (by rw [e0]; omega)]
      rw [e1]
      exact ⟨i1, fun j _ => i2 j (by omega), fun _ => e0, fun b h1 h2 => by omega⟩
    · have hq : par[m]? = some (par.getD m 0) := by rw [List.getD_eq_getElem?_getD, List.getElem?_eq_getElem (by omega)]; rfl
      have hpm := hp m _ (by omega) hq
      have em : s.getD m 0 = par.getD m 0 := i2 m (Nat.le_refl _)
      obtain ⟨r1, r2, r3, r4, r5, r6⟩ := near_spec (se := se) (b := m) (D := fun i => s.getD i 0) (fun b h1 h2 => (i4 b h1 h2).1) (par.length + 1) s (by omega) (fun _ _ => rfl) (by rw [em]; omega) (by rw [em]; omega)
      generalize nearN se m (par.length + 1) s = r at r1 r2 r3 r4 r5 r6 ⊢
      rw [em] at r3 r5 r6
      have eD : ∀ i, i < m → s.getD i 0 = r.getD i 0 := fun i hi => (r2 i (by omega)).symm
      have up : ∀ {y q : Nat}, q < m → Ch (fun i => s.getD i 0) y q → Ch (fun i => r.getD i 0) y q := fun hq h => h.mono (fun b h1 h2 => (i4 b h1 (by omega)).1) fun i _ hi => eD i (by omega)
      have down : ∀ {y q : Nat}, q < m → Ch (fun i => r.getD i 0) y q → Ch (fun i => s.getD i 0) y q := fun hq h => h.mono (fun b h1 h2 => by rw [← eD b (by omega)]; exact (i4 b h1 (by omega)).1) fun i _ hi => (eD i (by omega)).symm
      refine ⟨by rw [r1, i1], fun j hj => by rw [r2 j (by omega), i2 j (by omega)], fun _ => by rw [r2 0 (by omega)]; exact i3 (by omega), fun b h1 h2 => ?_⟩
      by_cases e : b = m
      · subst e
        exact ⟨by omega, r4, up hpm r5, fun y hy hle => up (by omega) (r6 y (down hpm hy) hle)⟩
      · obtain ⟨j1, j2, j3, j4⟩ := i4 b h1 (by omega)
        have hqb : par[b]? = some (par.getD b 0) := by rw [List.getD_eq_getElem?_getD, List.getElem?_eq_getElem (by omega)]; rfl
        have hpb := hp b _ h1 hqb
        rw [← eD b (by omega)]
        exact ⟨j1, j2, up (by omega) j3, fun y hy hle => up (by omega) (j4 y (down (by omega) hy) hle)⟩
theorem near_ne {par : List Nat} {E : Nat → Nat → Prop} {n : Nat} (h : Tr par E n) (h0 : par.getD 0 0 = 0) (se : List Nat) : NeP par n (fun i => se.getD i 0) (fun i => (nearM se par).getD i 0) := by
  obtain ⟨i1, i2, i3, i4⟩ := near_fold (se := se) h.len h.p h0 n (Nat.le_refl _)
  have e : (List.range n).foldl (fun s n => nearN se n (par.length + 1) s) par = nearM se par := by unfold nearM; rw [h.len]
  rw [e] at i1 i2 i3 i4
  have hd : ∀ {b q : Nat}, par[b]? = some q → par.getD b 0 = q ∧ b < n := fun hq => ⟨getD_some hq, by rw [← h.len]; exact (List.getElem?_eq_some_iff.1 hq).1⟩
  refine ⟨fun b h1 h2 => (i4 b h1 h2).1, fun b q h1 hq => ?_, fun b h1 h2 => (i4 b h1 h2).2.1, fun b q y h1 hq hy hle => ?_⟩
  · have := (i4 b h1 (hd hq).2).2.2.1
    rwa [(hd hq).1] at this
  · have := (i4 b h1 (hd hq).2).2.2.2 y
    rw [(hd hq).1] at this
    exact this hy hle

/-! lists that are filled -/
theorem set_fold {α : Type} (g : Nat → Nat) (v : Nat → α) (d0 : List α) (z : α) : ∀ m, (∀ i, i < m → g i < d0.length) → (∀ i j, i < m → j < m → g i = g j → i = j) →
    ((List.range m).foldl (fun d i => d.set (g i) (v i)) d0).length = d0.length ∧ (∀ i, i < m → ((List.range m).foldl (fun d i => d.set (g i) (v i)) d0).getD (g i) z = v i) ∧
    ∀ b, (∀ i, i < m → g i ≠ b) → ((List.range m).foldl (fun d i => d.set (g i) (v i)) d0).getD b z = d0.getD b z := by
  intro m
  induction m with
  | zero => intro _ _; exact ⟨rfl, fun i h => by omega, fun _ _ => rfl⟩
  | succ m ih =>
    intro hl hi
    obtain ⟨h1, h2, h3⟩ := ih (fun i h => hl i (by omega)) fun i j h h' => hi i j (by omega) (by omega)
    rw [List.range_succ, List.foldl_append, List.foldl_cons, List.foldl_nil]
    generalize (List.range m).foldl (fun d i => d.set (g i) (v i)) d0 = d at h1 h2 h3 ⊢
    refine ⟨by simp [h1], fun i h => ?_, fun b hb => ?_⟩
    · by_cases e : i = m
      · subst e; exact getD_set_self (by rw [h1]; exact hl i (by omega))
      · rw [getD_set_ne (fun e2 => e (hi m i (by omega) h e2).symm)]
        exact h2 i (by omega)
    · rw [getD_set_ne (hb m (by omega))]
      exact h3 b fun i h => hb i (by omega)
theorem srcStep_spec (num : List Int) (n : Nat) (l : List Nat) : ∀ (fr : List (List Nat)), (∀ t ∈ l, (num.getD t 0).toNat < fr.length) →
    (l.foldl (fun fr to => let j := (num.getD to 0).toNat; fr.set j (fr.getD j [] ++ [n])) fr).length = fr.length ∧
    ∀ i j, i ∈ (l.foldl (fun fr to => let j := (num.getD to 0).toNat; fr.set j (fr.getD j [] ++ [n])) fr).getD j [] ↔ i ∈ fr.getD j [] ∨ (i = n ∧ ∃ t ∈ l, (num.getD t 0).toNat = j) := by
  induction l with
  | nil => intro fr _; exact ⟨rfl, fun i j => by simp⟩
  | cons t l ih =>
    intro fr hl
    rw [List.foldl_cons]
    dsimp only
    have ht := hl t (.head _)
    obtain ⟨h1, h2⟩ := ih (fr.set (num.getD t 0).toNat (fr.getD (num.getD t 0).toNat [] ++ [n])) (fun u hu => by rw [List.length_set]; exact hl u (.tail _ hu))
    refine ⟨by rw [h1]; simp, fun i j => ?_⟩
    rw [h2]
    by_cases e : (num.getD t 0).toNat = j
    · subst e
      rw [getD_set_self ht, List.mem_append, List.mem_singleton]
      constructor
      · rintro ((h | h) | ⟨h, u, hu, e⟩)
        · exact .inl h
        · exact .inr ⟨h, t, .head _, rfl⟩
        · exact .inr ⟨h, u, .tail _ hu, e⟩
      · rintro (h | ⟨h, u, hu, e⟩)
        · exact .inl (.inl h)
        · exact .inl (.inr h)
    · rw [getD_set_ne e]
      constructor
      · rintro (h | ⟨h, u, hu, e⟩)
        · exact .inl h
        · exact .inr ⟨h, u, .tail _ hu, e⟩
      · rintro (h | ⟨h, u, hu, e2⟩)
        · exact .inl h
        · rcases List.mem_cons.1 hu with rfl | hu
          · exact absurd e2 e
          · exact .inr ⟨h, u, hu, e2⟩
/-- What a finished visit of block 0 is. -/
structure FinW (N : Nat) (T : List (List Nat)) (k : Wk) : Prop where
  ok : k.Ok N
  zero : k.blk[0]? = some 0
  pz : k.par[0]? = some 0
  closed : ∀ (i b : Nat), k.blk[i]? = some b → ∀ t ∈ T.getD b [], t ∈ k.blk
  tr : Tr k.par (k.E T) k.blk.length
  ord : ∀ (b : Nat), b ∈ k.ord ↔ b ∈ k.blk
  nd : k.ord.Nodup
  head : ∃ o, k.ord = 0 :: o
  fin : ∀ (i b q c : Nat), 0 < i → k.blk[i]? = some b → k.par[i]? = some q → k.blk[q]? = some c → ∀ (x y : List Nat), k.ord = x ++ y → b ∈ x → c ∈ x
theorem walk_fin {N : Nat} {T : List (List Nat)} (hT : RowsOk N T) (hN : 0 < N) : FinW N T (walkM T) := by
  have htr := walk_tr hT hN
  have hv := walk_vis hT hN
  rw [walkM_eq hT hN] at htr ⊢
  generalize visW T N 0 0 (wk0 N) = s at hv htr
  obtain ⟨l, hl⟩ := hv.blk
  obtain ⟨q, hq⟩ := hv.par
  obtain ⟨o, ho, hoi⟩ := hv.ord
  obtain ⟨o', ho'⟩ := hv.fi
  have hmem : ∀ b, b ∈ s.ord ↔ b ∈ s.blk := fun b => by
    rw [ho]
    simp only [wk0, List.nil_append]
    rw [hoi]
    constructor
    · rintro ⟨i, -, h⟩; exact List.mem_of_getElem? h
    · intro h; obtain ⟨i, h⟩ := List.getElem?_of_mem h; exact ⟨i, Nat.zero_le _, h⟩
  refine ⟨⟨hv.ok.num, hv.ok.par, hv.ok.b, hv.ok.n, hv.ok.p, fun b hb => hv.ok.o b (by simpa using hb)⟩, by rw [hl]; rfl, by rw [hq]; rfl, fun i b hb => hv.closed i b (Nat.zero_le _) hb, htr, fun b => by rw [List.mem_reverse]; exact hmem b, ?_, ⟨o'.reverse, by rw [ho']; simp⟩, ?_⟩
  · show s.ord.reverse.Nodup
    exact (List.pairwise_reverse).2 (hv.nd.imp fun h => h.symm)
  · intro i b j c hi hb hj hc x y hxy hbx
    have hxy' : s.ord = y.reverse ++ x.reverse := by
      rw [← List.reverse_append, ← hxy, List.reverse_reverse]
    have hcb : c ∈ s.ord := (hmem c).2 (List.mem_of_getElem? hc)
    have hnd := hv.nd
    rw [hxy', List.nodup_append] at hnd
    rw [hxy', List.mem_append] at hcb
    rcases hcb with hcb | hcb
    · have := hv.fin i b j c hi hb hj hc _ _ hxy' hcb
      exact absurd rfl (hnd.2.2 b this b (by simpa using hbx))
    · simpa using hcb
section
variable {N : Nat} {T : List (List Nat)} {k : Wk}
theorem FinW.numOf (h : FinW N T k) {i b : Nat} (hi : k.blk[i]? = some b) : (k.num.getD b 0).toNat = i := by
  rw [getD_some (h.ok.b i b hi).2]; rfl
theorem FinW.src (h : FinW N T k) : (srcsM T k).length = k.blk.length ∧ ∀ i j, i ∈ (srcsM T k).getD j [] ↔ k.E T i j := by
  have key : ∀ m, m ≤ k.blk.length → ((List.range m).foldl (fun fr n => srcStep T k n fr) (List.replicate k.blk.length [])).length = k.blk.length ∧ ∀ i j, i ∈ ((List.range m).foldl (fun fr n => srcStep T k n fr) (List.replicate k.blk.length [])).getD j [] ↔ i < m ∧ k.E T i j := by
    intro m
    induction m with
    | zero =>
      intro _
      refine ⟨by simp, fun i j => ?_⟩
      simp only [List.range_zero, List.foldl_nil, List.getD_eq_getElem?_getD, List.getElem?_replicate]
      split <;> simp
    | succ m ih =>
      intro hm
      obtain ⟨h1, h2⟩ := ih (by omega)
      rw [List.range_succ, List.foldl_append, List.foldl_cons, List.foldl_nil]
      generalize (List.range m).foldl (fun fr n => srcStep T k n fr) (List.replicate k.blk.length []) = fr at h1 h2 ⊢
      have hb : k.blk[m]? = some (k.blk.getD m 0) := by rw [List.getD_eq_getElem?_getD, List.getElem?_eq_getElem (by omega)]; rfl
      unfold srcStep
      generalize k.blk.getD m 0 = b at hb
      have hin : ∀ t ∈ T.getD b [], ∃ j, k.blk[j]? = some t ∧ (k.num.getD t 0).toNat = j := fun t ht => by
        obtain ⟨j, hj⟩ := List.getElem?_of_mem (h.closed m b hb t ht)
        exact ⟨j, hj, h.numOf hj⟩
      obtain ⟨r1, r2⟩ := srcStep_spec k.num m (T.getD b []) fr (fun t ht => by
        obtain ⟨j, hj, e⟩ := hin t ht
        rw [e, h1]
        exact (List.getElem?_eq_some_iff.1 hj).1)
      refine ⟨by rw [r1, h1], fun i j => ?_⟩
      rw [r2, h2]
      constructor
      · rintro (⟨hi, he⟩ | ⟨rfl, t, ht, e⟩)
        · exact ⟨by omega, he⟩
        · obtain ⟨j', hj, e'⟩ := hin t ht
          exact ⟨by omega, b, t, hb, ht, by rw [← e, e']; exact hj⟩
      · rintro ⟨hi, he⟩
        by_cases e : i = m
        · subst e
          obtain ⟨b', t, hb', ht, hj⟩ := he
          obtain rfl : b' = b := by rw [hb] at hb'; exact (Option.some.inj hb').symm
          exact .inr ⟨rfl, t, ht, h.numOf hj⟩
        · exact .inl ⟨by omega, he⟩
  obtain ⟨h1, h2⟩ := key _ (Nat.le_refl _)
  refine ⟨h1, fun i j => ⟨fun hi => ((h2 i j).1 hi).2, fun he => (h2 i j).2 ⟨(h.tr.lt _ _ he).1, he⟩⟩⟩
theorem FinW.pos (h : FinW N T k) : 0 < k.blk.length := (List.getElem?_eq_some_iff.1 h.zero).1
/-- Semidominators, and the nearest. -/
theorem FinW.sem (h : FinW N T k) : (semiM T k).length = k.blk.length ∧ (semiM T k).getD 0 0 = 0 ∧ Se (k.E T) k.blk.length (fun i => (semiM T k).getD i 0) := by
  obtain ⟨s1, s2⟩ := h.src
  obtain ⟨r1, r2, -, r4⟩ := semi_spec h.tr (fun i j => (s2 i j).1) (fun i j => (s2 i j).2) k.par.length k.par (by rw [h.ok.par]; exact Nat.le_refl _) h.ok.par (fun _ _ => rfl) (fun g h1 _ h3 => by rw [h.ok.par] at h1; omega)
  have hp : 0 < k.par.length := by rw [h.ok.par]; exact h.pos
  refine ⟨r1, (r2 hp).trans (getD_some h.pz), fun v h1 h2 => (r4 v h1 h2).1, fun v h1 h2 => (r4 v h1 h2).2.1, fun v u h1 h2 h3 h4 => (r4 v h1 h2).2.2 u h3 h4⟩
theorem FinW.near (h : FinW N T k) : NeP k.par k.blk.length (fun i => (semiM T k).getD i 0) (fun i => (nearM (semiM T k) k.par).getD i 0) ∧ (nearM (semiM T k) k.par).length = k.blk.length ∧ (nearM (semiM T k) k.par).getD 0 0 = 0 := by
  refine ⟨near_ne h.tr (getD_some h.pz) _, ?_⟩
  obtain ⟨i1, -, i3, -⟩ := near_fold (se := semiM T k) h.ok.par h.tr.p (getD_some h.pz) k.blk.length (Nat.le_refl _)
  have e : (List.range k.blk.length).foldl (fun s n => nearN (semiM T k) n (k.par.length + 1) s) k.par = nearM (semiM T k) k.par := by unfold nearM; rw [h.ok.par]
  rw [e] at i1 i3
  exact ⟨i1, i3 h.pos⟩
theorem FinW.doms (h : FinW N T k) (hT : T.length = N) : (domsM T k).length = N ∧ (∀ i b, k.blk[i]? = some b → (domsM T k).getD b 0 = (k.blk.getD ((nearM (semiM T k) k.par).getD i 0) 0 : Nat)) ∧ ∀ b, b < N → b ∉ k.blk → (domsM T k).getD b 0 = -1 := by
  have hb : ∀ {i : Nat}, i < k.blk.length → k.blk[i]? = some (k.blk.getD i 0) := fun hi => by rw [List.getD_eq_getElem?_getD, List.getElem?_eq_getElem hi]; rfl
  obtain ⟨h1, h2, h3⟩ := set_fold (fun i => k.blk.getD i 0) (fun i => ((k.blk.getD ((nearM (semiM T k) k.par).getD i 0) 0 : Nat) : Int)) (List.replicate T.length (-1)) 0 k.blk.length (fun i hi => by
    rw [List.length_replicate, hT]; exact (h.ok.b i _ (hb hi)).1) fun i j hi hj e => h.ok.inj (hb hi) (by rw [hb hj]; exact congrArg some e.symm)
  refine ⟨by unfold domsM; rw [h1, List.length_replicate, hT], fun i b hi => ?_, fun b hN hbm => ?_⟩
  · have := h2 i (List.getElem?_eq_some_iff.1 hi).1
    rw [getD_some hi] at this
    exact this
  · refine (h3 b fun i hi e => hbm (by rw [← e]; exact List.mem_of_getElem? (hb hi))).trans ?_
    rw [List.getD_eq_getElem?_getD, List.getElem?_replicate, if_pos (by rw [hT]; exact hN)]; rfl
end
end Go.Proofs.Ytjmlpbnejcfnhaa
