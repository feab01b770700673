/-
  Layer dom: walk of Split where no block has instructions.
-/
import Derived.Test.YtjmlpbnejcfnhaaDmy
namespace Go.Proofs.Ytjmlpbnejcfnhaa
open Go Go.RowKit Go.Maps
set_option linter.unusedVariables false
set_option linter.unusedSimpArgs false

theorem rwE_own {w : World} {base : Nat} {v : Value} {l : List Eb} (h : w.ownsRow base tEn' 4 v l.length (endsC l)) (h0 : 0 < l.length) : ∃ b, base ≤ b ∧ RwE w b v l := by
  rcases h.2 with ⟨rfl, hn⟩ | ⟨g, cap, cur, rfl, hb, hg, hnc, hcm, hsz, hcur⟩
  · omega
  · refine ⟨g, hb, cap, cur.toList.drop (l.length * 4), rfl, ?_, hcm, ?_⟩
    · have e1 : cur.toList.length = cur.size := Array.length_toList
      rw [List.length_drop, e1]; omega
    · rw [← hcur, List.take_append_drop]
      exact hg
theorem own_rwE {w : World} {base b : Nat} {v : Value} {l : List Eb} (h : RwE w b v l) (hb : base ≤ b) : w.ownsRow base tEn' 4 v l.length (endsC l) := by
  obtain ⟨cap, ex, rfl, h2, h3, h4⟩ := h
  have h5 := endsC_len l
  refine ⟨h5, .inr ⟨b, cap, _, rfl, hb, h4, by omega, h3, by simp [h5]; omega, ?_⟩⟩
  show (endsC l ++ ex).take _ = _
  exact List.take_left' h5
theorem own_int {w : World} {b n base : Nat} {l : List Nat} (h : Blk w b tI1 (intC (nz l))) (hl : l.length = n) (hn : n ≤ 1000) (hb : base ≤ b) : w.ownsRow base tI1 1 (.slice (some ⟨b, 0, none⟩) n n) n (ints l) := by
  have h5 : (nz l).length = n := by simp only [nz, List.length_map]; exact hl
  refine ⟨by simp [ints, h5], .inr ⟨b, n, _, rfl, hb, h, Nat.le_refl _, by unfold maxLen; omega, by simp [intC, h5], ?_⟩⟩
  show ((nz l).map (Value.int .i64)).take (n * 1) = _
  exact List.take_of_length_le (by simp [h5])
theorem endsC_snoc (es : List Eb) (e : Eb) : endsC (es ++ [e]) = endsC es ++ [.int .i64 e.k, .int .i64 e.a, .int .i64 e.to, .int .i64 e.el] := by simp [endsC, endC]
theorem results_cr {fn : Func} {p q : Tmp} {ty : TypeId} (h : fn.results = #[.cell p ty, .tmp q]) (tmps : Array Value) (P : Program) (w : World) (g : Nat) (cs : List Value) (d : TypeDesc)
    (hp : tmps.getD p undef = .pointer (some ⟨g, 0, none⟩)) (hc : w.rangeAt g 0 cs) (hu : P.underlying ty = some d) (hd : d.isRow = true) (hi : (P.info? ty).map (·.size) = some cs.length) :
    (results fn tmps).run P w = .ok (.tuple #[.agg cs.toArray, tmps.getD q undef]) w := by
  simp only [results, h]
  simp [Sem.run_bind, Result.andThen]
  rw [show tmps[p]?.getD undef = .pointer (some ⟨g, 0, none⟩) from by simpa using hp]
  simp [asAddr, run_loadVar_mid w g 0 ty cs d hc hu hd hi]
/-! what a split keeps -/
theorem redir_w {e : Eb} (h : e.w) {a b : Int} (hb : iw b) : (redir e a b).w := by
  refine ⟨h.k, h.a, ?_, ?_⟩
  · show iw (if e.to = a then b else e.to); split; exact hb; exact h.to
  · show iw (if e.el = a then b else e.el); split; exact hb; exact h.el
theorem redir_tos {e : Eb} {a b : Int} {n : Int} (h : ∀ t ∈ tosM e, 0 ≤ t ∧ t < n) (h0 : 0 ≤ b) (hn : b ≤ n) : ∀ t ∈ tosM (redir e a b), 0 ≤ t ∧ t < n + 1 := by
  intro t ht
  have key : ∀ x, x ∈ tosM e → 0 ≤ (if x = a then b else x) ∧ (if x = a then b else x) < n + 1 := fun x hx => by
    have := h x hx
    split <;> omega
  unfold tosM redir at ht
  simp only at ht
  unfold tosM at key
  by_cases k1 : e.k = 1
  · rw [if_pos k1] at ht key
    rw [List.mem_singleton.1 ht]
    exact key _ (.head _)
  · by_cases k2 : e.k = 2
    · rw [if_neg k1, if_pos k2] at ht key
      by_cases k3 : e.to = e.el
      · rw [if_pos k3] at key
        rw [k3] at ht key
        rw [if_pos rfl, List.mem_singleton] at ht
        rw [ht]
        exact key e.el (List.mem_singleton.2 rfl)
      · rw [if_neg k3] at key
        have kx := key e.to (.head _)
        have ky := key e.el (.tail _ (.head _))
        generalize (if e.to = a then b else e.to) = x at ht kx
        generalize (if e.el = a then b else e.el) = y at ht ky
        split at ht
        · rw [List.mem_singleton.1 ht]; exact kx
        · rcases List.mem_cons.1 ht with ht | ht
          · rw [ht]; exact kx
          · rw [List.mem_singleton.1 ht]; exact ky
    · rw [if_neg k1, if_neg k2] at ht
      cases ht
theorem endsOk_split {es : List Eb} {a b : Nat} (h : endsOk es = true) (ha : a < es.length) (hb : b < es.length) :
    endsOk (es.set a (redir (es.getD a default) b es.length) ++ [(es.set a (redir (es.getD a default) b es.length)).getD b default]) = true := by
  have hall : ∀ e ∈ es, ∀ t ∈ tosM e, 0 ≤ t ∧ t < (es.length : Int) := by
    intro e he t ht
    unfold endsOk at h
    rw [List.all_eq_true] at h
    have h2 := h e he
    rw [List.all_eq_true] at h2
    simpa using h2 t ht
  have hset : ∀ e ∈ es.set a (redir (es.getD a default) b es.length), ∀ t ∈ tosM e, 0 ≤ t ∧ t < (es.length : Int) + 1 := by
    intro e he t ht
    rcases List.mem_or_eq_of_mem_set he with he | rfl
    · have := hall e he t ht; omega
    · refine redir_tos (hall _ ?_) (by omega) (Int.le_refl _) t ht
      rw [List.getD_eq_getElem?_getD, List.getElem?_eq_getElem ha]
      exact List.getElem_mem ha
  unfold endsOk
  rw [List.all_eq_true]
  intro e he
  rw [List.all_eq_true]
  intro t ht
  have hlen : ((es.set a (redir (es.getD a default) b es.length) ++ [(es.set a (redir (es.getD a default) b es.length)).getD b default]).length : Int) = es.length + 1 := by simp
  rw [hlen]
  have : 0 ≤ t ∧ t < (es.length : Int) + 1 := by
    rcases List.mem_append.1 he with he | he
    · exact hset e he t ht
    · simp only [List.mem_singleton] at he
      subst he
      have hbl : b < (es.set a (redir (es.getD a default) b es.length)).length := by rw [List.length_set]; exact hb
      refine hset _ ?_ t ht
      rw [List.getD_eq_getElem?_getD (l := es.set a _), List.getElem?_eq_getElem hbl]
      exact List.getElem_mem hbl
  simpa using this
end Go.Proofs.Ytjmlpbnejcfnhaa
