/-
  Layer dom: rows of ends of one's own; walk of endsOf.
-/
import Derived.Test.YtjmlpbnejcfnhaaDmf
namespace Go.Proofs.Ytjmlpbnejcfnhaa
open Go Go.RowKit Go.Maps
set_option linter.unusedVariables false
set_option linter.unusedSimpArgs false

def endC (e : Eb) : List Value := [.int .i64 e.k, .int .i64 e.a, .int .i64 e.to, .int .i64 e.el]
def endsC (l : List Eb) : List Value := l.flatMap endC
theorem endsC_len (l : List Eb) : (endsC l).length = l.length * 4 := by
  induction l with
  | nil => rfl
  | cons e l ih => rw [endsC, List.flatMap_cons, List.length_append, ← endsC, ih, List.length_cons]; simp [endC]; omega
theorem endsC_at (l : List Eb) (i j : Nat) (e : Eb) (h : l[i]? = some e) (hj : j < 4) : (endsC l)[i * 4 + j]? = (endC e)[j]? := by
  induction l generalizing i with
  | nil => simp at h
  | cons a l ih =>
    have ea : endsC (a :: l) = endC a ++ endsC l := by simp [endsC]
    rw [ea]
    cases i with
    | zero => simp at h; subst h; rw [Nat.zero_mul, Nat.zero_add, List.getElem?_append_left (by simp [endC]; omega)]
    | succ i =>
      simp at h
      rw [List.getElem?_append_right (by simp [endC]; omega), show (i + 1) * 4 + j - (endC a).length = i * 4 + j by simp [endC]; omega]
      exact ih i h
theorem endsC_set (l : List Eb) (i : Nat) (e : Eb) (hi : i < l.length) : ((((endsC l).set (i * 4) (.int .i64 e.k)).set (i * 4 + 1) (.int .i64 e.a)).set (i * 4 + 2) (.int .i64 e.to)).set (i * 4 + 3) (.int .i64 e.el) = endsC (l.set i e) := by
  induction l generalizing i with
  | nil => simp at hi
  | cons a l ih =>
    have ea : ∀ (a : Eb) (l : List Eb), endsC (a :: l) = .int .i64 a.k :: .int .i64 a.a :: .int .i64 a.to :: .int .i64 a.el :: endsC l := fun a l => by simp [endsC, endC]
    cases i with
    | zero => simp [ea]
    | succ i =>
      have h1 := ih i (by simpa using hi)
      rw [List.set_cons_succ, ea, ea, ← h1]
      have e2 : (i + 1) * 4 = i * 4 + 4 := by omega
      rw [e2]
      simp
/-- A row of ends of one's own. -/
def RwE (w : World) (b : Nat) (v : Value) (l : List Eb) : Prop := ∃ (cap : Nat) (ex : List Value), v = .slice (some ⟨b, 0, none⟩) l.length cap ∧ l.length * 4 + ex.length = cap * 4 ∧ cap ≤ maxLen ∧ Blk w b tEn' (endsC l ++ ex).toArray
section
variable {w w' : World} {b : Nat} {v : Value} {l : List Eb}
theorem RwE.lt (h : RwE w b v l) : b < w.heap.size := by obtain ⟨cap, ex, _, _, _, h⟩ := h; exact h.lt
theorem RwE.sl (h : RwE w b v l) : ∃ cap, v = .slice (some ⟨b, 0, none⟩) l.length cap ∧ l.length ≤ cap ∧ cap ≤ maxLen := by obtain ⟨cap, ex, h1, h2, h3, _⟩ := h; exact ⟨cap, h1, by omega, h3⟩
theorem RwE.cell (h : RwE w b v l) {i : Nat} {e : Eb} (hi : l[i]? = some e) (j : Nat) (hj : j < 4) : w.cell? ⟨b, i * 4 + j, none⟩ = (endC e)[j]? := by
  obtain ⟨cap, ex, _, _, _, h⟩ := h
  rw [h.cell]
  have hl := (List.getElem?_eq_some_iff.1 hi).1
  rw [List.getElem?_toArray, List.getElem?_append_left (by rw [endsC_len]; omega), endsC_at l i j e hi hj]
theorem RwE.cells (h : RwE w b v l) {i : Nat} {e : Eb} (hi : l[i]? = some e) : w.cell? ⟨b, i * 4, none⟩ = some (.int .i64 e.k) ∧ w.cell? ⟨b, i * 4 + 1, none⟩ = some (.int .i64 e.a) ∧ w.cell? ⟨b, i * 4 + 2, none⟩ = some (.int .i64 e.to) ∧ w.cell? ⟨b, i * 4 + 3, none⟩ = some (.int .i64 e.el) :=
  ⟨h.cell hi 0 (by omega), h.cell hi 1 (by omega), h.cell hi 2 (by omega), h.cell hi 3 (by omega)⟩
theorem RwE.frozen (h : RwE w b v l) (i : Nat) : w.frozen? ⟨b, i, none⟩ = false := by obtain ⟨cap, ex, _, _, _, h⟩ := h; exact h.frozen i
theorem RwE.keep (h : RwE w b v l) (k : w'.heap[b]? = w.heap[b]?) : RwE w' b v l := by obtain ⟨cap, ex, h1, h2, h3, h⟩ := h; exact ⟨cap, ex, h1, h2, h3, k.trans h⟩
theorem RwE.below {B : Nat} (h : RwE w b v l) (hb : Below B w w') (hl : b < B) : RwE w' b v l := h.keep (hb.block b hl)
theorem RwE.on (h : RwE w b v l) (hb : Below w.heap.size w w') : RwE w' b v l := h.below hb h.lt
theorem RwE.set (h : RwE w b v l) {i : Nat} (hi : i < l.length) (e : Eb) : RwE ((((w.setCell ⟨b, i * 4, none⟩ (.int .i64 e.k)).setCell ⟨b, i * 4 + 1, none⟩ (.int .i64 e.a)).setCell ⟨b, i * 4 + 2, none⟩ (.int .i64 e.to)).setCell ⟨b, i * 4 + 3, none⟩ (.int .i64 e.el)) b v (l.set i e) := by
  obtain ⟨cap, ex, h1, h2, h3, h⟩ := h
  refine ⟨cap, ex, by rw [List.length_set]; exact h1, by rw [List.length_set]; exact h2, h3, ?_⟩
  have := (((h.set_ (i * 4) (.int .i64 e.k)).set_ (i * 4 + 1) (.int .i64 e.a)).set_ (i * 4 + 2) (.int .i64 e.to)).set_ (i * 4 + 3) (.int .i64 e.el)
  simp only [List.setIfInBounds_toArray] at this
  rw [← endsC_set l i e hi]
  have hl := endsC_len l
  rw [← List.set_append_left _ _ (by (try simp only [List.length_set]); omega), ← List.set_append_left _ _ (by (try simp only [List.length_set]); omega), ← List.set_append_left _ _ (by (try simp only [List.length_set]); omega), ← List.set_append_left _ _ (by (try simp only [List.length_set]); omega)]
  exact this
end
abbrev tBl' : TypeId := 46
def eb0 : Eb := ⟨0, 0, 0, 0⟩
theorem endInfo : (Try.prog.info? tEn').map (fun i => (i.zero, i.size, i.bytes)) = some (some (.agg #[.int .i64 0, .int .i64 0, .int .i64 0, .int .i64 0]), 4, 32) := by kernel_rfl
theorem made_ends (n : Nat) : madeCells (Value.agg #[.int .i64 0, .int .i64 0, .int .i64 0, .int .i64 0]).cells (n * 4) = (endsC (List.replicate n eb0)).toArray := by
  apply Array.ext'
  apply List.ext_getElem?
  intro j
  have hl := endsC_len (List.replicate n eb0)
  rw [List.length_replicate] at hl
  by_cases hj : j < n * 4
  · have h1 : (List.replicate n eb0)[j / 4]? = some eb0 := by rw [List.getElem?_replicate, if_pos (by omega)]
    have h2 := endsC_at _ (j / 4) (j % 4) eb0 h1 (by omega)
    rw [show j / 4 * 4 + j % 4 = j by omega] at h2
    have h3 : j % 4 = 0 ∨ j % 4 = 1 ∨ j % 4 = 2 ∨ j % 4 = 3 := by omega
    show _ = (endsC (List.replicate n eb0))[j]?
    rw [h2]
    have hz : (Value.agg #[.int .i64 0, .int .i64 0, .int .i64 0, .int .i64 0]).cells = #[.int .i64 0, .int .i64 0, .int .i64 0, .int .i64 0] := by kernel_rfl
    rcases h3 with h3 | h3 | h3 | h3 <;> (simp [madeCells, hz, h3, hj, endC, eb0])
  · show _ = (endsC (List.replicate n eb0))[j]?
    rw [List.getElem?_eq_none (l := endsC _) (by omega)]
    simp [madeCells, hj]
end Go.Proofs.Ytjmlpbnejcfnhaa
