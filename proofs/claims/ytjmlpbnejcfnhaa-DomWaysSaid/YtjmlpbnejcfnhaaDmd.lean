/-
  Layer dom: walks of Tos, isBack.
-/
import Derived.Test.YtjmlpbnejcfnhaaDmc
namespace Go.Proofs.Ytjmlpbnejcfnhaa
open Go Go.RowKit Go.Maps
set_option linter.unusedVariables false
set_option linter.unusedSimpArgs false

abbrev tEn' : TypeId := 37
/-- A row that lies alone in a new block. -/
theorem rdI_new {w w' : World} {g : Nat} {l : List Int} {cs : Array Value} (h : Blk w' g tI1 cs) (hcs : ∀ (i : Nat) (x : Int), l[i]? = some x → cs[i]? = some (.int .i64 x)) (hm : l.length ≤ maxLen) (hg : w.heap.size ≤ g) : RdI w' w.heap.size w'.heap.size (.slice (some ⟨g, 0, none⟩) l.length l.length) l :=
  ⟨_, _, rfl, Nat.le_refl _, hm, .inr ⟨g, 0, rfl, hg, h.lt, fun i x hi => by rw [Nat.zero_add, h.cell]; exact hcs i x hi⟩⟩
theorem rdI_nil (w : World) (lo hi : Nat) : RdI w lo hi (.slice none 0 0) [] := ⟨none, 0, rfl, Nat.le_refl _, Nat.zero_le _, .inl rfl⟩
theorem size1 (w : World) (o : Obj) : (w.alloc o).heap.size = w.heap.size + 1 := by simp
theorem below2 (w : World) (o o' : Obj) : Below w.heap.size w ((w.alloc o).alloc o') := ((Below.refl _ _).alloc (Nat.le_refl _) _).alloc (by simp) _
theorem rdI_1 (w : World) (o : Obj) (a : Int) : RdI ((w.alloc o).alloc (.cells #[.int .i64 a] tI1)) w.heap.size ((w.alloc o).alloc (.cells #[.int .i64 a] tI1)).heap.size (.slice (some ⟨w.heap.size + 1, 0, none⟩) 1 1) [a] := by
  have h := Blk.new (w.alloc o) tI1 #[.int .i64 a]
  rw [size1] at h
  refine rdI_new (l := [a]) h (fun i x hi => ?_) (by unfold maxLen; simp) (by omega)
  match i, hi with
  | 0, hi => simp at hi; subst hi; rfl
theorem rdI_2 (w : World) (o : Obj) (a b : Int) : RdI ((w.alloc o).alloc (.cells #[.int .i64 a, .int .i64 b] tI1)) w.heap.size ((w.alloc o).alloc (.cells #[.int .i64 a, .int .i64 b] tI1)).heap.size (.slice (some ⟨w.heap.size + 1, 0, none⟩) 2 2) [a, b] := by
  have h := Blk.new (w.alloc o) tI1 #[.int .i64 a, .int .i64 b]
  rw [size1] at h
  refine rdI_new (l := [a, b]) h (fun i x hi => ?_) (by unfold maxLen; simp) (by omega)
  match i, hi with
  | 0, hi => simp at hi; subst hi; rfl
  | 1, hi => simp at hi; subst hi; rfl
set_option maxHeartbeats 1000000 in
theorem tos_any (e : Eb) (w : World) : Calls Try.prog 15 #[.agg (ebA e)] w fun r w' => ∃ v, r = .returned v ∧ RdI w' w.heap.size w'.heap.size v (tosM e) ∧ Below w.heap.size w w' := by
  obtain ⟨k, a, to, el⟩ := e
  unfold ebA
  simp only
  by_cases h1 : k = 1
  · subst h1
    have e0 : tosM ⟨1, a, to, el⟩ = [to] := by simp [tosM]
    rw [e0]
    clear e0
    go_enter Try.func15, Try.ntmps15
    go_wp2
    go_ret
    exact ⟨_, rfl, rdI_1 _ _ _, below2 _ _ _⟩
  · have d1 : (k == 1) = false := by simpa using h1
    by_cases h2 : k = 2
    · subst h2
      by_cases h3 : to = el
      · subst h3
        have e0 : tosM ⟨2, a, to, to⟩ = [to] := by simp [tosM]
        rw [e0]
        clear e0 h1
        go_enter Try.func15, Try.ntmps15
        go_wp2
        go_ret
        exact ⟨_, rfl, rdI_1 _ _ _, below2 _ _ _⟩
      · have e0 : tosM ⟨2, a, to, el⟩ = [to, el] := by simp [tosM, h3]
        have d3 : (to == el) = false := by simpa using h3
        rw [e0]
        clear e0 h1
        go_enter Try.func15, Try.ntmps15
        go_wp2
        go_ret
        exact ⟨_, rfl, rdI_2 _ _ _ _, below2 _ _ _⟩
    · have d2 : (k == 2) = false := by simpa using h2
      have e0 : tosM ⟨k, a, to, el⟩ = [] := by simp [tosM, h1, h2]
      rw [e0]
      clear e0
      go_enter Try.func15, Try.ntmps15
      go_wp2
      go_ret
      exact ⟨_, rfl, rdI_nil _ _ _, (Below.refl _ _).alloc (Nat.le_refl _) _⟩
end Go.Proofs.Ytjmlpbnejcfnhaa
