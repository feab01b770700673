/-
  Appending to a list of numbers of one's own: so many noughts; another list, empty or not.
-/
import Derived.Test.YtgcjfbgfoiekmaaIwk
import Derived.Lib.AppendZerosOnto
namespace Go.Proofs.Ytgcjfbgfoiekmaa
open Go Go.RowKit Go.Maps Go.Lib
set_option linter.unusedVariables false
set_option linter.unusedSimpArgs false

abbrev tIs : TypeId := 26
theorem tIs_u : Try.prog.underlying tIs = some (.slice tI1) := Try.underlying26
theorem tI1_u : Try.prog.underlying tI1 = some (.int .i64) := Try.underlying3
def noughts : List Value := List.replicate 9 (.int .i64 0)
theorem zero9 : Builtin.zeroCells (Value.int .i64 0).cells 9 = noughts.toArray := by
  apply Array.ext'
  simp [Builtin.zeroCells, Value.cells, noughts, Nat.mod_one, List.map_const, List.eq_replicate_iff]
  rfl
theorem run_zeros (w : World) (base : Nat) (ty : TypeId) (v : Value) (n : Nat) (xs : List Value) (hown : w.ownsRow base tI1 1 v n xs) (hn : n ≤ 1000000) (hbase : base ≤ w.heap.size) :
    ∃ g cap w', (Builtin.append_ #[tIs, tI1] ty #[v, .int .i64 9]).run Try.prog w = .ok (.slice (some ⟨g, 0, none⟩) (n + 9) cap) w' ∧ w'.ownsRow base tI1 1 (.slice (some ⟨g, 0, none⟩) (n + 9) cap) (n + 9) (xs ++ noughts) ∧ w.grownBy w' v.ownBlock := by
  obtain ⟨i0, hi, hz0, hz1, hz2⟩ := info_parts intInfo
  have hlen : (xs ++ noughts).length = (n + 9) * 1 := by rw [List.length_append, hown.1]; simp [noughts]
  have grown : ∀ (old : Nat), old < n + 9 → ∀ (row : Option Nat),
      (w.drew.alloc (.cells (xs.toArray ++ noughts.toArray ++ Builtin.zeroCells (Value.int .i64 0).cells (grownCap w (n + 9) old tI1 - (n + 9))) tI1)).ownsRow base tI1 1
        (.slice (some ⟨w.heap.size, 0, none⟩) (n + 9) (grownCap w (n + 9) old tI1)) (n + 9) (xs ++ noughts) ∧
      w.grownBy (w.drew.alloc (.cells (xs.toArray ++ noughts.toArray ++ Builtin.zeroCells (Value.int .i64 0).cells (grownCap w (n + 9) old tI1 - (n + 9))) tI1)) row := by
    intro old ho row
    have hge := grownCap_ge w (n + 9) old tI1
    have hcm : grownCap w (n + 9) old tI1 ≤ maxLen := grownCap_le_maxLen w (n + 9) old tI1 (by unfold maxLen; omega)
    refine ⟨⟨hlen, .inr ⟨w.heap.size, _, _, rfl, hbase, heap_alloc_new w.drew _, hge, hcm, ?_, ?_⟩⟩, ⟨rfl, rfl, rfl, by simp, fun k hk _ => heap_alloc_old w.drew _ hk⟩⟩
    · have h9 := hown.1
      simp only [Array.size_append, List.size_toArray, size_zeroCells, Value.cells]
      rw [show noughts.length = 9 from rfl]
      simp
      omega
    · simp only [Array.toList_append, List.append_assoc]
      rw [← List.append_assoc, ← hlen]
      exact List.take_left
  rcases hown.2 with ⟨rfl, rfl⟩ | ⟨g, cap, cur, rfl, hbg, hg, hnc, hcm, hcs, htake⟩
  · have hx : xs = [] := List.eq_nil_of_length_eq_zero (by simpa using hown.1)
    subst hx
    have hr := run_append_nil_zeros (P := Try.prog) w tIs tI1 ty tI1 i0 _ .i64 .i64 tIs_u tI1_u hi hz0 9 (by omega) (by omega) (by omega) (by omega)
    have hgr := grown 0 (by omega) (Value.ownBlock (.slice none 0 0))
    rw [zero9] at hr
    simp only [Nat.zero_add, List.nil_append, Array.empty_append] at hgr ⊢
    exact ⟨_, _, _, hr, by simpa using hgr.1, by simpa using hgr.2⟩
  · by_cases hroom : n + 9 ≤ cap
    · have hst := run_storeCells_at Try.prog g (n * 1) tI1 noughts 0 cur w hg (by rw [hcs]; simp [noughts]; omega) (by simp [noughts, Value.oneCell'])
      simp only [Nat.add_zero] at hst
      have hr : (Builtin.append_ #[tIs, tI1] ty #[.slice (some ⟨g, 0, none⟩) n cap, .int .i64 9]).run Try.prog w = .ok (.slice (some ⟨g, 0, none⟩) (n + 9) cap) (w.setRow g (cur.toList.take (n * 1) ++ noughts ++ cur.toList.drop (n * 1 + noughts.length)).toArray) := by
        have hw : IntKind.i64.wrap (9 : Int) = 9 := by rw [IntKind.wrap_i64]; omega
        simp [Builtin.append_, run_underlying tIs_u, run_underlying tI1_u, sizeOf, typeInfo, zeroValue, hi, hz0, hz1, hz2, asInt, asIntOf, hw, hroom, zero9, Addr.add_lit, Nat.mul_one]
        have hst' := hst
        simp only [Nat.mul_one] at hst'
        rw [hst']
        simp
      refine ⟨g, cap, _, hr, ⟨hlen, .inr ⟨g, cap, _, rfl, hbg, setRow_heap w g cur _ tI1 _ hg, hroom, hcm, ?_, ?_⟩⟩, ⟨rfl, rfl, rfl, by simp, fun k _ hk => setRow_other w g k _ (fun e => hk (by simp [Value.ownBlock, e]))⟩⟩
      · simp only [List.size_toArray, List.length_append, List.length_take, List.length_drop, Array.length_toList]
        rw [show noughts.length = 9 from rfl]
        omega
      · rw [htake, ← hlen]
        exact List.take_left
    · have holds : ∀ j u, xs[j]? = some u → w.cell? ((⟨g, 0, none⟩ : Addr).add j) = some u := hown.cells (g := g) rfl
      have hf : (Builtin.firstCells i0.size n (.slice (some ⟨g, 0, none⟩) n cap)).run Try.prog w.drew = .ok xs.toArray w.drew := by
        have h9 := run_firstCells_some (P := Try.prog) w.drew i0.size n ⟨g, 0, none⟩ n cap xs (by rw [hz1]; exact hown.1) holds
        exact h9
      have hr := run_append_grow_zeros (P := Try.prog) w tIs tI1 ty tI1 i0 _ .i64 .i64 tIs_u tI1_u hi hz0 (some ⟨g, 0, none⟩) n cap xs hf 9 (by omega) (by omega) (by omega) (by omega) (by omega) (by rw [hz2]; have := growslice_fits (need := n + 9) (old := cap) (bytes := 8) (by omega) (by omega); exact this)
      have hgr := grown cap (by omega) (Value.ownBlock (.slice (some ⟨g, 0, none⟩) n cap))
      rw [zero9] at hr
      exact ⟨_, _, _, hr, hgr.1, hgr.2⟩
theorem ownsRow_form {w : World} {base : Nat} {v : Value} {n : Nat} {xs : List Value} (h : w.ownsRow base tI1 1 v n xs) : ∃ A c, v = .slice A n c := by
  rcases h.2 with ⟨rfl, rfl⟩ | ⟨g, cap, cur, rfl, _⟩
  · exact ⟨none, 0, rfl⟩
  · exact ⟨_, _, rfl⟩
theorem run_other (w : World) (base B : Nat) (ty : TypeId) (v va : Value) (n : Nat) (xs : List Value) (l : List Int) (hown : w.ownsRow base tI1 1 v n xs) (hn : n ≤ 1000000) (hbase : base ≤ w.heap.size) (hr : RdV w B va l) (hl : l.length ≤ 1000000) :
    ∃ A cap w', (Builtin.append_ #[tIs, tIs] ty #[v, va]).run Try.prog w = .ok (.slice A (n + l.length) cap) w' ∧ w'.ownsRow base tI1 1 (.slice A (n + l.length) cap) (n + l.length) (xs ++ l.map (Value.int .i64)) ∧ w.grownBy w' v.ownBlock := by
  obtain ⟨i0, hi, hz0, hz1, hz2⟩ := info_parts intInfo
  obtain ⟨A, c, rfl, hlc, hcm, hA, hx⟩ := hr
  have key : ∀ (a : Addr), A = some a → (∀ j u, (l.map (Value.int .i64))[j]? = some u → w.cell? (a.add j) = some u) → ∃ A' cap w', (Builtin.append_ #[tIs, tIs] ty #[v, .slice A l.length c]).run Try.prog w = .ok (.slice A' (n + l.length) cap) w' ∧ w'.ownsRow base tI1 1 (.slice A' (n + l.length) cap) (n + l.length) (xs ++ l.map (Value.int .i64)) ∧ w.grownBy w' v.ownBlock := by
    rintro a rfl hnews
    obtain ⟨v', w', h1, h2, h3, -⟩ := run_append_own (P := Try.prog) w base tIs ty tI1 i0 _ 1 8 tIs_u hi hz0 hz1 hz2 rfl (by omega) v n xs hown a l.length c (l.map (Value.int .i64)) (by simp) hnews (by simp [Value.oneCell']) (by unfold maxLen; omega) (by omega) hbase
    obtain ⟨A', c', rfl⟩ := ownsRow_form h2
    exact ⟨A', c', w', h1, h2, h3⟩
  rcases A with _ | a
  · have hc0 := hA rfl
    subst hc0
    have hl0 : l = [] := List.eq_nil_of_length_eq_zero (by omega)
    subst hl0
    obtain ⟨A', c', rfl⟩ := ownsRow_form hown
    refine ⟨A', c', w, ?_, by simpa using hown, ⟨rfl, rfl, rfl, Nat.le_refl _, fun _ _ _ => rfl⟩⟩
    have hle : n ≤ c' := by
      rcases hown.2 with ⟨e, rfl⟩ | ⟨g, cap, cur, e, _, _, h, _⟩
      · omega
      · cases e; exact h
    cases A' <;> simp [Builtin.append_, run_underlying tIs_u, run_underlying tI1_u, sizeOf, typeInfo, hi, Builtin.lenOf, Builtin.firstCells, loadCells, loadCellsFrom, hle, storeCells]
  · rcases hx with rfl | ⟨g, o, e, hg, hx⟩
    · exact key a rfl (by simp)
    · cases e
      refine key _ rfl fun j u hj => ?_
      rw [List.getElem?_map] at hj
      cases hlj : l[j]? with
      | none => rw [hlj] at hj; cases hj
      | some y =>
        rw [hlj] at hj
        simp at hj
        subst hj
        have := hx j y hlj
        rw [Addr.add_mid]
        simpa using this
/-- AT A STEP OF A REGION THAT DRAWS ITS ORDER: an append whose run is known. -/
theorem step_append_run {ops : Array Oper} {o : Oper} {a : Act} {w : World} {K : Act → World → Prop} {Q : Exit → Act → World → Prop} {E : Prop} (hgd : o.guard = none) (s x : Operand) (t tn : TypeId)
    (ho : o.op = .call { callee := .builtin .append, args := #[s, x], argTypes := #[t, tn] }) (vs vx : Value) (hs : a.eval s = vs) (hx : a.eval x = vx)
    (v' : Value) (w' : World) (hr : (Builtin.append_ #[t, tn] o.type #[vs, vx]).run Try.prog w = .ok v' w') (h : K (a.put o.dst v') w') :
    if Region.wanted o (yielded ops a.tmps) = true then Oper.wp Try.prog o a w K Q else E := by
  have hw : Region.wanted o (yielded ops a.tmps) = true := by simp [Region.wanted, hgd]
  rw [if_pos hw]
  exact wp_append_run w s x t tn ho vs vx hs hx v' w' hr h
end Go.Proofs.Ytgcjfbgfoiekmaa
