/-
  Layer dom: rows of bools.
-/
import Derived.Test.YtjmlpbnejcfnhaaDmt
import Derived.Test.YtjmlpbnejcfnhaaDne
namespace Go.Proofs.Ytjmlpbnejcfnhaa
open Go Go.RowKit Go.Maps
set_option linter.unusedVariables false
set_option linter.unusedSimpArgs false

abbrev tBo : TypeId := 4
def blC (l : List Bool) : Array Value := (l.map Value.bool).toArray
theorem made_bools (n : Nat) : madeCells (Value.bool false).cells (n * 1) = blC (List.replicate n false) := by
  apply Array.ext_getElem?
  intro j
  by_cases hj : j < n
  · simp [madeCells, Value.cells, Nat.mod_one, List.getElem?_replicate, hj, blC]
  · simp [madeCells, Value.cells, Nat.mod_one, List.getElem?_replicate, hj, blC]
theorem boolInfo : (Try.prog.info? tBo).map (fun i => (i.zero, i.size, i.bytes)) = some (some (.bool false), 1, 1) := by kernel_rfl
theorem make_bools (n : Nat) (hn : n ≤ 1000) (W : World) : (Instr.makeSlice 57 (.int .i64 n) (.int .i64 n)).run Try.prog W = .ok (.slice (some ⟨W.heap.size, 0, none⟩) n n) (W.alloc (.cells (blC (List.replicate n false)) tBo)) := by
  obtain ⟨ib, hib, hbz0, hbz1, hbz2⟩ := info_parts boolInfo
  have hb : (ib.bytes : Int) * (n : Int) ≤ 281474976710656 := by rw [hbz2]; omega
  have hr := run_make (P := Try.prog) W 57 tBo ib (.bool false) Try.underlying57 hib hbz0 .i64 .i64 n n (by omega) (Int.le_refl _) hb (by omega)
  simp only [Int.toNat_natCast, hbz1, made_bools] at hr
  exact hr
theorem Blk.bl {w : World} {g : Nat} {s : List Bool} (h : Blk w g tBo (blC s)) {i : Nat} {x : Bool} (hi : s[i]? = some x) : w.cell? ⟨g, i, none⟩ = some (.bool x) := by
  rw [h.cell]
  unfold blC
  rw [List.getElem?_toArray, List.getElem?_map, hi]
  rfl
theorem Blk.bl_set {w : World} {g : Nat} {s : List Bool} (h : Blk w g tBo (blC s)) (i : Nat) (x : Bool) : Blk (w.setCell ⟨g, i, none⟩ (.bool x)) g tBo (blC (s.set i x)) := by
  have h9 := h.set_ i (.bool x)
  unfold blC at h9 ⊢
  rw [List.setIfInBounds_toArray, ← List.map_set] at h9
  exact h9
end Go.Proofs.Ytjmlpbnejcfnhaa
