/-
  Layer dom: frames that leave all but some blocks; rows of rows.
-/
import Derived.Test.YtjmlpbnejcfnhaaDma
import Derived.Test.YtjmlpbnejcfnhaaIo2
import Derived.Maps.AppendAt
namespace Go.Proofs.Ytjmlpbnejcfnhaa
open Go Go.RowKit Go.Maps
set_option linter.unusedVariables false
set_option linter.unusedSimpArgs false

/-- Below R nothing has changed, but in the blocks S. -/
structure Fr (R : Nat) (S : Nat → Prop) (w w' : World) : Prop where
  os : w'.os = w.os
  tape : w'.tape = w.tape
  output : w'.output = w.output
  size : w.heap.size ≤ w'.heap.size
  block : ∀ k, k < R → ¬ S k → w'.heap[k]? = w.heap[k]?
section
variable {R : Nat} {S : Nat → Prop} {w w' w2 : World}
theorem Fr.refl (w : World) : Fr R S w w := ⟨rfl, rfl, rfl, Nat.le_refl _, fun _ _ _ => rfl⟩
theorem Fr.trans (h : Fr R S w w') (k : Fr R S w' w2) : Fr R S w w2 := ⟨k.os.trans h.os, k.tape.trans h.tape, k.output.trans h.output, Nat.le_trans h.size k.size, fun i hi hs => (k.block i hi hs).trans (h.block i hi hs)⟩
theorem Fr.of {B : Nat} (h : Below B w w') (hR : R ≤ B) : Fr R S w w' := ⟨h.os, h.tape, h.output, h.size, fun k hk _ => h.block k (by omega)⟩
theorem Fr.set {p : Addr} {u : Value} (h : S p.block ∨ R ≤ p.block) : Fr R S w (w.setCell p u) := ⟨rfl, rfl, rfl, by simp [World.setCell], fun k hk hs => Below.heap_setCell w p u k (by rintro rfl; rcases h with h | h; exact hs h; omega)⟩
theorem Fr.alloc {o : Obj} (h : R ≤ w.heap.size) : Fr R S w (w.alloc o) := .of ((Below.refl w.heap.size w).alloc (Nat.le_refl _) o) h
theorem Fr.drewN (d : Nat) : Fr R S w (w.drewN d) := ⟨rfl, rfl, rfl, Nat.le_refl _, fun _ _ _ => rfl⟩
theorem Fr.grown {row : Option Nat} (h : w.grownBy w' row) (hR : R ≤ w.heap.size) (hr : ∀ k, row = some k → S k ∨ R ≤ k) : Fr R S w w' :=
  ⟨h.os, h.tape, h.output, h.size, fun k hk hs => h.block k (by omega) (fun e => by rcases hr k e.symm with h | h; exact hs h; omega)⟩
theorem Fr.below {B : Nat} (h : Fr R S w w') (hB : B ≤ R) (hs : ∀ k, S k → B ≤ k) : Below B w w' := ⟨h.os, h.tape, h.output, h.size, fun k hk => h.block k (by omega) fun hk2 => by have := hs k hk2; omega⟩
theorem Fr.less {R' : Nat} {S' : Nat → Prop} (h : Fr R S w w') (hR : R' ≤ R) (hs : ∀ k, k < R' → S k → S' k) : Fr R' S' w w' := ⟨h.os, h.tape, h.output, h.size, fun k hk hk2 => h.block k (by omega) fun h => hk2 (hs k hk h)⟩
theorem RwI.fr {b : Nat} {v : Value} {l : List Int} (h : RwI w b v l) (hf : Fr R S w w') (hb : b < R) (hs : ¬ S b) : RwI w' b v l := h.keep (hf.block b hb hs)
theorem Blk.fr {b : Nat} {t : TypeId} {cs : Array Value} (h : Blk w b t cs) (hf : Fr R S w w') (hb : b < R) (hs : ¬ S b) : Blk w' b t cs := (hf.block b hb hs).trans h
end
/-- A row of numbers that is read, in the blocks from lo to hi. -/
def RdI (w : World) (lo hi : Nat) (v : Value) (l : List Int) : Prop := ∃ A c, v = .slice A l.length c ∧ l.length ≤ c ∧ c ≤ maxLen ∧ (l = [] ∨ ∃ g o, A = some ⟨g, o, none⟩ ∧ lo ≤ g ∧ g < hi ∧ ∀ (i : Nat) (x : Int), l[i]? = some x → w.cell? ⟨g, o + i, none⟩ = some (.int .i64 x))
theorem RdI.keep {w w' : World} {lo hi : Nat} {v : Value} {l : List Int} (h : RdI w lo hi v l) (k : ∀ g, lo ≤ g → g < hi → w'.heap[g]? = w.heap[g]?) : RdI w' lo hi v l := by
  obtain ⟨A, c, h1, h2, h3, h4⟩ := h
  refine ⟨A, c, h1, h2, h3, h4.imp id ?_⟩
  rintro ⟨g, o, e, h5, h6, h7⟩
  refine ⟨g, o, e, h5, h6, fun i x hi => ?_⟩
  have := h7 i x hi
  unfold World.cell? at this ⊢
  rw [k g h5 h6]
  exact this
theorem RdI.fr {w w' : World} {lo hi R : Nat} {S : Nat → Prop} {v : Value} {l : List Int} (h : RdI w lo hi v l) (hf : Fr R S w w') (hR : hi ≤ R) (hs : ∀ k, S k → k < lo) : RdI w' lo hi v l :=
  h.keep fun g h1 h2 => hf.block g (by omega) fun h => by have := hs g h; omega
theorem RdI.more {w : World} {lo hi hi' : Nat} {v : Value} {l : List Int} (h : RdI w lo hi v l) (hh : hi ≤ hi') : RdI w lo hi' v l := by
  obtain ⟨A, c, h1, h2, h3, h4⟩ := h
  refine ⟨A, c, h1, h2, h3, h4.imp id ?_⟩
  rintro ⟨g, o, e, h5, h6, h7⟩
  exact ⟨g, o, e, h5, by omega, h7⟩
theorem RdI.at {w : World} {lo hi : Nat} {v : Value} {l : List Int} (h : RdI w lo hi v l) {k : Nat} {x : Int} (hk : l[k]? = some x) : ∃ g o c, v = .slice (some ⟨g, o, none⟩) l.length c ∧ lo ≤ g ∧ g < hi ∧ w.cell? ⟨g, o + k, none⟩ = some (.int .i64 x) := by
  obtain ⟨A, c, h1, h2, h3, h4⟩ := h
  rcases h4 with rfl | ⟨g, o, rfl, h5, h6, h7⟩
  · simp at hk
  · exact ⟨g, o, c, h1, h5, h6, h7 k x hk⟩
theorem RdI.sl {w : World} {lo hi : Nat} {v : Value} {l : List Int} (h : RdI w lo hi v l) : ∃ A c, v = .slice A l.length c ∧ l.length ≤ c ∧ c ≤ maxLen := by obtain ⟨A, c, h1, h2, h3, -⟩ := h; exact ⟨A, c, h1, h2, h3⟩
def nz (l : List Nat) : List Int := l.map fun (x : Nat) => (x : Int)
abbrev tIs : TypeId := 31
/-- Rows of successors: the outer row's block; each row in the blocks from lo to hi. -/
structure TosV (w : World) (lo hi tb : Nat) (vals : List Value) (T : List (List Nat)) : Prop where
  len : vals.length = T.length
  row : ∀ (a : Nat) (v : Value) (r : List Nat), vals[a]? = some v → T[a]? = some r → RdI w lo hi v (nz r)
  blk : Blk w tb tIs vals.toArray
theorem TosV.keep {w w' : World} {lo hi tb : Nat} {vals : List Value} {T : List (List Nat)} (h : TosV w lo hi tb vals T) (k : ∀ g, lo ≤ g → g < hi → w'.heap[g]? = w.heap[g]?) (kt : w'.heap[tb]? = w.heap[tb]?) : TosV w' lo hi tb vals T :=
  ⟨h.len, fun a v r h1 h2 => (h.row a v r h1 h2).keep k, kt.trans h.blk⟩
theorem TosV.fr {w w' : World} {lo hi tb R : Nat} {S : Nat → Prop} {vals : List Value} {T : List (List Nat)} (h : TosV w lo hi tb vals T) (hf : Fr R S w w') (hR : hi ≤ R) (hs : ∀ k, S k → k < lo) (ht : tb < R) (hts : ¬ S tb) : TosV w' lo hi tb vals T :=
  h.keep (fun g h1 h2 => hf.block g (by omega) fun h => by have := hs g h; omega) (hf.block tb ht hts)
theorem TosV.at {w : World} {lo hi tb : Nat} {vals : List Value} {T : List (List Nat)} (h : TosV w lo hi tb vals T) {a : Nat} (ha : a < T.length) : ∃ v, vals[a]? = some v ∧ w.cell? ⟨tb, a, none⟩ = some v ∧ RdI w lo hi v (nz (T.getD a [])) := by
  have hv : a < vals.length := by rw [h.len]; exact ha
  refine ⟨vals[a], List.getElem?_eq_getElem hv, ?_, ?_⟩
  · rw [h.blk.cell, List.getElem?_toArray, List.getElem?_eq_getElem hv]
  · rw [List.getD_eq_getElem?_getD, List.getElem?_eq_getElem ha]
    exact h.row a _ _ (List.getElem?_eq_getElem hv) (List.getElem?_eq_getElem ha)
end Go.Proofs.Ytjmlpbnejcfnhaa
