/-
  Layer dom: a visit in memory.
-/
import Derived.Test.YtjmlpbnejcfnhaaDmh
import Derived.Test.YtjmlpbnejcfnhaaRg
namespace Go.Proofs.Ytjmlpbnejcfnhaa
open Go Go.RowKit Go.Maps
set_option linter.unusedVariables false
set_option linter.unusedSimpArgs false

/-! three rows that grow, apart from one another -/
theorem row_other {w w' : World} {base n : Nat} {p : Value} {xs : List Value} {r : Option Nat} (hp : w.ownsRow base tI1 1 p n xs) (hg : w.grownBy w' r) (hne : ∀ i, r = some i → p.ownBlock ≠ some i) : w'.ownsRow base tI1 1 p n xs := by
  refine rowKeep hp fun i hi => hg.block i ?_ (fun e => hne i e.symm hi)
  rcases hp.2 with ⟨rfl, _⟩ | ⟨g, cap, cur, rfl, _, hh, _⟩
  · cases hi
  · cases hi
    exact (Array.getElem?_eq_some_iff.1 hh).1
theorem own_lt {w : World} {base n : Nat} {p : Value} {xs : List Value} (hp : w.ownsRow base tI1 1 p n xs) {i : Nat} (hi : p.ownBlock = some i) : i < w.heap.size ∧ base ≤ i := by
  rcases hp.2 with ⟨rfl, _⟩ | ⟨g, cap, cur, rfl, hb, hh, _⟩
  · cases hi
  · cases hi
    exact ⟨(Array.getElem?_eq_some_iff.1 hh).1, hb⟩
theorem own_new {w : World} {base n g : Nat} {b p : Value} {xs : List Value} (hp : w.ownsRow base tI1 1 p n xs) (hbp : ∀ i, b.ownBlock = some i → p.ownBlock ≠ some i) (hat : b.ownBlock = some g ∨ g = w.heap.size) : p.ownBlock ≠ some g := by
  rcases hat with hat | rfl
  · exact hbp g hat
  · intro e; have := (own_lt hp e).1; omega
abbrev ints (l : List Nat) : List Value := (nz l).map (Value.int .i64)
theorem ints_snoc (l : List Nat) (x : Nat) : ints (l ++ [x]) = ints l ++ [.int .i64 (x : Int)] := by unfold ints nz; simp
structure Ro3 (w : World) (hi : Nat) (bv pv ov : Value) (bl pl ol : List Nat) : Prop where
  b : w.ownsRow hi tI1 1 bv bl.length (ints bl)
  p : w.ownsRow hi tI1 1 pv pl.length (ints pl)
  o : w.ownsRow hi tI1 1 ov ol.length (ints ol)
  bp : ∀ i, bv.ownBlock = some i → pv.ownBlock ≠ some i
  bo : ∀ i, bv.ownBlock = some i → ov.ownBlock ≠ some i
  po : ∀ i, pv.ownBlock = some i → ov.ownBlock ≠ some i
section
variable {w w' : World} {hi : Nat} {b p o : Value} {bl pl ol : List Nat}
theorem ne_symm {b p : Value} (h : ∀ i, b.ownBlock = some i → p.ownBlock ≠ some i) : ∀ i, p.ownBlock = some i → b.ownBlock ≠ some i := fun i h1 h2 => h i h2 h1
theorem Ro3.same (h : Ro3 w hi b p o bl pl ol) (k : ∀ i, hi ≤ i → i < w.heap.size → w'.heap[i]? = w.heap[i]?) : Ro3 w' hi b p o bl pl ol := by
  have e : ∀ {n : Nat} {v : Value} {xs : List Value}, w.ownsRow hi tI1 1 v n xs → w'.ownsRow hi tI1 1 v n xs := fun hp => rowKeep hp fun i h1 => k i (own_lt hp h1).2 (own_lt hp h1).1
  exact ⟨e h.b, e h.p, e h.o, h.bp, h.bo, h.po⟩
theorem Ro3.alloc (h : Ro3 w hi b p o bl pl ol) (x : Obj) : Ro3 (w.alloc x) hi b p o bl pl ol := h.same fun i _ hl => ((Below.refl w.heap.size w).alloc (Nat.le_refl _) x).block i hl
theorem Ro3.far (h : Ro3 w hi b p o bl pl ol) {q : Addr} (hq : q.block < hi) (u : Value) : Ro3 (w.setCell q u) hi b p o bl pl ol := h.same fun i h1 _ => Below.heap_setCell w q u i (by omega)
theorem Ro3.drewN (h : Ro3 w hi b p o bl pl ol) (d : Nat) : Ro3 (w.drewN d) hi b p o bl pl ol := h.same fun _ _ _ => rfl
theorem Ro3.appB (h : Ro3 w hi b p o bl pl ol) {x g cap n : Nat} (hn : n = bl.length) (hr : w'.ownsRow hi tI1 1 (.slice (some ⟨g, 0, none⟩) (n + 1) cap) (n + 1) (ints bl ++ [.int .i64 (x : Int)])) (hg : w.grownBy w' b.ownBlock) (hat : b.ownBlock = some g ∨ g = w.heap.size) :
    Ro3 w' hi (.slice (some ⟨g, 0, none⟩) (n + 1) cap) p o (bl ++ [x]) pl ol := by
  subst hn
  refine ⟨by rw [ints_snoc, List.length_append]; exact hr, row_other h.p hg h.bp, row_other h.o hg h.bo, fun i e => ?_, fun i e => ?_, h.po⟩
  · cases e; exact own_new h.p h.bp hat
  · cases e; exact own_new h.o h.bo hat
theorem Ro3.appP (h : Ro3 w hi b p o bl pl ol) {x g cap n : Nat} (hn : n = pl.length) (hr : w'.ownsRow hi tI1 1 (.slice (some ⟨g, 0, none⟩) (n + 1) cap) (n + 1) (ints pl ++ [.int .i64 (x : Int)])) (hg : w.grownBy w' p.ownBlock) (hat : p.ownBlock = some g ∨ g = w.heap.size) :
    Ro3 w' hi b (.slice (some ⟨g, 0, none⟩) (n + 1) cap) o bl (pl ++ [x]) ol := by
  subst hn
  refine ⟨row_other h.b hg (ne_symm h.bp), by rw [ints_snoc, List.length_append]; exact hr, row_other h.o hg h.po, fun i e e2 => ?_, h.bo, fun i e => ?_⟩
  · cases e2; exact own_new h.b (ne_symm h.bp) hat e
  · cases e; exact own_new h.o h.po hat
theorem Ro3.appO (h : Ro3 w hi b p o bl pl ol) {x g cap n : Nat} (hn : n = ol.length) (hr : w'.ownsRow hi tI1 1 (.slice (some ⟨g, 0, none⟩) (n + 1) cap) (n + 1) (ints ol ++ [.int .i64 (x : Int)])) (hg : w.grownBy w' o.ownBlock) (hat : o.ownBlock = some g ∨ g = w.heap.size) :
    Ro3 w' hi b p (.slice (some ⟨g, 0, none⟩) (n + 1) cap) bl pl (ol ++ [x]) := by
  subst hn
  refine ⟨row_other h.b hg (ne_symm h.bo), row_other h.p hg (ne_symm h.po), by rw [ints_snoc, List.length_append]; exact hr, h.bp, fun i e e2 => ?_, fun i e e2 => ?_⟩
  · cases e2; exact own_new h.b (ne_symm h.bo) hat e
  · cases e2; exact own_new h.p (ne_symm h.po) hat e
end
abbrev tWk : TypeId := 63
abbrev tVi : TypeId := 92
/-- Where a visit lies: the rows of successors, the numbers' block, the walk's box, the closure's box; T. -/
structure VX where
  lo : Nat
  hi : Nat
  tb : Nat
  nb : Nat
  wb : Nat
  vb : Nat
  vals : List Value
  T : List (List Nat)
structure VX.ok (X : VX) : Prop where
  tb : X.tb < X.lo
  nb : X.nb < X.lo
  wb : X.wb < X.lo
  lh : X.lo ≤ X.hi
  vb : X.vb = X.hi
  ne : X.tb ≠ X.nb ∧ X.tb ≠ X.wb ∧ X.nb ≠ X.wb
/-- The visit in memory. -/
structure WkV (X : VX) (w : World) (k : Wk) : Prop where
  x : ∃ nv bv pv ov, Blk w X.wb tWk #[.slice (some ⟨X.tb, 0, none⟩) X.T.length X.T.length, nv, bv, pv, ov] ∧ RwI w X.nb nv k.num ∧ Ro3 w X.hi bv pv ov k.blk k.par k.ord
  t : TosV w X.lo X.hi X.tb X.vals X.T
  v : Blk w X.vb tVi #[.func (.func 47) #[] #[.pointer (some ⟨X.wb, 0, none⟩), .pointer (some ⟨X.vb, 0, none⟩)]]
/-- What a visit leaves: below hi all but the numbers and the walk's box. -/
abbrev VX.Fr (X : VX) (w w' : World) : Prop := Go.Proofs.Ytjmlpbnejcfnhaa.Fr X.hi (fun k => k = X.nb ∨ k = X.wb) w w'
end Go.Proofs.Ytjmlpbnejcfnhaa
