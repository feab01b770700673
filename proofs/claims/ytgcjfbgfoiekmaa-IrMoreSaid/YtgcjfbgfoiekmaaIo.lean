/-
  Lists of numbers in memory: that are read, that are the call's own.
-/
import Derived.Test.YtgcjfbgfoiekmaaIva
import Derived.Laws.OwnMore
import Derived.OwnWalk
import Derived.OwnWalkIn
import Derived.WalkSpells
import Derived.WalkLawsBesides
import Derived.Deep.Draws
import Derived.Deep.QuietTactic
import Derived.BigQuiet
import Derived.Deep.AppendLies
import Derived.RangeFuncBox
namespace Go.Proofs.Ytgcjfbgfoiekmaa
open Go Go.RowKit Go.Maps
set_option linter.unusedVariables false
set_option linter.unusedSimpArgs false

abbrev tI1 : TypeId := 3
section
variable {w : World} {B : Nat} {v : Value}
theorem IsL.at {α : Type} {n : Nat} {l : List α} {p : α → (Nat → Option Value) → Prop} (h : IsL w B n v l p) {k : Nat} (hk : k < l.length) :
    ∃ g o c, v = .slice (some ⟨g, o, none⟩) l.length c ∧ g < B ∧ l.length ≤ c ∧ c ≤ maxLen ∧ p l[k] fun j => w.cell? ⟨g, o + k * n + j, none⟩ := by
  obtain ⟨A, c, h1, h2, h3, h4, h5⟩ := h
  rcases h5 with rfl | ⟨g, o, rfl, hg, hx⟩
  · simp at hk
  · exact ⟨g, o, c, h1, hg, h2, h3, hx k _ (List.getElem?_eq_getElem hk)⟩
theorem IsL.sl {α : Type} {n : Nat} {l : List α} {p : α → (Nat → Option Value) → Prop} (h : IsL w B n v l p) : ∃ A c, v = .slice A l.length c ∧ l.length ≤ c ∧ c ≤ maxLen ∧ (A = none → c = 0) := by
  obtain ⟨A, c, h1, h2, h3, h4, -⟩ := h
  exact ⟨A, c, h1, h2, h3, h4⟩
end
theorem Blk.on {w w' : World} {b : Nat} {t : TypeId} {cs : Array Value} (h : Blk w b t cs) (hb : Below w.heap.size w w') : Blk w' b t cs := (hb.block _ h.lt).trans h
theorem iw_iff {x : Int} : iw x ↔ -9223372036854775808 ≤ x ∧ x ≤ 9223372036854775807 := by
  unfold iw
  simp [Lit.wf, IntKind.min, IntKind.max, IntKind.signed, IntKind.bits]
def intC (l : List Int) : Array Value := (l.map (Value.int .i64)).toArray
theorem intInfo : (Try.prog.info? tI1).map (fun i => (i.zero, i.size, i.bytes)) = some (some (.int .i64 0), 1, 8) := by kernel_rfl
theorem made_int {w : World} {B g N : Nat} (h : w.ownsRow B tI1 1 (.slice (some ⟨g, 0, none⟩) N N) N (madeCells (Value.int .i64 0).cells (N * 1)).toList) : Blk w g tI1 (intC (List.replicate N 0)) := by
  have e0 : (madeCells (Value.int .i64 0).cells (N * 1)).toList = (List.replicate N (0 : Int)).map (Value.int .i64) := by
    apply List.ext_getElem?
    intro j
    by_cases hj : j < N
    · simp [madeCells, Value.cells, Nat.mod_one, List.getElem?_replicate, hj]
    · simp [madeCells, Value.cells, Nat.mod_one, List.getElem?_replicate, hj]
  rcases h.2 with ⟨hv, _⟩ | ⟨g', cap, cur, hv, _, hh, hnc, hcm, hsz, hcur⟩
  · cases hv
  · cases hv
    unfold Blk
    rw [hh]
    have e1 : cur = intC (List.replicate N 0) := by
      apply Array.ext'
      rw [e0, List.take_of_length_le (by rw [Array.length_toList]; omega)] at hcur
      rw [hcur]; simp [intC]
    rw [e1]
/-- A list of numbers that can be read, whatever they are. -/
def RdV (w : World) (B : Nat) (v : Value) (l : List Int) : Prop := IsL w B 1 v l fun x cell => cell 0 = some (.int .i64 x)
theorem IsI.rd {w : World} {B : Nat} {v : Value} {l : List Int} (h : IsI w B v l) : RdV w B v l := IsL.keep h (Below.refl _ _) fun x c c' k hp => (k 0 (some_ne hp.1)).trans hp.1
theorem RdV.below {w w' : World} {B : Nat} {v : Value} {l : List Int} (h : RdV w B v l) (hb : Below B w w') : RdV w' B v l := IsL.keep h hb fun x c c' k hp => (k 0 (some_ne hp)).trans hp
theorem RdV.more {w : World} {B B' : Nat} {v : Value} {l : List Int} (h : RdV w B v l) (hB : B ≤ B') : RdV w B' v l := IsL.more h hB fun _ _ h => h
theorem RdV.on {w w' : World} {v : Value} {l : List Int} (h : RdV w w.heap.size v l) (hb : Below w.heap.size w w') : RdV w' w'.heap.size v l := (h.below hb).more hb.size
theorem RdV.drewN {w : World} {B : Nat} {v : Value} {l : List Int} (h : RdV w B v l) (d : Nat) : RdV (w.drewN d) B v l := h
theorem rdV_row {w : World} {base : Nat} {v : Value} {l : List Int} (h : w.ownsRow base tI1 1 v l.length (l.map (Value.int .i64))) : RdV w w.heap.size v l := by
  obtain ⟨h0, ⟨rfl, hn⟩ | ⟨g, cap, cur, rfl, hb, hg, hnc, hcm, hsz, hcur⟩⟩ := h
  · obtain rfl := List.length_eq_zero_iff.1 hn
    exact ⟨none, 0, rfl, Nat.le_refl _, by simp, fun _ => rfl, .inl rfl⟩
  · refine ⟨_, cap, rfl, hnc, hcm, fun h => (by cases h), .inr ⟨g, 0, rfl, (Array.getElem?_eq_some_iff.1 hg).1, fun i x hi => ?_⟩⟩
    show w.cell? ⟨g, 0 + i * 1 + 0, none⟩ = _
    rw [cell_of_row w g _ cur tI1 (0, 0) hg]
    have hil : i < l.length := (List.getElem?_eq_some_iff.1 hi).1
    have e : (cur.toList.take (l.length * 1))[i]? = some (Value.int .i64 x) := by rw [hcur, List.getElem?_map, hi]; rfl
    rw [List.getElem?_take_of_lt (by omega), Array.getElem?_toList] at e
    rw [show 0 + i * 1 + 0 = i by omega]
    exact e
/-- The first ones of a list. -/
theorem RdV.take {w : World} {B : Nat} {A : Option Addr} {n c : Nat} {l : List Int} (h : RdV w B (.slice A n c) l) {k : Nat} (hk : k ≤ n) : RdV w B (.slice A k c) (l.take k) := by
  obtain ⟨A', c', e, h1, h2, h3, h4⟩ := h
  simp only [Value.slice.injEq] at e
  obtain ⟨rfl, rfl, rfl⟩ := e
  refine ⟨A, c, by rw [List.length_take, Nat.min_eq_left hk], by rw [List.length_take]; omega, h2, h3, ?_⟩
  rcases h4 with rfl | ⟨g, o, e, hg, hx⟩
  · exact .inl (by simp)
  · refine .inr ⟨g, o, e, hg, fun i x hi => hx i x ?_⟩
    have hik : i < k := by
      have := (List.getElem?_eq_some_iff.1 hi).1
      rw [List.length_take] at this
      omega
    rwa [List.getElem?_take_of_lt hik] at hi
theorem isI_row {w : World} {base : Nat} {v : Value} {l : List Int} (h : w.ownsRow base tI1 1 v l.length (l.map (Value.int .i64))) (hw : ∀ x ∈ l, iw x) : IsI w w.heap.size v l := by
  obtain ⟨A, c, e, h1, h2, h3, h4⟩ := rdV_row h
  refine ⟨A, c, e, h1, h2, h3, h4.imp id ?_⟩
  rintro ⟨g, o, e, hg, hx⟩
  exact ⟨g, o, e, hg, fun i x hi => ⟨hx i x hi, hw x (List.mem_of_getElem? hi)⟩⟩
theorem IsI.all {w : World} {B : Nat} {v : Value} {l : List Int} (h : IsI w B v l) : ∀ x ∈ l, iw x := by
  obtain ⟨A, c, e, h1, h2, h3, h4⟩ := h
  rcases h4 with rfl | ⟨g, o, e, hg, hx⟩
  · simp
  · intro x hx'
    obtain ⟨i, hi⟩ := List.getElem?_of_mem hx'
    exact (hx i x hi).2
/-- Where the numbers of a list lie. -/
theorem RdV.at {w : World} {B : Nat} {A : Option Addr} {n c : Nat} {l : List Int} (h : RdV w B (.slice A n c) l) {k : Nat} (hk : k < n) : ∃ g o x, A = some ⟨g, o, none⟩ ∧ g < B ∧ l[k]? = some x ∧ w.cell? ⟨g, o + k, none⟩ = some (.int .i64 x) := by
  obtain ⟨A', c', e, h1, h2, h3, h4⟩ := h
  simp only [Value.slice.injEq] at e
  obtain ⟨rfl, rfl, rfl⟩ := e
  rcases h4 with rfl | ⟨g, o, e, hg, hx⟩
  · simp at hk
  · refine ⟨g, o, l[k], e, hg, List.getElem?_eq_getElem hk, ?_⟩
    have := hx k _ (List.getElem?_eq_getElem hk)
    simpa using this

theorem intSize : (Try.prog.info? tI1).map (·.size) = some 1 := by kernel_rfl
theorem made_cells (n : Nat) : madeCells (Value.int .i64 0).cells (n * 1) = intC (List.replicate n 0) := by
  apply Array.ext'
  apply List.ext_getElem?
  intro j
  by_cases hj : j < n
  · simp [madeCells, Value.cells, Nat.mod_one, List.getElem?_replicate, hj, intC]
  · simp [madeCells, Value.cells, Nat.mod_one, List.getElem?_replicate, hj, intC]
theorem make_all (n : Nat) (hn : n ≤ 1000) (W : World) : (Instr.makeSlice 26 (.int .i64 n) (.int .i64 n)).run Try.prog W = .ok (.slice (some ⟨W.heap.size, 0, none⟩) n n) (W.alloc (.cells (intC (List.replicate n 0)) tI1)) := by
  obtain ⟨ib, hib, hbz0, hbz1, hbz2⟩ := info_parts intInfo
  have hb : (ib.bytes : Int) * (n : Int) ≤ 281474976710656 := by rw [hbz2]; omega
  have hr := run_make (P := Try.prog) W 26 tI1 ib (.int .i64 0) Try.underlying26 hib hbz0 .i64 .i64 n n (by omega) (Int.le_refl _) hb (by omega)
  simp only [Int.toNat_natCast, hbz1, made_cells] at hr
  exact hr
def codA (c : Cod) (rv bv : Value) : Array Value := #[.string (str c.nm), .int .i64 c.ty, .int .i64 c.pr, rv, bv]
def ebA (e : Eb) : Array Value := #[.int .i64 e.k, .int .i64 e.a, .int .i64 e.to, .int .i64 e.el]
theorem rowKeep {w w' : World} {base size n : Nat} {t : TypeId} {v : Value} {xs : List Value} (h : w.ownsRow base t size v n xs) (hk : ∀ i, v.ownBlock = some i → w'.heap[i]? = w.heap[i]?) : w'.ownsRow base t size v n xs := by
  obtain ⟨h1, h2⟩ := h
  refine ⟨h1, ?_⟩
  rcases h2 with h2 | ⟨g, cap, cur, hv, hb, hh, r⟩
  · exact .inl h2
  · exact .inr ⟨g, cap, cur, hv, hb, by rw [hk g (by rw [hv]; rfl)]; exact hh, r⟩
/-- A row of numbers of one's own, with room behind it. -/
def RwI (w : World) (b : Nat) (v : Value) (l : List Int) : Prop := ∃ (cap : Nat) (ex : List Value), v = .slice (some ⟨b, 0, none⟩) l.length cap ∧ l.length ≤ cap ∧ cap ≤ maxLen ∧ Blk w b tI1 (l.map (Value.int .i64) ++ ex).toArray
section
variable {w w' : World} {b : Nat} {v : Value} {l : List Int}
theorem RwI.lt (h : RwI w b v l) : b < w.heap.size := by obtain ⟨cap, ex, _, _, _, h⟩ := h; exact h.lt
theorem RwI.sl (h : RwI w b v l) : ∃ cap, v = .slice (some ⟨b, 0, none⟩) l.length cap ∧ l.length ≤ cap ∧ cap ≤ maxLen := by obtain ⟨cap, ex, h1, h2, h3, _⟩ := h; exact ⟨cap, h1, h2, h3⟩
theorem RwI.cell (h : RwI w b v l) {i : Nat} {x : Int} (hi : l[i]? = some x) : w.cell? ⟨b, i, none⟩ = some (.int .i64 x) := by
  obtain ⟨cap, ex, _, _, _, h⟩ := h
  rw [h.cell i]
  have hl := (List.getElem?_eq_some_iff.1 hi).1
  rw [List.getElem?_toArray, List.getElem?_append_left (by simpa using hl), List.getElem?_map, hi]; rfl
theorem RwI.frozen (h : RwI w b v l) (i : Nat) : w.frozen? ⟨b, i, none⟩ = false := by obtain ⟨cap, ex, _, _, _, h⟩ := h; exact h.frozen i
theorem RwI.keep (h : RwI w b v l) (k : w'.heap[b]? = w.heap[b]?) : RwI w' b v l := by obtain ⟨cap, ex, h1, h2, h3, h⟩ := h; exact ⟨cap, ex, h1, h2, h3, k.trans h⟩
theorem RwI.alloc (h : RwI w b v l) (o : Obj) : RwI (w.alloc o) b v l := by obtain ⟨cap, ex, h1, h2, h3, h⟩ := h; exact ⟨cap, ex, h1, h2, h3, h.alloc o⟩
theorem RwI.far (h : RwI w b v l) {p : Addr} (hp : b ≠ p.block) (u : Value) : RwI (w.setCell p u) b v l := by obtain ⟨cap, ex, h1, h2, h3, h⟩ := h; exact ⟨cap, ex, h1, h2, h3, h.far hp u⟩
theorem RwI.below {B : Nat} (h : RwI w b v l) (hb : Below B w w') (hl : b < B) : RwI w' b v l := h.keep (hb.block b hl)
theorem RwI.on (h : RwI w b v l) (hb : Below w.heap.size w w') : RwI w' b v l := h.below hb h.lt
theorem RwI.drewN (h : RwI w b v l) (d : Nat) : RwI (w.drewN d) b v l := h
theorem RwI.set (h : RwI w b v l) {i : Nat} (hi : i < l.length) (x : Int) : RwI (w.setCell ⟨b, i, none⟩ (.int .i64 x)) b v (l.set i x) := by
  obtain ⟨cap, ex, h1, h2, h3, h⟩ := h
  refine ⟨cap, ex, by rw [List.length_set]; exact h1, by rw [List.length_set]; exact h2, h3, ?_⟩
  have := h.set_ i (.int .i64 x)
  rw [List.setIfInBounds_toArray] at this
  rw [List.map_set, ← List.set_append_left _ _ (by simpa using hi)]
  exact this
theorem RwI.rd (h : RwI w b v l) : RdV w w.heap.size v l := by
  obtain ⟨cap, h1, h2, h3⟩ := h.sl
  refine ⟨_, cap, h1, h2, h3, fun e => (by cases e), .inr ⟨b, 0, rfl, h.lt, fun i x hi => ?_⟩⟩
  have := h.cell hi
  show w.cell? ⟨b, 0 + i * 1 + 0, none⟩ = _
  rwa [show 0 + i * 1 + 0 = i by omega]
theorem RwI.isI (h : RwI w b v l) (hw : ∀ x ∈ l, iw x) : IsI w w.heap.size v l := by
  obtain ⟨A, c, e, h1, h2, h3, h4⟩ := h.rd
  refine ⟨A, c, e, h1, h2, h3, h4.imp id ?_⟩
  rintro ⟨g, o, e, hg, hx⟩
  exact ⟨g, o, e, hg, fun i x hi => ⟨hx i x hi, hw x (List.mem_of_getElem? hi)⟩⟩
theorem RwI.of_row {base n : Nat} (h : w.ownsRow base tI1 1 v n (l.map (Value.int .i64))) (hn : n = l.length) (h0 : 0 < n) : ∃ b, base ≤ b ∧ RwI w b v l := by
  subst hn
  rcases h.2 with ⟨rfl, hn⟩ | ⟨g, cap, cur, rfl, hb, hg, hnc, hcm, hsz, hcur⟩
  · omega
  · refine ⟨g, hb, cap, cur.toList.drop l.length, rfl, hnc, hcm, ?_⟩
    unfold Blk
    rw [hg]
    have : cur = (l.map (Value.int .i64) ++ cur.toList.drop l.length).toArray := by
      apply Array.ext'
      rw [← hcur, Nat.mul_one]
      exact (List.take_append_drop _ _).symm
    rw [← this]
end
end Go.Proofs.Ytgcjfbgfoiekmaa
