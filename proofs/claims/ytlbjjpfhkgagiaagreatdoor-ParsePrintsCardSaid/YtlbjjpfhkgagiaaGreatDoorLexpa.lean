/-
  The texts of tokens, and what is printed of them, as mathematics; strconv.Itoa; strings.Builder's own memory.
-/
import Derived.Test.YtlbjjpfhkgagiaaGreatDoorLexk
import Derived.Lib.AppendIntMem
import Derived.Lib.ItoaLen
namespace Go.Proofs.YtlbjjpfhkgagiaaGreatDoor
open Go.RowKit Go.Shelf
set_option linter.unusedVariables false
set_option linter.unusedSimpArgs false

/-- The text of a token. -/
def txt (t : Tok) : List UInt8 := if t.k = 2 then Lib.itoa t.n ++ t.s else t.s
/-- The texts of tokens; a TEnd has none. -/
def txts (l : List Tok) : List (List UInt8) := (l.filter fun t => decide (t.k ≠ 4)).map txt
def TokOk (t : Tok) : Prop := t.s.length ≤ 24 ∧ -9223372036854775808 ≤ t.n ∧ t.n ≤ 9223372036854775807

theorem Env.of_heap {w w' : World} (h : Env w) (hh : w'.heap = w.heap) : Env w' := by
  obtain ⟨tp, p, hr⟩ := h.rng
  exact ⟨(World.var?_heap hh _).trans h.tab, ⟨tp, p, (World.var?_heap hh _).trans hr⟩, (World.var?_heap hh _).trans h.sgn, by rw [hh]; exact h.szS, by rw [hh]; exact h.szT, by rw [hh]; exact h.szR⟩

theorem itoa_any (n : Int) (h0 : -9223372036854775808 ≤ n) (h1 : n ≤ 9223372036854775807) (w : World) (hE : Env w) :
    Calls Tryz.prog 59 #[.int .i64 n] w fun e w' => e = .returned (.string (str (Lib.itoa n))) ∧ Below w.heap.size w w' :=
  (Tryz.strconv_Itoa n h0 h1 w hE.tab).mono (by rintro e w' ⟨rfl, k, os, rfl⟩; exact ⟨rfl, Lib.below_grow _ _ (Nat.le_refl _) _ _⟩)

theorem txt_len {t : Tok} (h : TokOk t) : (txt t).length ≤ 45 := by
  obtain ⟨h1, h2, h3⟩ := h
  have h4 := Lib.itoa_length_le t.n h2 h3
  unfold txt
  split
  · rw [List.length_append]; omega
  · omega
theorem txts_snoc (l : List Tok) (t : Tok) : txts (l ++ [t]) = txts l ++ (if t.k = 4 then [] else [txt t]) := by
  unfold txts
  rw [List.filter_append, List.map_append]
  by_cases h : t.k = 4 <;> simp [h]

theorem str_append (a b : List UInt8) : str a ++ str b = str (a ++ b) := by
  apply eq_str
  simp [str]

/-- Joined by one blank. -/
def jstep (a x : List UInt8) : List UInt8 := if a = [] then x else a ++ 32 :: x
def jn (l : List (List UInt8)) : List UInt8 := l.foldl jstep []
theorem jn_snoc (l : List (List UInt8)) (x : List UInt8) : jn (l ++ [x]) = jstep (jn l) x := by simp [jn]
theorem jn_len (l : List (List UInt8)) (h : ∀ x ∈ l, x.length ≤ 45) : (jn l).length ≤ l.length * 46 := by
  have key : ∀ (l : List (List UInt8)) (a : List UInt8), (∀ x ∈ l, x.length ≤ 45) → (l.foldl jstep a).length ≤ a.length + l.length * 46 := by
    intro l
    induction l with
    | nil => intro a _; simp
    | cons x l ih =>
      intro a h
      have h1 := ih (jstep a x) (fun y hy => h y (List.mem_cons_of_mem _ hy))
      have h2 := h x (by simp)
      have h3 : (jstep a x).length ≤ a.length + 46 := by
        unfold jstep
        split
        · omega
        · rw [List.length_append, List.length_cons]; omega
      rw [List.foldl_cons, List.length_cons]
      omega
  have := key l [] h
  simpa [jn] using this
theorem txts_len {l : List Tok} (h : ∀ t ∈ l, TokOk t) : ∀ x ∈ txts l, x.length ≤ 45 := by
  intro x hx
  obtain ⟨t, ht, rfl⟩ := List.mem_map.1 hx
  exact txt_len (h t (List.mem_filter.1 ht).1)

abbrev tB : TypeId := 75
abbrev tU : TypeId := 5

theorem IsB.kept {B b : Nat} {bs : List Value} {w w' : World} {row : Option Nat} (h : Lib.IsBuilderF tB tU B b bs w) (hg : w.grownBy w' row) (hr : ∀ r, row = some r → ∃ o : Obj, w.heap[r]? = some o ∧ o.isCells = false) : Lib.IsBuilderF tB tU B b bs w' := by
  have key : ∀ p, Lib.BuilderAtF tB tU B b p bs w → Lib.BuilderAtF tB tU B b p bs w' := by
    rintro p ⟨hB, v, hb, hown, hne⟩
    refine ⟨hB, v, ?_, hown.kept hg ?_, hne⟩
    · refine (hg.block b (Array.getElem?_eq_some_iff.1 hb).1 (fun e => ?_)).trans hb
      obtain ⟨o, ho, hc⟩ := hr b e.symm
      rw [hb] at ho; cases ho; cases hc
    · rcases hown.2 with ⟨rfl, _⟩ | ⟨g, cap, cur, fz, rfl, _, hgb, _⟩
      · exact .inl rfl
      · refine .inr fun e => ?_
        obtain ⟨o, ho, hc⟩ := hr g (by simpa [Value.ownBlock] using e.symm)
        rw [hgb] at ho; cases ho; cases hc
  exact h.elim (fun x => .inl (key _ x)) (fun x => .inr (key _ x))
theorem IsB.blk {B b : Nat} {bs : List Value} {w : World} (h : Lib.IsBuilderF tB tU B b bs w) : ∃ cs, w.heap[b]? = some (.cells cs tB (0, 0)) := by
  rcases h with ⟨_, v, hb, _⟩ | ⟨_, v, hb, _⟩ <;> exact ⟨_, hb⟩

theorem keeps_of {B b : Nat} {bs : List Value} {W W' : World} (h : Lib.IsBuilderF tB tU B b bs W) (hb : Below B W W') (hk : Lib.OthersKept tU (some b) W W') : KeepsOthers W W' := by
  obtain ⟨cs, hc⟩ := IsB.blk h
  refine ⟨hb.size, fun k o hk0 ho => hk k o hk0 (fun e => ?_) (fun c fz e => ?_)⟩
  · cases e; rw [hc] at hk0; cases hk0; cases ho
  · subst e; cases ho

end Go.Proofs.YtlbjjpfhkgagiaaGreatDoor
