/-
  What layer lex's package-level variables hold, as the walks want it; and how it comes out of a row's condition.
-/
import Derived.Test.YtfaoiajhoifalaaGreatDoorProg
import Derived.Test.YtfaoiajhoifalaaGreatDoorLexm
import Derived.Test.YtfaoiajhoifalaaGreatDoorCm
import Derived.Lib.LaidTab
import Derived.Stop.LaidErr
import Derived.Below
namespace Go.Proofs.YtfaoiajhoifalaaGreatDoor
open Go.RowKit
set_option linter.unusedVariables false
set_option linter.unusedSimpArgs false

/-- Cells of strings that read as a list of texts. -/
theorem cells_of_strs {H : Type} {enc : TypeId × Value → H} {P : Program} {w : World} {base : Nat} {sp : Nat → Bool} {held : Bool} {fuel : Nat} {t e : TypeId} {n : Nat} {cs : List Value} {zs : List (List UInt8)} {p : List MemPlace}
    (ht : P.underlying t = some (.array n e)) (he : P.underlying e = some .string) (hce : P.cellsOf e = 1) (hct : P.cellsOf t = n)
    (h : DataW.trod enc P w base sp held fuel t cs = some (.agg (zs.map fun z => .lit (.string z)), p)) : cs = zs.map fun z => Value.string (str z) := by
  cases fuel with
  | zero => simp [DataW.trod] at h
  | succ fuel =>
    simp only [DataW.trod, ht, hce, hct, Nat.mul_one] at h
    split at h
    · rename_i hl
      obtain ⟨xs, hm, hx⟩ := Option.map_eq_some_iff.1 h
      have hxs : xs.map (·.1) = zs.map fun z => (DataW.lit (.string z) : DataW H) := by
        have := congrArg Prod.fst hx
        simpa using this
      have hxl : xs.length = n := by simpa using Lib.mapM_length hm
      have hzl : zs.length = n := by
        have := congrArg List.length hxs
        simp at this
        omega
      apply List.ext_getElem?
      intro i
      by_cases hi : i < n
      · obtain ⟨b, hb, hf⟩ := Lib.mapM_at hm i i (by simp [hi])
        obtain ⟨z, hc, rfl, _⟩ := DataW.trod_string he hf
        have h1 : cs[i]? = some (.string z) := by
          have := congrArg (·[0]?) hc
          simpa [List.getElem?_take, List.getElem?_drop] using this
        have h2 : (xs.map (·.1))[i]? = some (DataW.lit (.string z.data.toList) : DataW H) := by simp [hb]
        rw [hxs] at h2
        simp only [List.getElem?_map, Option.map_eq_some_iff, DataW.lit.injEq, Lit.string.injEq] at h2
        obtain ⟨z', hz', hzz⟩ := h2
        simp [h1, hz', hzz]
      · rw [List.getElem?_eq_none (by omega), List.getElem?_eq_none (by simp; omega)]
    · cases h

abbrev gS : Nat := 0
abbrev gT : Nat := 5
abbrev gR : Nat := 4

/-- What the package-level variables hold. -/
structure Env (w : World) : Prop where
  tab : Lib.TabIs Tryz.prog w "internal/strconv.uint64pow10" .u64 Lib.pow10Tab
  rng : ∃ tp p, w.var? Tryz.prog "strconv.ErrRange" = some #[.iface tp p]
  sgn : w.var? Tryz.prog "mortise/lex.signs" = some (sg.map fun z => Value.string (str z)).toArray
  szS : gS < w.heap.size
  szT : gT < w.heap.size
  szR : gR < w.heap.size

theorem nS : Tryz.prog.globalNamed "mortise/lex.signs" = some gS := by kernel_rfl
theorem nT : Tryz.prog.globalNamed "internal/strconv.uint64pow10" = some gT := by kernel_rfl
theorem nR : Tryz.prog.globalNamed "strconv.ErrRange" = some gR := by kernel_rfl

theorem var?_same {P : Program} {w w' : World} {B : Nat} {n : String} {g : Nat} (hg : P.globalNamed n = some g) (h : Below B w w') (hB : g < B) : w'.var? P n = w.var? P n := by
  simp only [World.var?, hg, Option.bind_some, h.block g hB]

theorem lt_of_var {P : Program} {w : World} {n : String} {g : Nat} {cs : Array Value} (hg : P.globalNamed n = some g) (h : w.var? P n = some cs) : g < w.heap.size := by
  simp only [World.var?, hg, Option.bind_some] at h
  rcases Nat.lt_or_ge g w.heap.size with hlt | hge
  · exact hlt
  · rw [Array.getElem?_eq_none hge] at h; cases h

theorem Env.below {w w' : World} {B : Nat} (h : Env w) (hb : Below B w w') (hB : w.heap.size ≤ B) : Env w' := by
  obtain ⟨tp, p, hr⟩ := h.rng
  exact ⟨(var?_same nT hb (Nat.lt_of_lt_of_le h.szT hB)).trans h.tab, ⟨tp, p, (var?_same nR hb (Nat.lt_of_lt_of_le h.szR hB)).trans hr⟩, (var?_same nS hb (Nat.lt_of_lt_of_le h.szS hB)).trans h.sgn,
    Nat.lt_of_lt_of_le h.szS hb.size, Nat.lt_of_lt_of_le h.szT hb.size, Nat.lt_of_lt_of_le h.szR hb.size⟩

theorem bcell {W w1 : World} (hb : Below W.heap.size W w1) : (∀ b o, b < W.heap.size → w1.cell? ⟨b, o, none⟩ = W.cell? ⟨b, o, none⟩) ∧ (∀ b o, b < W.heap.size → w1.frozen? ⟨b, o, none⟩ = W.frozen? ⟨b, o, none⟩) :=
  ⟨fun b o h => hb.cell (p := ⟨b, o, none⟩) h, fun b o h => hb.frozen (p := ⟨b, o, none⟩) h⟩

/-- The same, from a world further down. -/
theorem Env.of {w0 w : World} (h : Env w0) (hb : Below w0.heap.size w0 w) : Env w := h.below hb (Nat.le_refl _)
end Go.Proofs.YtfaoiajhoifalaaGreatDoor
