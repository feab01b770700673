/-
  From a row's condition (the listed package-level variables read as the program's text lays them) to what the walks of layers lex, parse and check ask; the door's own heap meets it.
-/
import Derived.Test.YtfaoiajhoifalaaGreatDoorRows
import Derived.Test.YtfaoiajhoifalaaGreatDoorLexe
import Derived.Test.YtfaoiajhoifalaaGreatDoorParw
import Derived.ProofKit
import Derived.LaidMore
import Derived.Stop.LaidErr
import Derived.Stop.Joined
namespace Go.Proofs.YtfaoiajhoifalaaGreatDoor
open Go Go.ChangeShapes Go.WideShapes Go.ChangeAt Go.WideMaps Go.WideElems Go.RowKit
set_option linter.unusedVariables false
set_option linter.unusedSimpArgs false

def laidAll : List (String × DataW Unit) := [("math/bits.deBruijn32tab", Rows.laid_math_bits_deBruijn32tab), ("math/bits.deBruijn64tab", Rows.laid_math_bits_deBruijn64tab), ("internal/strconv.uint64pow10", Rows.laid_internal_strconv_uint64pow10), ("strconv.ErrRange", Rows.laid_strconv_ErrRange), ("strconv.ErrSyntax", Rows.laid_strconv_ErrSyntax), ("mortise/lex.signs", Rows.laid_mortise_lex_signs), ("mortise/parse.typeNames", Rows.laid_mortise_parse_typeNames)]

/-- The door's own heap meets the condition. -/
theorem door_met (os : Os) (args : Array Value) : laidMetH Tryz.prog laidAll ((World.doorLaid Tryz.prog 72 os).forCall (fun _ _ => 0) ⟨#[], args, []⟩).memory :=
  laidMetH_of_parts3 (fuel := 8) (laidMet_of_run' 8 (by kernel_rfl) (by kernel_rfl)) (by kernel_rfl) (by kernel_rfl)

theorem star : "*" ++ "errors.errorString" = "*errors.errorString" := by decide
theorem rowErr (u : TypeId) (h : Tryz.prog.typeName? 3 u = some "*errors.errorString") : u = 217 :=
  typeName_ptr_named (nm := "errors.errorString") (by rw [star]; kernel_rfl) (by kernel_rfl) (by decide) u (by rw [star]; exact h)
theorem tyR : (Tryz.prog.globals[gR]?).map (·.type) = some 166 := by kernel_rfl
theorem tyT : (Tryz.prog.globals[gT]?).map (·.type) = some 225 := by kernel_rfl
theorem tyS : (Tryz.prog.globals[gS]?).map (·.type) = some 169 := by kernel_rfl
theorem tyY : (Tryz.prog.globals[gY]?).map (·.type) = some 170 := by kernel_rfl
theorem cE : Tryz.prog.cellsOf 219 = 1 := by kernel_rfl
theorem cStr : Tryz.prog.cellsOf 9 = 1 := by kernel_rfl
theorem cU64 : Tryz.prog.cellsOf 196 = 1 := by kernel_rfl
theorem cT : Tryz.prog.cellsOf 225 = 20 := by kernel_rfl
theorem cS : Tryz.prog.cellsOf 169 = 30 := by kernel_rfl

theorem cY : Tryz.prog.cellsOf 170 = 4 := by kernel_rfl
theorem env_of_laid {W : World} (h : laidMetH Tryz.prog laidAll W) : Env W ∧ EnvY W := by
  rw [MakeChecks.laidMetH_plain _ _ _ (by kernel_rfl)] at h
  have h2 := h.tail.tail
  have h3 := h2.tail
  have h5 := h3.tail.tail
  have ht := Lib.tabIs_of_head (k := .u64) (zs := Lib.pow10Tab) nT tyT Tryz.underlying225 Tryz.underlying196 cU64 cT h2
  obtain ⟨a0, s0, hv0, -, -, -⟩ := laid_sentinel h3 nR tyR Tryz.underlying166 rowErr Tryz.underlying217 Tryz.underlying219 rfl rfl Tryz.underlying9 cE cStr
  have hs : W.var? Tryz.prog "mortise/lex.signs" = some (sg.map fun z => Value.string (str z)).toArray := by
    obtain ⟨ps, ⟨g', t', cs, fuel, p, q, hg', ht', hvar, hd, _, _⟩, _⟩ := h5
    obtain rfl := Option.some.inj (nS.symm.trans hg')
    obtain rfl := Option.some.inj (tyS.symm.trans ht')
    have := cells_of_strs (zs := sg) Tryz.underlying169 Tryz.underlying9 cStr cS hd
    rw [hvar, ← this]
  have h6 := h5.tail
  have hy : W.var? Tryz.prog "mortise/parse.typeNames" = some (tys.map fun z => Value.string (str z)).toArray := by
    obtain ⟨ps, ⟨g', t', cs, fuel, p, q, hg', ht', hvar, hd, _, _⟩, _⟩ := h6
    obtain rfl := Option.some.inj (nY.symm.trans hg')
    obtain rfl := Option.some.inj (tyY.symm.trans ht')
    have := cells_of_strs (zs := tys) Tryz.underlying170 Tryz.underlying9 cStr cY hd
    rw [hvar, ← this]
  exact ⟨⟨ht, ⟨_, _, hv0⟩, hs, lt_of_var nS hs, lt_of_var nT ht, lt_of_var nR hv0⟩, ⟨hy, lt_of_var nY hy⟩⟩
end Go.Proofs.YtfaoiajhoifalaaGreatDoor
