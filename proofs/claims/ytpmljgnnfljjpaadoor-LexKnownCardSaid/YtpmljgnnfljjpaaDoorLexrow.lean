/-
  From a row's condition (the listed package-level variables read as the program's text lays them) to what the walks of layer lex ask; the door's own heap meets it.
-/
import Derived.Test.YtpmljgnnfljjpaaDoorRows
import Derived.Test.YtpmljgnnfljjpaaDoorLexe
import Derived.ProofKit
import Derived.LaidMore
import Derived.Stop.LaidErr
import Derived.Stop.Joined
namespace Go.Proofs.YtpmljgnnfljjpaaDoor
open Go Go.ChangeShapes Go.WideShapes Go.ChangeAt Go.WideMaps Go.WideElems Go.RowKit
set_option linter.unusedVariables false
set_option linter.unusedSimpArgs false

def laidAll : List (String × DataW Unit) := [("math/bits.deBruijn32tab", Rows.laid_math_bits_deBruijn32tab), ("math/bits.deBruijn64tab", Rows.laid_math_bits_deBruijn64tab), ("internal/strconv.uint64pow10", Rows.laid_internal_strconv_uint64pow10), ("strconv.ErrRange", Rows.laid_strconv_ErrRange), ("strconv.ErrSyntax", Rows.laid_strconv_ErrSyntax), ("mortise/lex.signs", Rows.laid_mortise_lex_signs)]

/-- The door's own heap meets the condition. -/
theorem door_met (os : Os) (args : Array Value) : laidMetH Tryd.prog laidAll ((World.doorLaid Tryd.prog 67 os).forCall (fun _ _ => 0) ⟨#[], args, []⟩).memory :=
  laidMetH_of_parts3 (fuel := 8) (laidMet_of_run' 8 (by kernel_rfl) (by kernel_rfl)) (by kernel_rfl) (by kernel_rfl)

theorem star : "*" ++ "errors.errorString" = "*errors.errorString" := by decide
theorem rowErr (u : TypeId) (h : Tryd.prog.typeName? 3 u = some "*errors.errorString") : u = 102 :=
  typeName_ptr_named (nm := "errors.errorString") (by rw [star]; kernel_rfl) (by kernel_rfl) (by decide) u (by rw [star]; exact h)
theorem tyR : (Tryd.prog.globals[gR]?).map (·.type) = some 56 := by kernel_rfl
theorem tyT : (Tryd.prog.globals[gT]?).map (·.type) = some 92 := by kernel_rfl
theorem tyS : (Tryd.prog.globals[gS]?).map (·.type) = some 74 := by kernel_rfl
theorem cE : Tryd.prog.cellsOf 104 = 1 := by kernel_rfl
theorem cStr : Tryd.prog.cellsOf 9 = 1 := by kernel_rfl
theorem cU64 : Tryd.prog.cellsOf 78 = 1 := by kernel_rfl
theorem cT : Tryd.prog.cellsOf 92 = 20 := by kernel_rfl
theorem cS : Tryd.prog.cellsOf 74 = 30 := by kernel_rfl

theorem env_of_laid {W : World} (h : laidMetH Tryd.prog laidAll W) : Env W := by
  rw [MakeChecks.laidMetH_plain _ _ _ (by kernel_rfl)] at h
  have h2 := h.tail.tail
  have h3 := h2.tail
  have h5 := h3.tail.tail
  have ht := Lib.tabIs_of_head (k := .u64) (zs := Lib.pow10Tab) nT tyT Tryd.underlying92 Tryd.underlying78 cU64 cT h2
  obtain ⟨a0, s0, hv0, -, -, -⟩ := laid_sentinel h3 nR tyR Tryd.underlying56 rowErr Tryd.underlying102 Tryd.underlying104 rfl rfl Tryd.underlying9 cE cStr
  have hs : W.var? Tryd.prog "mortise/lex.signs" = some (sg.map fun z => Value.string (str z)).toArray := by
    obtain ⟨ps, ⟨g', t', cs, fuel, p, q, hg', ht', hvar, hd, _, _⟩, _⟩ := h5
    obtain rfl := Option.some.inj (nS.symm.trans hg')
    obtain rfl := Option.some.inj (tyS.symm.trans ht')
    have := cells_of_strs (zs := sg) Tryd.underlying74 Tryd.underlying9 cStr cS hd
    rw [hvar, ← this]
  exact ⟨ht, ⟨_, _, hv0⟩, hs, lt_of_var nS hs, lt_of_var nT ht, lt_of_var nR hv0⟩
end Go.Proofs.YtpmljgnnfljjpaaDoor
