/-
  Layer ir: walks of operate, element, read.
-/
import Derived.Test.YtgijhobedcamlaaIvn
namespace Go.Proofs.Ytgijhobedcamlaa
open Go Go.RowKit Go.Maps
set_option linter.unusedVariables false
set_option linter.unusedSimpArgs false

set_option maxHeartbeats 1000000 in
theorem operate_any (g p : Nat) (t a b : Int) (s : List UInt8) (w : World) (h1 : w.cell? ⟨g, p + 1, none⟩ = some (.int .i64 t)) (h6 : w.cell? ⟨g, p + 6, none⟩ = some (.string (str s))) (ha : iw a) (hb : iw b) :
    Calls Try.prog 55 #[.pointer (some ⟨g, p, none⟩), .int .i64 a, .int .i64 b] w fun e w' => e = (if (bn t s a b).2 ≠ 0 then PanE 2 (bn t s a b).2 else .returned (.int .i64 (bn t s a b).1)) ∧ Below w.heap.size w w' := by
  obtain ⟨x, y, hxy⟩ : ∃ x y, bn t s a b = (x, y) := ⟨_, _, rfl⟩
  have HB : Hid (∀ W, Below w.heap.size w W → Calls Try.prog 64 #[.int .i64 t, .string (str s), .int .i64 a, .int .i64 b] W fun e w' => e = .returned (.tuple #[.int .i64 x, .int .i64 y]) ∧ Below w.heap.size w w') := Lib.hid fun W hW => (bin_any t a b (str s) W ha hb).mono fun e w' h => ⟨by rw [h.1, ByteArray.toList_eq]; show _ = Ending.returned (.tuple #[.int .i64 x, .int .i64 y]); rw [show bn t (str s).data.toList a b = (x, y) from hxy], hW.trans (h.2.mono hW.size)⟩
  rw [hxy]
  simp only
  clear hxy ha hb
  have hg := World.block_lt_of_cell? w _ h1
  simp only at hg
  have HS : Hid (∀ Wx, Below w.heap.size w Wx → Wx.cell? ⟨g, p + 1, none⟩ = some (.int .i64 t) ∧ Wx.cell? ⟨g, p + 6, none⟩ = some (.string (str s)) ∧ g < Wx.heap.size) := Lib.hid fun Wx h => by
    have hz := h.size
    exact ⟨(h.cell (p := ⟨g, p + 1, none⟩) hg).trans h1, (h.cell (p := ⟨g, p + 6, none⟩) hg).trans h6, by omega⟩
  have J0 : Below w.heap.size w w := Below.refl _ _
  by_cases hy : y = 0
  · subst hy
    rw [if_neg (by simp)]
    go_enter Try.func55, Try.ntmps55
    go_wp2_with fail
    go_region_held3 (fun Wx => Wx.cell? ⟨g, p + 1, none⟩ = some (.int .i64 t) ∧ Wx.cell? ⟨g, p + 6, none⟩ = some (.string (str s)) ∧ g < Wx.heap.size)
      (first | exact ⟨h1, h6, hg⟩ | exact HS.out _ J1)
      (first
        | (go_at_call 64; (with_reducible refine Calls.mono (HB.out _ (by first | exact J0.drew | exact J0)) ?_); rintro e v1 ⟨rfl, J1⟩))
    all_goals
      have HJ := Lib.hid J1
      clear J0 J1
      go_wp2_with fail
      go_ret
      exact ⟨rfl, HJ.out⟩
  · rw [if_pos hy]
    have d1 : (y != 0) = true := by simpa using hy
    clear hy
    go_enter Try.func55, Try.ntmps55
    go_wp2_with fail
    go_region_held3 (fun Wx => Wx.cell? ⟨g, p + 1, none⟩ = some (.int .i64 t) ∧ Wx.cell? ⟨g, p + 6, none⟩ = some (.string (str s)) ∧ g < Wx.heap.size)
      (first | exact ⟨h1, h6, hg⟩ | exact HS.out _ J1)
      (first
        | (go_at_call 64; (with_reducible refine Calls.mono (HB.out _ (by first | exact J0.drew | exact J0)) ?_); rintro e v1 ⟨rfl, J1⟩))
    all_goals
      have HJ := Lib.hid J1
      clear J0 J1
      go_wp2_with fail
      refine (trap_any y _).mono ?_
      rintro e w2 ⟨rfl, rfl⟩
      unfold PanE
      go_wp2_with fail
      exact pan_end rfl ⟨rfl, HJ.out⟩
end Go.Proofs.Ytgijhobedcamlaa
