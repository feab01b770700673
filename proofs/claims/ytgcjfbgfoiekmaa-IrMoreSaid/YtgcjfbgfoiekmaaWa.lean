import Derived.Test.YtgcjfbgfoiekmaaProg
import Derived.Test.YtgcjfbgfoiekmaaMath
import Derived.WalkKit
import Derived.WalkSpells
import Derived.WalkLawsBesides
import Derived.Maps.OwnOps
import Derived.Maps.Views
import Derived.Lib.Hide
namespace Go.Proofs.Ytgcjfbgfoiekmaa
open Go.RowKit Go.WideMaps Go.Maps

/-- The width of a type, as a number. -/
def wd (t : Int) : Int := if t = 1 then 32 else if t = 2 then 64 else if t = 3 then 8 else 0

theorem kInt : Keyed Try.prog 3 := int_keyed Try.underlying3
theorem zeroInt (w : World) : (zeroValue 3).run Try.prog w = .ok (.int .i64 0) w := by kernel_rfl

/-- What the map of widths reads as. -/
def wdMap : DataW Unit := (((DataW.map []).put (.int .i64 3) (.lit (.int .i64 8))).put (.int .i64 1) (.lit (.int .i64 32))).put (.int .i64 2) (.lit (.int .i64 64))

theorem wdMap_at (t : Int) : wdMap.atKey (.int .i64 t) (.lit (.int .i64 0)) = .lit (.int .i64 (wd t)) := by
  unfold wd
  by_cases h1 : t = 1
  · subst h1; rfl
  by_cases h2 : t = 2
  · subst h2; rfl
  by_cases h3 : t = 3
  · subst h3; rfl
  rw [if_neg h1, if_neg h2, if_neg h3]
  unfold wdMap
  rw [atKey_put_other (by simpa using h2), atKey_put_other (by simpa using h1), atKey_put_other (by simpa using h3)]
  rfl

set_option maxHeartbeats 400000 in
theorem widths_any (w : World) :
    Calls Try.prog 69 #[] w fun e w' => e = .returned (.map (some w.heap.size)) ∧ w'.ownsMap Try.prog 3 (plainElem Try.prog 3) w.heap.size 3 wdMap ∧ Below w.heap.size w w' := by
  have hmm := @run_makeMap Try.prog
  have h0 := World.ownsMap_made (H := Unit) w Try.prog 3 (plainElem Try.prog 3)
  obtain ⟨w1, r1, h1, g1⟩ := h0.update kInt Try.underlying110 (by decide) (key := .int .i64 3) (val := .int .i64 8) (keyOf_int_mk Try.underlying3 (by decide)) (plainElem_int Try.underlying3 (by decide))
  obtain ⟨w2, r2, h2, g2⟩ := h1.update kInt Try.underlying110 (by decide) (key := .int .i64 1) (val := .int .i64 32) (keyOf_int_mk Try.underlying3 (by decide)) (plainElem_int Try.underlying3 (by decide))
  obtain ⟨w3, r3, h3, g3⟩ := h2.update kInt Try.underlying110 (by decide) (key := .int .i64 2) (val := .int .i64 64) (keyOf_int_mk Try.underlying3 (by decide)) (plainElem_int Try.underlying3 (by decide))
  have hb : Below w.heap.size w w3 := (((((Below.refl _ _).alloc (Nat.le_refl _) _).grown g1 (by simp) (by intro k e; cases e; exact Nat.le_refl _)).grown g2 (by have := g1.size; simp at this; omega) (by intro k e; cases e; exact Nat.le_refl _)).grown g3 (by have := g1.size; have := g2.size; simp at *; omega) (by intro k e; cases e; exact Nat.le_refl _))
  clear h0 h1 h2 g1 g2 g3
  have H3 := Lib.hid h3
  clear h3
  go_enter Try.func69, Try.ntmps69
  go_wp2
  go_ret
  exact ⟨rfl, H3.out, hb⟩

set_option maxHeartbeats 400000 in
theorem width_any (t : Int) (w : World) (ht : (Lit.int .i64 t).wf = true) :
    Calls Try.prog 67 #[.int .i64 t] w fun e w' => e = .returned (.int .i64 (wd t)) ∧ Below w.heap.size w w' := by
  go_enter Try.func67, Try.ntmps67
  go_wp2_with fail
  refine (widths_any _).mono ?_
  rintro e w1 ⟨rfl, hown, hb⟩
  obtain ⟨c, hrun, hat, hwc⟩ := hown.lookup_int kInt Try.underlying110 Try.underlying3 (zeroInt _) (keyOf_int_mk Try.underlying3 ht)
  rw [wdMap_at] at hat
  obtain rfl : wd t = c := by simpa using hat
  clear hown hat hwc
  go_wp2_with fail
  go_ret
  exact ⟨rfl, hb⟩

set_option maxHeartbeats 400000 in
theorem wrap_any (t v : Int) (w : World) (ht : (Lit.int .i64 t).wf = true) :
    Calls Try.prog 54 #[.int .i64 t, .int .i64 v] w fun e w' => e = .returned (.int .i64 (wr t v)) ∧ Below w.heap.size w w' := by
  have hh : wd t = 32 ∧ t = 1 ∨ wd t = 64 ∧ t = 2 ∨ wd t = 8 ∧ t = 3 ∨ wd t = 0 ∧ wr t v = 0 := by
    unfold wd wr
    by_cases h1 : t = 1
    · simp [h1]
    by_cases h2 : t = 2
    · simp [h2]
    by_cases h3 : t = 3
    · simp [h3]
    simp [h1, h2, h3]
  go_enter Try.func54, Try.ntmps54
  go_wp2_with fail
  refine (width_any _ _ ht).mono ?_
  rintro e w1 ⟨rfl, hb⟩
  rcases hh with ⟨h1, h2⟩ | ⟨h1, h2⟩ | ⟨h1, h2⟩ | ⟨h1, h2⟩
  · have H2 := Lib.hid h2; clear h2
    rw [h1]; clear h1
    go_wp2_with fail
    go_ret
    exact ⟨ret_int (by rw [wr_1, H2.out]), hb⟩
  · have H2 := Lib.hid h2; clear h2
    rw [h1]; clear h1
    go_wp2_with fail
    go_ret
    exact ⟨ret_int (by rw [wr_2, H2.out]), hb⟩
  · have H2 := Lib.hid h2; clear h2
    rw [h1]; clear h1
    go_wp2_with fail
    go_ret
    exact ⟨ret_int (by rw [wr_3, H2.out]), hb⟩
  · have H2 := Lib.hid h2; clear h2
    rw [h1]; clear h1
    go_wp2_with fail
    go_ret
    exact ⟨ret_int (by rw [wr_0, H2.out]), hb⟩

end Go.Proofs.Ytgcjfbgfoiekmaa
