/-
  What the statements know of the main that returns 7: it does, in two steps.
-/
import Derived.Test.YtgcjfbgfoiekmaaIwh
namespace Go.Proofs.Ytgcjfbgfoiekmaa
open Go Go.RowKit Go.Maps
set_option linter.unusedVariables false
set_option linter.unusedSimpArgs false

/-- Run where nothing was told. -/
theorem run_none {W : World} {gv fv iv : Value} {m : Mdl} {inp : List Int} {st : Int} (hm : IsM W W.heap.size gv fv m) (hi : IsI W W.heap.size iv inp) (hsm : SmM m) (hg : m.g.length ≤ 1000) (hst : -1000000 ≤ st ∧ st ≤ 1000000) (hchk : chk m = 0) {a b : Int} (hr : runM m inp st = ⟨[], a, b⟩) :
    Calls Try.prog 10 #[.agg #[gv, fv], iv, .int .i64 st] W fun e w' => ∃ A c, e = .returned (.agg #[.slice A 0 c, .int .i64 a, .int .i64 b]) ∧ Below W.heap.size W w' := by
  refine (run_any hm hi hsm hg hst hchk).mono fun e w' ⟨ov, h1, h2, h3⟩ => ?_
  rw [hr] at h1 h2
  obtain ⟨A, c, rfl, -⟩ := (rdV_row h2).sl
  exact ⟨A, c, h1, h3⟩

set_option maxHeartbeats 1000000 in
set_option maxRecDepth 10000 in
theorem known_any (w : World) : Calls Try.prog 8 #[] w fun e w' => e = .returned (.bool true) ∧ Below w.heap.size w w' := by
  have HS : Hid (∀ W, Calls Try.prog 17 #[] W fun e w' => ∃ A c, e = .returned (.agg #[.slice none 0 0, .slice A 1 c]) ∧ IsM w' w'.heap.size (.slice none 0 0) (.slice A 1 c) m7 ∧ Below W.heap.size W w') := Lib.hid fun W =>
    (seven_any W).mono fun e w' ⟨fv, h1, h2, h3⟩ => by
      obtain ⟨A, c, rfl, -⟩ := h2.sl
      exact ⟨A, c, h1, ⟨isG_nil _ _, h2⟩, h3⟩
  have HR1 : Hid (∀ W A c, IsM W W.heap.size (.slice none 0 0) (.slice A 1 c) m7 → Calls Try.prog 10 #[.agg #[.slice none 0 0, .slice A 1 c], .slice none 0 0, .int .i64 1] W fun e w' => ∃ A c, e = .returned (.agg #[.slice A 0 c, .int .i64 3, .int .i64 0]) ∧ Below W.heap.size W w') := Lib.hid fun W A c h =>
    run_none h (isI_nil _ _) m7_small (by simp [m7]) (by omega) chk_m7 run_m7_1
  have HR2 : Hid (∀ W A c, IsM W W.heap.size (.slice none 0 0) (.slice A 1 c) m7 → Calls Try.prog 10 #[.agg #[.slice none 0 0, .slice A 1 c], .slice none 0 0, .int .i64 2] W fun e w' => ∃ A c, e = .returned (.agg #[.slice A 0 c, .int .i64 1, .int .i64 7]) ∧ Below W.heap.size W w') := Lib.hid fun W A c h =>
    run_none h (isI_nil _ _) m7_small (by simp [m7]) (by omega) chk_m7 run_m7_2
  have HC : Hid (∀ W A c, IsM W W.heap.size (.slice none 0 0) (.slice A 1 c) m7 → Calls Try.prog 7 #[.agg #[.slice none 0 0, .slice A 1 c]] W fun e w' => e = .returned (.int .i64 0) ∧ Below W.heap.size W w') := Lib.hid fun W A c h => by
    have := chk_any m7 m7_small _ _ W h
    rw [chk_m7] at this
    exact this
  go_enter Try.func8, Try.ntmps8
  go_upto_region 1 with (fail)
  go_wp2_with fail
  refine (HS.out _).mono ?_
  rintro e W1 ⟨A1, c1, rfl, hM1, hb1⟩
  have HM1 := Lib.hid hM1
  have HB1 := Lib.hid hb1
  clear hM1 hb1
  go_wp2_with fail
  refine (HR1.out _ _ _ HM1.out).mono ?_
  rintro e W2 ⟨oA, oc, rfl, hb2⟩
  have HB2 := Lib.hid (HB1.out.trans (hb2.mono HB1.out.size))
  clear hb2 HB1 HM1
  go_upto_region 2 with (fail)
  have hb3 := HB2.out.alloc HB2.out.size (.cells #[.slice oA 0 oc, .int .i64 3, .int .i64 0] tRn)
  have hk3 := Blk.new W2 tRn #[.slice oA 0 oc, .int .i64 3, .int .i64 0]
  obtain ⟨g1, hg1⟩ : ∃ g, W2.heap.size = g := ⟨_, rfl⟩
  rw [hg1] at hk3
  generalize hw3 : W2.alloc (.cells #[.slice oA 0 oc, .int .i64 3, .int .i64 0] tRn) = W3 at *
  simp only [hg1]
  have HB3 := Lib.hid (And.intro hb3 hk3)
  clear hb3 hk3 hw3 hg1 HB2
  go_wp2_with fail
  refine (HS.out _).mono ?_
  rintro e W4 ⟨A2, c2, rfl, hM4, hb4⟩
  have HM4 := Lib.hid hM4
  have HB4 := Lib.hid (And.intro (HB3.out.1.trans (hb4.mono HB3.out.1.size)) (HB3.out.2.on hb4))
  clear hM4 hb4 HB3
  go_wp2_with fail
  refine (HR2.out _ _ _ HM4.out).mono ?_
  rintro e W5 ⟨oA2, oc2, rfl, hb5⟩
  have HB5 := Lib.hid (And.intro (HB4.out.1.trans (hb5.mono HB4.out.1.size)) (HB4.out.2.on hb5))
  clear hb5 HB4 HM4
  go_upto_region 3 with (fail)
  have hb6 := HB5.out.1.alloc HB5.out.1.size (.cells #[.slice oA2 0 oc2, .int .i64 1, .int .i64 7] tRn)
  have hk6 := Blk.new W5 tRn #[.slice oA2 0 oc2, .int .i64 1, .int .i64 7]
  have hj6 := HB5.out.2.alloc (.cells #[.slice oA2 0 oc2, .int .i64 1, .int .i64 7] tRn)
  obtain ⟨g2, hg2⟩ : ∃ g, W5.heap.size = g := ⟨_, rfl⟩
  rw [hg2] at hk6
  generalize hw6 : W5.alloc (.cells #[.slice oA2 0 oc2, .int .i64 1, .int .i64 7] tRn) = W6 at *
  simp only [hg2]
  have HB6 := Lib.hid (And.intro hb6 (And.intro hj6 hk6))
  clear hb6 hk6 hj6 hw6 hg2 HB5
  go_wp2_with fail
  refine (HS.out _).mono ?_
  rintro e W7 ⟨A3, c3, rfl, hM7, hb7⟩
  have HM7 := Lib.hid hM7
  have HB7 := Lib.hid (And.intro (HB6.out.1.trans (hb7.mono HB6.out.1.size)) (And.intro (HB6.out.2.1.on hb7) (HB6.out.2.2.on hb7)))
  clear hM7 hb7 HB6
  go_wp2_with fail
  refine (HC.out _ _ _ HM7.out).mono ?_
  rintro e W8 ⟨rfl, hb8⟩
  have HB8 := Lib.hid (And.intro (HB7.out.1.trans (hb8.mono HB7.out.1.size)) (And.intro (HB7.out.2.1.on hb8) (HB7.out.2.2.on hb8)))
  clear hb8 HB7 HM7
  have a1 : W8.cell? ⟨g1, 1, none⟩ = some (.int .i64 3) := HB8.out.2.1.cell 1
  have d1 : W8.cell? ⟨g2, 1, none⟩ = some (.int .i64 1) := HB8.out.2.2.cell 1
  have d2 : W8.cell? ⟨g2, 2, none⟩ = some (.int .i64 7) := HB8.out.2.2.cell 2
  have d0 : W8.cell? ⟨g2, 0, none⟩ = some (.slice oA2 0 oc2) := HB8.out.2.2.cell 0
  have al := HB8.out.2.1.lt
  have dl := HB8.out.2.2.lt
  go_wp2_with fail
  go_ret
  exact ⟨rfl, HB8.out.1⟩
end Go.Proofs.Ytgcjfbgfoiekmaa
