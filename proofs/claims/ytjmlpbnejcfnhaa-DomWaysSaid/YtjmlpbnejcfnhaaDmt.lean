/-
  Layer dom: walks of Order, Dom, Reducible.
-/
import Derived.Test.YtjmlpbnejcfnhaaDms
namespace Go.Proofs.Ytjmlpbnejcfnhaa
open Go Go.RowKit Go.Maps
set_option linter.unusedVariables false
set_option linter.unusedSimpArgs false

/-- The rows of successors of a function. -/
def tosC (c : Cod) : List (List Nat) := (esB c.bl).map tosN
/-- A function whose blocks lead to its blocks, as it is read. -/
structure CdD (w : World) (c : Cod) (rv bv : Value) : Prop where
  b : IsB w w.heap.size bv c.bl
  r : ∃ A n k, rv = .slice A n k
  ne : c.bl ≠ []
  m : c.bl.length ≤ 400
  ok : endsOk (esB c.bl) = true
theorem CdD.on {w w' : World} {c : Cod} {rv bv : Value} (h : CdD w c rv bv) (hb : Below w.heap.size w w') : CdD w' c rv bv := ⟨(h.b.below hb).more hb.size, h.r, h.ne, h.m, h.ok⟩
theorem CdD.len {w : World} {c : Cod} {rv bv : Value} (h : CdD w c rv bv) : (esB c.bl).length = c.bl.length := by unfold esB; rw [List.length_map]
theorem CdD.fin {w : World} {c : Cod} {rv bv : Value} (h : CdD w c rv bv) : FinW (tosC c).length (tosC c) (walkM (tosC c)) := by
  have := walk_fin (tosN_ok h.ok) (by rw [h.len]; exact List.length_pos_iff.2 h.ne)
  unfold tosC
  rw [List.length_map]
  exact this
theorem CdD.wkc {w : World} {c : Cod} {rv bv : Value} (h : CdD w c rv bv) : WkC (tosC c) (walkM (tosC c)) := walk_wkc (by rw [h.len]; exact List.length_pos_iff.2 h.ne) (by rw [h.len]; exact h.m) h.ok
/-- What endsOf and newGraph leave of it. -/
theorem CdD.calls {w : World} {c : Cod} {rv bv : Value} (h : CdD w c rv bv) : Calls Try.prog 24 #[.agg (codA c rv bv)] w fun e w' => ∃ v, e = .returned v ∧ (∃ A k, v = .slice A c.bl.length k) ∧ (Calls Try.prog 25 #[v] w' fun e w2 => ∃ a, e = .returned (.agg a) ∧ GrO w2 a (tosC c) (walkM (tosC c)) ∧ Below w.heap.size w w2) := by
  refine (endsOf_any h.b h.ne h.m h.ok).mono ?_
  rintro e w' ⟨v, b, rfl, hb, he, hbe⟩
  obtain ⟨cap, hv, -⟩ := he.sl
  refine ⟨v, rfl, ⟨_, _, by rw [← h.len]; exact hv⟩, (newGraph_any he (by rw [h.len]; exact List.length_pos_iff.2 h.ne) (by rw [h.len]; exact h.m) h.ok).mono ?_⟩
  rintro e w2 ⟨a, rfl, hg, hb2⟩
  exact ⟨a, rfl, hg, hbe.trans (hb2.mono hbe.size)⟩
theorem run_fieldG0 (a b c d e f g : Value) (w : World) : (Instr.field tGr (.agg #[a, b, c, d, e, f, g]) 0).run Try.prog w = .ok (.agg #[a, b, c, d, e]) w := by kernel_rfl
theorem run_fieldG2 (a b c d e f g : Value) (w : World) : (Instr.field tGr (.agg #[a, b, c, d, e, f, g]) 2).run Try.prog w = .ok g w := by kernel_rfl
theorem run_fieldW4 (a b c d e : Value) (w : World) : (Instr.field tWk (.agg #[a, b, c, d, e]) 4).run Try.prog w = .ok e w := by kernel_rfl
set_option maxHeartbeats 4000000 in
set_option maxRecDepth 100000 in
theorem order_any {w : World} {c : Cod} {rv bv : Value} (h : CdD w c rv bv) :
    Calls Try.prog 17 #[.agg (codA c rv bv)] w fun e w' => ∃ v, e = .returned v ∧ RdV w' w'.heap.size v (nz (walkM (tosC c)).ord) ∧ Below w.heap.size w w' := by
  obtain ⟨w1, hw1⟩ : ∃ x, x = w.alloc (.cells (codA c rv bv) 34) := ⟨_, rfl⟩
  have hb1 : Below w.heap.size w w1 := by rw [hw1]; exact (Below.refl _ w).alloc (Nat.le_refl _) _
  have hbx : Blk w1 w.heap.size 34 (codA c rv bv) := by rw [hw1]; exact Blk.new w _ _
  have HC := Lib.hid (h.on hb1).calls
  obtain ⟨rA, rn, rc, rfl⟩ := h.r
  obtain ⟨bA, bc, rfl⟩ : ∃ A k, bv = .slice A c.bl.length k := by obtain ⟨A, k, e, _⟩ := h.b; exact ⟨A, k, e⟩
  unfold codA at hbx HC hw1 ⊢
  have e0 : w1.cell? ⟨w.heap.size, 0, none⟩ = some (.string (str c.nm)) := hbx.cell 0
  have e1 : w1.cell? ⟨w.heap.size, 1, none⟩ = some (.int .i64 c.ty) := hbx.cell 1
  have e2 : w1.cell? ⟨w.heap.size, 2, none⟩ = some (.int .i64 c.pr) := hbx.cell 2
  have e3 : w1.cell? ⟨w.heap.size, 3, none⟩ = some (.slice rA rn rc) := hbx.cell 3
  have e4 : w1.cell? ⟨w.heap.size, 4, none⟩ = some (.slice bA c.bl.length bc) := hbx.cell 4
  have el := hbx.lt
  have HW := Lib.hid hw1
  have HB := Lib.hid hb1
  clear h hbx hw1 hb1
  go_enter Try.func17, Try.ntmps17
  go_upto_region 1 with (fail)
  rw [← HW.out]
  go_wp2_with fail
  refine HC.out.mono ?_
  rintro e w2 ⟨v, rfl, ⟨vA, vc, rfl⟩, h2⟩
  have H2 := Lib.hid h2
  clear h2 HC e0 e1 e2 e3 e4 el
  go_wp2_with fail
  refine H2.out.mono ?_
  rintro e w3 ⟨a, rfl, hg, hb3⟩
  obtain ⟨lo, hi, tb, vs, nv, bv, pv, ov, lv, dv, rfl, hp⟩ := hg.x
  have HF := Lib.hid (And.intro hp.p.o (HB.out.trans (hb3.mono HB.out.size)))
  clear hp hb3 H2 hg
  have f0 := fun W => run_fieldG0 (.slice (some ⟨tb, 0, none⟩) (tosC c).length (tosC c).length) nv bv pv ov lv dv W
  have f4 := fun W => run_fieldW4 (.slice (some ⟨tb, 0, none⟩) (tosC c).length (tosC c).length) nv bv pv ov W
  go_wp2_with fail
  go_ret
  exact ⟨_, rfl, HF.out.1, HF.out.2⟩
set_option maxHeartbeats 4000000 in
set_option maxRecDepth 100000 in
theorem dom_any {w : World} {c : Cod} {rv bv : Value} (h : CdD w c rv bv) :
    Calls Try.prog 18 #[.agg (codA c rv bv)] w fun e w' => ∃ v, e = .returned v ∧ RdV w' w'.heap.size v (domsM (tosC c) (walkM (tosC c))) ∧ Below w.heap.size w w' := by
  obtain ⟨w1, hw1⟩ : ∃ x, x = w.alloc (.cells (codA c rv bv) 34) := ⟨_, rfl⟩
  have hb1 : Below w.heap.size w w1 := by rw [hw1]; exact (Below.refl _ w).alloc (Nat.le_refl _) _
  have hbx : Blk w1 w.heap.size 34 (codA c rv bv) := by rw [hw1]; exact Blk.new w _ _
  have HC := Lib.hid (h.on hb1).calls
  obtain ⟨rA, rn, rc, rfl⟩ := h.r
  obtain ⟨bA, bc, rfl⟩ : ∃ A k, bv = .slice A c.bl.length k := by obtain ⟨A, k, e, _⟩ := h.b; exact ⟨A, k, e⟩
  unfold codA at hbx HC hw1 ⊢
  have e0 : w1.cell? ⟨w.heap.size, 0, none⟩ = some (.string (str c.nm)) := hbx.cell 0
  have e1 : w1.cell? ⟨w.heap.size, 1, none⟩ = some (.int .i64 c.ty) := hbx.cell 1
  have e2 : w1.cell? ⟨w.heap.size, 2, none⟩ = some (.int .i64 c.pr) := hbx.cell 2
  have e3 : w1.cell? ⟨w.heap.size, 3, none⟩ = some (.slice rA rn rc) := hbx.cell 3
  have e4 : w1.cell? ⟨w.heap.size, 4, none⟩ = some (.slice bA c.bl.length bc) := hbx.cell 4
  have el := hbx.lt
  have HW := Lib.hid hw1
  have HB := Lib.hid hb1
  clear h hbx hw1 hb1
  go_enter Try.func18, Try.ntmps18
  go_upto_region 1 with (fail)
  rw [← HW.out]
  go_wp2_with fail
  refine HC.out.mono ?_
  rintro e w2 ⟨v, rfl, ⟨vA, vc, rfl⟩, h2⟩
  have H2 := Lib.hid h2
  clear h2 HC e0 e1 e2 e3 e4 el
  go_wp2_with fail
  refine H2.out.mono ?_
  rintro e w3 ⟨a, rfl, hg, hb3⟩
  obtain ⟨lo, hi, tb, vs, nv, bv, pv, ov, lv, dv, rfl, hp⟩ := hg.x
  have HF := Lib.hid (And.intro hp.d (HB.out.trans (hb3.mono HB.out.size)))
  clear hp hb3 H2 hg
  have f0 := fun W => run_fieldG2 (.slice (some ⟨tb, 0, none⟩) (tosC c).length (tosC c).length) nv bv pv ov lv dv W
  go_wp2_with fail
  go_ret
  exact ⟨_, rfl, HF.out.1, HF.out.2⟩
set_option maxHeartbeats 4000000 in
set_option maxRecDepth 100000 in
theorem reducible_any {w : World} {c : Cod} {rv bv : Value} (h : CdD w c rv bv) :
    Calls Try.prog 16 #[.agg (codA c rv bv)] w fun e w' => e = .returned (.bool (gph (tosC c) (walkM (tosC c))).wrong.isNone) ∧ Below w.heap.size w w' := by
  obtain ⟨w1, hw1⟩ : ∃ x, x = w.alloc (.cells (codA c rv bv) 34) := ⟨_, rfl⟩
  have hb1 : Below w.heap.size w w1 := by rw [hw1]; exact (Below.refl _ w).alloc (Nat.le_refl _) _
  have hbx : Blk w1 w.heap.size 34 (codA c rv bv) := by rw [hw1]; exact Blk.new w _ _
  have HC := Lib.hid (h.on hb1).calls
  have HFI := Lib.hid (And.intro h.fin (And.intro h.wkc h.ne))
  obtain ⟨rA, rn, rc, rfl⟩ := h.r
  obtain ⟨bA, bc, rfl⟩ : ∃ A k, bv = .slice A c.bl.length k := by obtain ⟨A, k, e, _⟩ := h.b; exact ⟨A, k, e⟩
  unfold codA at hbx HC hw1 ⊢
  have e0 : w1.cell? ⟨w.heap.size, 0, none⟩ = some (.string (str c.nm)) := hbx.cell 0
  have e1 : w1.cell? ⟨w.heap.size, 1, none⟩ = some (.int .i64 c.ty) := hbx.cell 1
  have e2 : w1.cell? ⟨w.heap.size, 2, none⟩ = some (.int .i64 c.pr) := hbx.cell 2
  have e3 : w1.cell? ⟨w.heap.size, 3, none⟩ = some (.slice rA rn rc) := hbx.cell 3
  have e4 : w1.cell? ⟨w.heap.size, 4, none⟩ = some (.slice bA c.bl.length bc) := hbx.cell 4
  have el := hbx.lt
  have HW := Lib.hid hw1
  have HB := Lib.hid hb1
  clear h hbx hw1 hb1
  go_enter Try.func16, Try.ntmps16
  go_upto_region 1 with (fail)
  rw [← HW.out]
  go_wp2_with fail
  refine HC.out.mono ?_
  rintro e w2 ⟨v, rfl, ⟨vA, vc, rfl⟩, h2⟩
  have H2 := Lib.hid h2
  clear h2 HC e0 e1 e2 e3 e4 el
  go_wp2_with fail
  refine H2.out.mono ?_
  rintro e w3 ⟨a, rfl, hg, hb3⟩
  have HW3 := Lib.hid (wrong_any hg HFI.out.1 HFI.out.2.1)
  have H3 := Lib.hid hb3
  clear hb3 H2 hg
  go_wp2_with fail
  refine HW3.out.mono ?_
  rintro e w4 ⟨rfl, hb4⟩
  have HF := Lib.hid (HB.out.trans ((H3.out.trans (hb4.mono H3.out.size)).mono HB.out.size))
  obtain ⟨R, hR⟩ : ∃ R, (gph (tosC c) (walkM (tosC c))).wrong = R := ⟨_, rfl⟩
  rw [hR]
  have HRR := Lib.hid hR
  clear hb4 HW3 H3 hR
  have hl0 : (0 : Int) < ((c.bl.length : Nat) : Int) := by have := List.length_pos_iff.2 HFI.out.2.2; omega
  cases R with
  | none =>
    unfold fromI toI
    go_wp2_with fail
    go_ret
    refine ⟨?_, HF.out⟩
    rw [HRR.out]
    rfl
  | some p =>
    have hp0 : ¬ ((p.1 : Nat) : Int) < 0 := by omega
    unfold fromI toI
    go_wp2_with fail
    go_ret
    refine ⟨?_, HF.out⟩
    rw [HRR.out]
    show Ending.returned (.bool (decide (((p.1 : Nat) : Int) < 0))) = _
    rw [decide_eq_false (Int.not_lt.2 hp0)]
    rfl
end Go.Proofs.Ytjmlpbnejcfnhaa
