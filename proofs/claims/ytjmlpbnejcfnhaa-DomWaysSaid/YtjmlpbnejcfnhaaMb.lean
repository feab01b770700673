/-
  Layer ir: walks of hasGlobal, hasPlace, haveBlocks, leadsTo. Layer ir: walks of head, instruction. Layer ir: walks of end, check. Layer ir: the walk of check. Layer ir: walks of mainOf, Check.
-/
import Derived.Test.YtjmlpbnejcfnhaaMa
/-! Ivg -/
namespace Go.Proofs.Ytjmlpbnejcfnhaa
open Go Go.RowKit
set_option linter.unusedVariables false
set_option linter.unusedSimpArgs false

theorem hasGlobal_any (m : Mdl) (f : Cod) (n : Int) (cb : Nat) (w : World) (hc : CkV w cb m f) :
    Calls Try.prog 63 #[.pointer (some ⟨cb, 0, none⟩), .int .i64 n] w fun e w' => e = .returned (.bool (inR m.g n)) ∧ w = w' := by
  obtain ⟨gv, fv, rv, bv, hb, hm, -, -⟩ := hc.x
  obtain ⟨A, c, rfl, hlc, hcm, hA0⟩ := hm.g.sl
  have c0 : w.cell? ⟨cb, 0, none⟩ = some (.slice A m.g.length c) := hb.cell 0
  have cl := hb.lt
  clear hc hb hm
  by_cases h0 : n < 0
  · rw [inR_neg h0]
    have d1 : decide (0 ≤ n) = false := by simp; omega
    clear h0
    go_enter Try.func63, Try.ntmps63
    go_wp2
    go_ret
    exact ⟨rfl, rfl⟩
  · have d1 : decide (0 ≤ n) = true := by simp; omega
    by_cases h1 : (m.g.length : Int) ≤ n
    · rw [inR_big h1]
      have d2 : decide (n < (m.g.length : Int)) = false := by simp; omega
      clear h0 h1
      go_enter Try.func63, Try.ntmps63
      go_wp2
      go_ret
      exact ⟨rfl, rfl⟩
    · rw [inR_true (by omega) (by omega)]
      have d2 : decide (n < (m.g.length : Int)) = true := by simp; omega
      clear h0 h1
      go_enter Try.func63, Try.ntmps63
      go_wp2
      go_ret
      exact ⟨rfl, rfl⟩
set_option maxHeartbeats 1000000 in
theorem haveBlocks_any (m : Mdl) (f : Cod) (l : List Int) (v : Value) (cb : Nat) (w : World) (hc : CkV w cb m f) (hv : IsI w w.heap.size v l) :
    Calls Try.prog 64 #[.pointer (some ⟨cb, 0, none⟩), v] w fun e w' => e = .returned (.bool (l.all (inR f.bl))) ∧ w = w' := by
  obtain ⟨A, c, rfl, hlc, hcm, hA0⟩ := hv.sl
  unfold maxLen at hcm
  obtain ⟨n, hn⟩ : ∃ n, l.length = n := ⟨_, rfl⟩
  obtain ⟨gv, fv, rv, bv, hb, -, -, hbi⟩ := hc.x
  obtain ⟨bA, bc, rfl, hbl, hbm, hbA⟩ := hbi.sl
  have HV := Lib.hid hv
  have HN := Lib.hid hn
  obtain ⟨res, hres⟩ : ∃ r, l.all (inR f.bl) = r := ⟨_, rfl⟩
  have HRES := Lib.hid hres
  rw [hres]
  rw [hn] at hlc ⊢
  have c6 : w.cell? ⟨cb, 6, none⟩ = some (.slice bA f.bl.length bc) := hb.cell 6
  have cl := hb.lt
  clear hc hv hb hbi hn hres
  go_enter Try.func64, Try.ntmps64
  go_wp2_with fail
  go_loop [9] (fun v => ∃ j : Nat, j ≤ n ∧ v = .int .i64 j ∧ (l.take j).all (inR f.bl) = true) (fun v => n - (intOf v).toNat)
  case atStart => exact ⟨0, by omega, rfl, by simp⟩
  case round =>
    obtain ⟨j, hj, rfl, hal⟩ := hrel
    have HAL := Lib.hid hal
    clear hal
    by_cases hlt : j < n
    · have hjl : j < l.length := by rw [HN.out]; exact hlt
      obtain ⟨g, o, c9, hv9, hg, -, -, hx0, -⟩ := HV.out.at hjl
      simp only [Value.slice.injEq] at hv9
      obtain ⟨rfl, -, -⟩ := hv9
      have x0 : w.cell? ⟨g, o + j, none⟩ = some (.int .i64 l[j]) := by simpa using hx0
      have hts := all_take_succ (inR f.bl) l j hjl
      have HTS := Lib.hid hts
      have hlt' : (j : Int) < n := by omega
      clear hts hx0
      generalize l[j] = r at *
      by_cases h1 : r < 0
      · have d1 : decide (r < 0) = true := by simpa using h1
        have HI := Lib.hid (inR_neg (l := f.bl) h1)
        clear h1
        go_wp2_with fail
        go_ret
        refine ⟨?_, rfl⟩
        rw [← HRES.out, all_take_false _ l (j + 1) (by rw [HTS.out, HAL.out, HI.out]; rfl)]
        rfl
      · have d1 : decide (r < 0) = false := by simpa using h1
        by_cases h2 : (f.bl.length : Int) ≤ r
        · have d2 : decide ((f.bl.length : Int) ≤ r) = true := by simpa using h2
          have HI := Lib.hid (inR_big (l := f.bl) h2)
          clear h1 h2
          go_wp2_with fail
          go_ret
          refine ⟨?_, rfl⟩
          rw [← HRES.out, all_take_false _ l (j + 1) (by rw [HTS.out, HAL.out, HI.out]; rfl)]
          rfl
        · have d2 : decide ((f.bl.length : Int) ≤ r) = false := by simpa using h2
          have HI := Lib.hid (inR_true (l := f.bl) (i := r) (by omega) (by omega))
          clear h1 h2
          go_wp2_with fail
          go_round
          case rel => exact ⟨j + 1, by omega, by go_num, by rw [HTS.out, HAL.out, HI.out]; rfl⟩
          case measure => simp [intOf]; omega
    · obtain rfl : n = j := by omega
      go_wp2_with fail
      go_ret
      refine ⟨?_, rfl⟩
      rw [← HRES.out]
      have := HAL.out
      rw [List.take_of_length_le (by rw [HN.out]; exact Nat.le_refl _)] at this
      rw [this]
      rfl
def leadM (f : Cod) (bl : List Int) (nl : List (Int × (Int → Bool))) : Int := if (bl.all (inR f.bl) && existL f nl) = false then 11 else if fitL f nl = false then 6 else 0
set_option maxHeartbeats 1000000 in
theorem leadsTo_any (m : Mdl) (f : Cod) (bl : List Int) (nl : List (Int × (Int → Bool))) (v v2 : Value) (cb : Nat) (w : World) (hc : CkV w cb m f) (hv : IsI w w.heap.size v bl) (hv2 : IsNd w True v2 nl) :
    Calls Try.prog 44 #[.pointer (some ⟨cb, 0, none⟩), v, v2] w fun e w' => e = .returned (.int .i64 (leadM f bl nl)) ∧ Below w.heap.size w w' := by
  obtain ⟨A, c, rfl, -⟩ := hv.sl
  obtain ⟨A2, c2, rfl, -⟩ := hv2.sl
  obtain ⟨x, hx⟩ : ∃ x, bl.all (inR f.bl) = x := ⟨_, rfl⟩
  obtain ⟨y, hy⟩ : ∃ y, existL f nl = y := ⟨_, rfl⟩
  obtain ⟨z, hz⟩ : ∃ z, fitL f nl = z := ⟨_, rfl⟩
  have H1 := Lib.hid (haveBlocks_any m f bl _ cb w hc hv)
  have H2 := Lib.hid (exist_any m f nl _ True cb w hc hv2)
  have H3 : Hid (y = true → ∀ W, Below w.heap.size w W → Calls Try.prog 43 #[.pointer (some ⟨cb, 0, none⟩), .slice A2 nl.length c2] W fun e w' => e = .returned (.bool z) ∧ Below W.heap.size W w') := Lib.hid fun h W hW => by rw [← hz]; exact fit_any m f nl _ True trivial (by rw [hy]; exact h) cb W (hc.on hW) (hv2.on hW)
  rw [hx] at H1
  rw [hy] at H2
  unfold leadM
  rw [hx, hy, hz]
  obtain ⟨r, hr⟩ : ∃ r : Int, (if (x && y) = false then (11 : Int) else if z = false then 6 else 0) = r := ⟨_, rfl⟩
  rw [hr]
  have HR := Lib.hid hr
  clear hx hy hz hc hv hv2 hr
  go_enter Try.func44, Try.ntmps44
  cases x
  · go_wp2_with fail
    refine H1.out.mono ?_
    rintro e w1 ⟨rfl, rfl⟩
    clear H1
    go_wp2_with fail
    go_ret
    exact ⟨by rw [← HR.out]; rfl, Below.refl _ _⟩
  · go_wp2_with fail
    refine H1.out.mono ?_
    rintro e w1 ⟨rfl, rfl⟩
    clear H1
    cases y
    · go_wp2_with fail
      refine H2.out.mono ?_
      rintro e w2 ⟨rfl, hb2⟩
      have HB2 := Lib.hid hb2
      clear hb2 H2
      go_wp2_with fail
      go_ret
      exact ⟨by rw [← HR.out]; rfl, HB2.out⟩
    · go_wp2_with fail
      refine H2.out.mono ?_
      rintro e w2 ⟨rfl, hb2⟩
      have HB2 := Lib.hid hb2
      clear hb2 H2
      go_wp2_with fail
      refine (H3.out (by first | rfl | trivial) _ HB2.out).mono ?_
      rintro e w3 ⟨rfl, hb3⟩
      have HB3 := Lib.hid (HB2.out.trans (hb3.mono HB2.out.size))
      clear hb3
      cases z
      all_goals
        go_wp2_with fail
        go_ret
        exact ⟨by rw [← HR.out]; rfl, HB3.out⟩

/-! places -/
theorem placeI_1 {m : Mdl} {f : Cod} {i : Ins} (h : i.op = 1) : placeI m f i = (wr (at0 f.regs i.dst) i.n == i.n) := by simp [placeI, h]
theorem placeI_5 {m : Mdl} {f : Cod} {i : Ins} (h : i.op = 5 ∨ i.op = 6) : placeI m f i = (inR m.g i.n && decide (0 < (gAt m i.n).sz)) := by
  unfold placeI; rw [if_neg (by omega), if_pos h]
theorem placeI_7 {m : Mdl} {f : Cod} {i : Ins} (h : i.op = 7 ∨ i.op = 8) : placeI m f i = (inR m.g i.n && (gAt m i.n).sz == 0) := by
  unfold placeI; rw [if_neg (by omega), if_neg (by omega), if_pos h]
theorem placeI_9 {m : Mdl} {f : Cod} {i : Ins} (h : i.op = 9) : placeI m f i = (inR m.f i.n && decide ((fAt m i.n).pr ≤ ((fAt m i.n).regs.length : Int))) := by
  unfold placeI; rw [if_neg (by omega), if_neg (by omega), if_neg (by omega), if_pos h]
theorem placeI_o {m : Mdl} {f : Cod} {i : Ins} (h : i.op ≠ 1 ∧ i.op ≠ 5 ∧ i.op ≠ 6 ∧ i.op ≠ 7 ∧ i.op ≠ 8 ∧ i.op ≠ 9) : placeI m f i = true := by
  unfold placeI; rw [if_neg (by omega), if_neg (by omega), if_neg (by omega), if_neg (by omega)]
/-- The cells of an instruction's own box. -/
theorem insBox {W : World} {b : Nat} {i : Ins} {av : Value} (h : Blk W b tIn (insA i av)) : W.cell? ⟨b, 0, none⟩ = some (.int .i64 i.op) ∧ W.cell? ⟨b, 1, none⟩ = some (.int .i64 i.ty) ∧ W.cell? ⟨b, 2, none⟩ = some (.int .i64 i.dst) ∧ W.cell? ⟨b, 3, none⟩ = some (.int .i64 i.a) ∧
    W.cell? ⟨b, 4, none⟩ = some (.int .i64 i.b) ∧ W.cell? ⟨b, 5, none⟩ = some (.int .i64 i.n) ∧ W.cell? ⟨b, 6, none⟩ = some (.string (str i.s)) ∧ W.cell? ⟨b, 7, none⟩ = some av ∧ b < W.heap.size :=
  ⟨h.cell 0, h.cell 1, h.cell 2, h.cell 3, h.cell 4, h.cell 5, h.cell 6, h.cell 7, h.lt⟩
theorem regs_wf {w : World} {B : Nat} {v : Value} {l : List Int} (h : IsI w B v l) : ∀ x ∈ l, iw x := fun x hx => by
  obtain ⟨k, hk, rfl⟩ := List.getElem_of_mem hx
  obtain ⟨_, _, _, _, _, _, _, -, h2⟩ := h.at hk
  exact h2
set_option maxHeartbeats 4000000 in
set_option maxRecDepth 100000 in
theorem hasPlace_any (m : Mdl) (f : Cod) (i : Ins) (av : Value) (cb : Nat) (w : World) (hc : CkV w cb m f) (hex : existL f (needL m f i) = true) :
    Calls Try.prog 42 #[.pointer (some ⟨cb, 0, none⟩), .agg (insA i av)] w fun e w' => e = .returned (.bool (placeI m f i)) ∧ Below w.heap.size w w' := by
  have hb1 : Below w.heap.size w (w.alloc (.cells (insA i av) tIn)) := (Below.refl _ _).alloc (Nat.le_refl _) _
  have hc1 := hc.on hb1
  have hq := Blk.new w tIn (insA i av)
  have HB1 := Lib.hid hb1
  have HC1 := Lib.hid hc1
  have HQ := Lib.hid hq
  have HEX := Lib.hid hex
  obtain ⟨res, hres⟩ : ∃ r, placeI m f i = r := ⟨_, rfl⟩
  have HRES := Lib.hid hres
  rw [hres]
  clear hc hb1 hc1 hq hex hres
  unfold insA at HB1 HC1 HQ ⊢
  obtain ⟨op, ty, dst, a, b, n, s, args⟩ := i
  simp only at HB1 HC1 HQ ⊢
  go_enter Try.func42, Try.ntmps42
  go_upto_region 1 with (fail)
  generalize w.alloc (.cells #[.int .i64 op, .int .i64 ty, .int .i64 dst, .int .i64 a, .int .i64 b, .int .i64 n, .string (str s), av] tIn) = W1 at *
  obtain ⟨q0, -, q2, -, -, q5, -, -, ql⟩ := insBox (i := ⟨op, ty, dst, a, b, n, s, args⟩) HQ.out
  simp only at q0 q2 q5
  obtain ⟨gv, fv, rv, bv, hb, hm, hri, -⟩ := HC1.out.x
  have HM := Lib.hid hm
  have HRI := Lib.hid hri
  obtain ⟨c0, c1, c5, cl⟩ : W1.cell? ⟨cb, 0, none⟩ = some gv ∧ W1.cell? ⟨cb, 1, none⟩ = some fv ∧ W1.cell? ⟨cb, 5, none⟩ = some rv ∧ cb < W1.heap.size := ⟨hb.cell 0, hb.cell 1, hb.cell 5, hb.lt⟩
  clear hb hm hri
  have HHG : Hid (∀ W, Below W1.heap.size W1 W → Calls Try.prog 63 #[.pointer (some ⟨cb, 0, none⟩), .int .i64 n] W fun e w' => e = .returned (.bool (inR m.g n)) ∧ W = w') := Lib.hid fun W hW => hasGlobal_any m f n cb W (HC1.out.on hW)
  by_cases h1 : op = 1
  · subst h1
    have hr : inR f.regs dst = true := by have := HEX.out; simpa [existL, needL] using this
    obtain ⟨k, rfl, hk⟩ := inR_nat hr
    obtain ⟨g, o, c, rfl, hg, -, -, hx, hxw⟩ := HRI.out.at hk
    have x0 : W1.cell? ⟨g, o + k, none⟩ = some (.int .i64 f.regs[k]) := by simpa using hx
    have hlt : (k : Int) < f.regs.length := by omega
    have hpl := placeI_1 (m := m) (f := f) (i := ⟨1, ty, (k : Nat), a, b, n, s, args⟩) rfl
    rw [at0_lt hk] at hpl
    have HW : Hid (∀ W, Calls Try.prog 62 #[.int .i64 f.regs[k], .int .i64 n] W fun e w' => e = .returned (.int .i64 (wr f.regs[k] n)) ∧ Below W.heap.size W w') := Lib.hid fun W => wrap_any _ n W hxw
    have HPL := Lib.hid hpl
    clear hpl hx hxw hr
    generalize f.regs[k] = tv at *
    obtain ⟨z, hz⟩ : ∃ z, wr tv n = z := ⟨_, rfl⟩
    rw [hz] at HW HPL
    clear hz
    have J : Below W1.heap.size W1 W1 := Below.refl _ _
    have HS : Hid (∀ Wx, Below W1.heap.size W1 Wx → Wx.cell? ⟨cb, 5, none⟩ = some (.slice (some ⟨g, o, none⟩) f.regs.length c) ∧ Wx.cell? ⟨w.heap.size, 2, none⟩ = some (.int .i64 (k : Nat)) ∧ Wx.cell? ⟨g, o + k, none⟩ = some (.int .i64 tv) ∧ Wx.cell? ⟨w.heap.size, 5, none⟩ = some (.int .i64 n) ∧ cb < Wx.heap.size ∧ w.heap.size < Wx.heap.size ∧ g < Wx.heap.size) := Lib.hid fun Wx h => by
      have hz := h.size
      exact ⟨(h.cell (p := ⟨cb, 5, none⟩) cl).trans c5, (h.cell (p := ⟨w.heap.size, 2, none⟩) ql).trans q2, (h.cell (p := ⟨g, o + k, none⟩) hg).trans x0, (h.cell (p := ⟨w.heap.size, 5, none⟩) ql).trans q5, by omega, by omega, by omega⟩
    go_upto_region 3 with (fail)
    go_region_held3 (fun Wx => Wx.cell? ⟨cb, 5, none⟩ = some (.slice (some ⟨g, o, none⟩) f.regs.length c) ∧ Wx.cell? ⟨w.heap.size, 2, none⟩ = some (.int .i64 (k : Nat)) ∧ Wx.cell? ⟨g, o + k, none⟩ = some (.int .i64 tv) ∧ Wx.cell? ⟨w.heap.size, 5, none⟩ = some (.int .i64 n) ∧ cb < Wx.heap.size ∧ w.heap.size < Wx.heap.size ∧ g < Wx.heap.size)
      (first | exact ⟨c5, q2, x0, q5, cl, ql, hg⟩ | exact HS.out _ J)
      (first
        | (go_at_call 62; (with_reducible refine Calls.mono (HW.out _) ?_); rintro e v1 ⟨rfl, b1⟩; have J : Below W1.heap.size W1 v1 := by first | exact J.trans (b1.mono J.size) | exact J.drew.trans (b1.mono J.drew.size)))
    all_goals
      have HJ := Lib.hid (HB1.out.trans (J.mono HB1.out.size))
      clear J
      go_wp2_with fail
      first
        | (refine ⟨?_, HJ.out⟩; rw [← HRES.out, HPL.out]; rfl)
        | (go_ret; refine ⟨?_, HJ.out⟩; rw [← HRES.out, HPL.out]; rfl)
  have d1 : (op == 1) = false := by simpa using h1
  by_cases h5 : op = 5 ∨ op = 6
  · have hpl := placeI_5 (m := m) (f := f) (i := ⟨op, ty, dst, a, b, n, s, args⟩) h5
    simp only at hpl
    cases hin : inR m.g n with
    | false =>
      rw [hin] at hpl HHG
      have HPL := Lib.hid hpl
      clear hpl hin
      rcases h5 with rfl | rfl
      all_goals
        go_upto_region 6 with (fail)
        go_quiet ((go_at_call 63; exact Calls.quiet_of_same ((HHG.out _ (below_drewN _ _ _)).mono fun _ _ h => ⟨h.1, h.2.symm⟩)))
        go_wp2_with fail
        go_ret
        exact ⟨by rw [← HRES.out, HPL.out]; rfl, HB1.out.trans (below_drewN _ _ _)⟩
    | true =>
      rw [hin] at hpl HHG
      obtain ⟨k, rfl, hk⟩ := inR_nat hin
      obtain ⟨g, o, c, rfl, hg, -, -, -, hx⟩ := HM.out.g.at hk
      have x0 : W1.cell? ⟨g, o + k * 4 + 2, none⟩ = some (.int .i64 m.g[k].sz) := hx 2 _ rfl
      rw [gAt_lt hk] at hpl
      have hlt : (k : Int) < m.g.length := by omega
      have HPL := Lib.hid hpl
      clear hpl hin hx
      generalize m.g[k].sz = sz at *
      obtain ⟨q, hq⟩ : ∃ q, decide (0 < sz) = q := ⟨_, rfl⟩
      rw [hq] at HPL
      rcases h5 with rfl | rfl
      all_goals
        cases q
        all_goals
          go_upto_region 6 with (fail)
          go_quiet ((go_at_call 63; exact Calls.quiet_of_same ((HHG.out _ (below_drewN _ _ _)).mono fun _ _ h => ⟨h.1, h.2.symm⟩)))
          go_wp2_with fail
          go_ret
          exact ⟨by rw [← HRES.out, HPL.out]; rfl, HB1.out.trans (below_drewN _ _ _)⟩
  have d5 : (op == 5) = false := by simp; omega
  have d6 : (op == 6) = false := by simp; omega
  by_cases h7 : op = 7 ∨ op = 8
  · have hpl := placeI_7 (m := m) (f := f) (i := ⟨op, ty, dst, a, b, n, s, args⟩) h7
    simp only at hpl
    cases hin : inR m.g n with
    | false =>
      rw [hin] at hpl HHG
      have HPL := Lib.hid hpl
      clear hpl hin
      rcases h7 with rfl | rfl
      all_goals
        go_upto_region 9 with (fail)
        go_quiet ((go_at_call 63; exact Calls.quiet_of_same ((HHG.out _ (below_drewN _ _ _)).mono fun _ _ h => ⟨h.1, h.2.symm⟩)))
        go_wp2_with fail
        go_ret
        exact ⟨by rw [← HRES.out, HPL.out]; rfl, HB1.out.trans (below_drewN _ _ _)⟩
    | true =>
      rw [hin] at hpl HHG
      obtain ⟨k, rfl, hk⟩ := inR_nat hin
      obtain ⟨g, o, c, rfl, hg, -, -, -, hx⟩ := HM.out.g.at hk
      have x0 : W1.cell? ⟨g, o + k * 4 + 2, none⟩ = some (.int .i64 m.g[k].sz) := hx 2 _ rfl
      rw [gAt_lt hk] at hpl
      have hlt : (k : Int) < m.g.length := by omega
      have HPL := Lib.hid hpl
      clear hpl hin hx
      generalize m.g[k].sz = sz at *
      obtain ⟨q, hq⟩ : ∃ q, (sz == 0) = q := ⟨_, rfl⟩
      rw [hq] at HPL
      rcases h7 with rfl | rfl
      all_goals
        cases q
        all_goals
          go_upto_region 9 with (fail)
          go_quiet ((go_at_call 63; exact Calls.quiet_of_same ((HHG.out _ (below_drewN _ _ _)).mono fun _ _ h => ⟨h.1, h.2.symm⟩)))
          go_wp2_with fail
          go_ret
          exact ⟨by rw [← HRES.out, HPL.out]; rfl, HB1.out.trans (below_drewN _ _ _)⟩
  have d7 : (op == 7) = false := by simp; omega
  have d8 : (op == 8) = false := by simp; omega
  by_cases h9 : op = 9
  · subst h9
    have hpl := placeI_9 (m := m) (f := f) (i := ⟨9, ty, dst, a, b, n, s, args⟩) rfl
    simp only at hpl
    cases hin : inR m.f n with
    | false =>
      rw [hin] at hpl
      have HPL := Lib.hid hpl
      obtain ⟨A, c, rfl, -⟩ := HM.out.f.sl
      by_cases h0 : n < 0
      · have e1 : decide (0 ≤ n) = false := by simp; omega
        clear hpl hin h0
        go_upto_region 11 with (fail)
        go_quiet (fail)
        go_wp2_with fail
        go_ret
        exact ⟨by rw [← HRES.out, HPL.out]; rfl, HB1.out.trans (below_drewN _ _ _)⟩
      · have e1 : decide (0 ≤ n) = true := by simp; omega
        have e2 : decide (n < (m.f.length : Int)) = false := by
          simp only [inR, e1, Bool.true_and] at hin
          exact hin
        clear hpl hin h0
        go_upto_region 11 with (fail)
        go_quiet (fail)
        go_wp2_with fail
        go_ret
        exact ⟨by rw [← HRES.out, HPL.out]; rfl, HB1.out.trans (below_drewN _ _ _)⟩
    | true =>
      rw [hin] at hpl
      obtain ⟨k, rfl, hk⟩ := inR_nat hin
      obtain ⟨g, o, c, rfl, hg, -, -, -, rv', bv', hri', -, hx⟩ := HM.out.f.at hk
      obtain ⟨rA, rc, rfl, -⟩ := hri'.sl
      rw [fAt_lt hk] at hpl
      have x0 : W1.cell? ⟨g, o + k * 5 + 2, none⟩ = some (.int .i64 m.f[k].pr) := hx 2 _ rfl
      have x1 : W1.cell? ⟨g, o + k * 5 + 3, none⟩ = some (.slice rA m.f[k].regs.length rc) := hx 3 _ rfl
      have hlt : (k : Int) < m.f.length := by omega
      have e1 : decide ((0 : Int) ≤ (k : Int)) = true := by simp
      have e2 : decide ((k : Int) < (m.f.length : Int)) = true := by simp; omega
      have e3 : decide (k < m.f.length) = true := by simp; omega
      have HPL := Lib.hid hpl
      clear hpl hin hx hri'
      generalize m.f[k].regs.length = rl at *
      generalize m.f[k].pr = pr at *
      obtain ⟨q, hq⟩ : ∃ q, decide (pr ≤ (rl : Int)) = q := ⟨_, rfl⟩
      rw [hq] at HPL
      cases q
      all_goals
        go_upto_region 11 with (fail)
        go_quiet (fail)
        go_wp2_with fail
        go_ret
        exact ⟨by rw [← HRES.out, HPL.out]; rfl, HB1.out.trans (below_drewN _ _ _)⟩
  have d9 : (op == 9) = false := by simp; omega
  have HPL := Lib.hid (placeI_o (m := m) (f := f) (i := ⟨op, ty, dst, a, b, n, s, args⟩) ⟨h1, by simp only; omega, by simp only; omega, by simp only; omega, by simp only; omega, h9⟩)
  clear h1 h5 h7 h9
  go_wp2_with fail
  go_ret
  exact ⟨by rw [← HRES.out, HPL.out]; rfl, HB1.out⟩
end Go.Proofs.Ytjmlpbnejcfnhaa
/-! Ivh -/
namespace Go.Proofs.Ytjmlpbnejcfnhaa
open Go Go.RowKit
set_option linter.unusedVariables false
set_option linter.unusedSimpArgs false

abbrev tCo : TypeId := 34
abbrev tBl : TypeId := 46
abbrev tEn : TypeId := 37
set_option maxHeartbeats 2000000 in
set_option maxRecDepth 100000 in
theorem head_any (m : Mdl) (f : Cod) (cb : Nat) (w : World) (hc : CkV w cb m f) :
    Calls Try.prog 29 #[.pointer (some ⟨cb, 0, none⟩)] w fun e w' => e = .returned (.int .i64 (chkH f)) ∧ Below w.heap.size w w' := by
  obtain ⟨gv, fv, rv, bv, hb, hm, hri, hbi⟩ := hc.x
  obtain ⟨rA, rc, rfl, hrl, hrm, hrA⟩ := hri.sl
  obtain ⟨bA, bc, rfl, hbl, hbm, hbA⟩ := hbi.sl
  unfold maxLen at hrm hbm
  obtain ⟨res, hres⟩ : ∃ r, chkH f = r := ⟨_, rfl⟩
  have HRES := Lib.hid hres
  rw [hres]
  have HRI := Lib.hid hri
  obtain ⟨c2, c3, c4, c5, c6, cl⟩ : w.cell? ⟨cb, 2, none⟩ = some (.string (str f.nm)) ∧ w.cell? ⟨cb, 3, none⟩ = some (.int .i64 f.ty) ∧ w.cell? ⟨cb, 4, none⟩ = some (.int .i64 f.pr) ∧ w.cell? ⟨cb, 5, none⟩ = some (.slice rA f.regs.length rc) ∧ w.cell? ⟨cb, 6, none⟩ = some (.slice bA f.bl.length bc) ∧ cb < w.heap.size :=
    ⟨hb.cell 2, hb.cell 3, hb.cell 4, hb.cell 5, hb.cell 6, hb.lt⟩
  have hb1 : Below w.heap.size w (w.alloc (.cells #[.string (str f.nm), .int .i64 f.ty, .int .i64 f.pr, .slice rA f.regs.length rc, .slice bA f.bl.length bc] tCo)) := (Below.refl _ _).alloc (Nat.le_refl _) _
  have hq := Blk.new w tCo #[.string (str f.nm), .int .i64 f.ty, .int .i64 f.pr, .slice rA f.regs.length rc, .slice bA f.bl.length bc]
  have HB1 := Lib.hid hb1
  have HQ := Lib.hid hq
  unfold chkH at HRES
  obtain ⟨nm, ty, pr, regs, bl⟩ := f
  simp only at HRES HRI c2 c3 c4 c5 c6 HB1 HQ hrl hbl
  obtain ⟨bn, hbn⟩ : ∃ n, bl.length = n := ⟨_, rfl⟩
  obtain ⟨rn, hrn⟩ : ∃ n, regs.length = n := ⟨_, rfl⟩
  have hbe : bl = [] ↔ bn = 0 := by rw [← hbn]; exact List.length_eq_zero_iff.symm
  simp only [hbn, hrn, hbe] at HRES
  rw [hbn] at c6 HB1 HQ hbl
  rw [hrn] at c5 HB1 HQ hrl
  have HRN := Lib.hid hrn
  clear hc hb hm hri hbi hres hb1 hq hbe hbn hrn
  go_enter Try.func29, Try.ntmps29
  go_upto_region 2 with (fail)
  generalize w.alloc (.cells #[.string (str nm), .int .i64 ty, .int .i64 pr, .slice rA rn rc, .slice bA bn bc] tCo) = W1 at *
  have q1 : W1.cell? ⟨w.heap.size, 1, none⟩ = some (.int .i64 ty) := HQ.out.cell 1
  have q2 : W1.cell? ⟨w.heap.size, 2, none⟩ = some (.int .i64 pr) := HQ.out.cell 2
  have q3 : W1.cell? ⟨w.heap.size, 3, none⟩ = some (.slice rA rn rc) := HQ.out.cell 3
  have q4 : W1.cell? ⟨w.heap.size, 4, none⟩ = some (.slice bA bn bc) := HQ.out.cell 4
  have ql := HQ.out.lt
  by_cases h1 : bn = 0
  · have HH := Lib.hid h1
    have d1 : ((bn : Int) == 0) = true := by simp; omega
    have d1' : (bn == 0) = true := by simp; omega
    clear h1
    go_wp2_with fail
    go_ret
    exact ⟨by rw [← HRES.out, if_pos (Or.inl HH.out)]; rfl, HB1.out⟩
  have d1 : ((bn : Int) == 0) = false := by simp; omega
  have d1' : (bn == 0) = false := by simp; omega
  by_cases h2 : 400 < bn
  · have HH := Lib.hid h2
    have d2 : decide ((400 : Int) < (bn : Int)) = true := by simp; omega
    have d2' : decide (400 < bn) = true := by simp; omega
    clear h1 h2
    go_wp2_with fail
    go_ret
    exact ⟨by rw [← HRES.out, if_pos (Or.inr (Or.inl HH.out))]; rfl, HB1.out⟩
  have d2 : decide ((400 : Int) < (bn : Int)) = false := by simp; omega
  have d2' : decide (400 < bn) = false := by simp; omega
  by_cases h3 : 4096 < rn
  · have HH := Lib.hid h3
    have d3 : decide ((4096 : Int) < (rn : Int)) = true := by simp; omega
    have d3' : decide (4096 < rn) = true := by simp; omega
    clear h1 h2 h3
    go_wp2_with fail
    go_ret
    exact ⟨by rw [← HRES.out, if_pos (Or.inr (Or.inr HH.out))]; rfl, HB1.out⟩
  have d3 : decide ((4096 : Int) < (rn : Int)) = false := by simp; omega
  have d3' : decide (4096 < rn) = false := by simp; omega
  have hn1 : ¬ (bn = 0 ∨ 400 < bn ∨ 4096 < rn) := by omega
  have HN1 := Lib.hid hn1
  clear h1 h2 hn1
  by_cases h4 : pr < 0
  · have HH := Lib.hid h4
    have d4 : decide (pr < 0) = true := by simpa using h4
    clear h4 h3
    go_wp2_with fail
    go_ret
    exact ⟨by rw [← HRES.out, if_neg HN1.out, if_pos (Or.inl HH.out)]; rfl, HB1.out⟩
  have d4 : decide (pr < 0) = false := by simpa using h4
  by_cases h5 : (rn : Int) < pr
  · have HH := Lib.hid h5
    have d5 : decide ((rn : Int) < pr) = true := by simpa using h5
    clear h4 h5 h3
    go_wp2_with fail
    go_ret
    exact ⟨by rw [← HRES.out, if_neg HN1.out, if_pos (Or.inr HH.out)]; rfl, HB1.out⟩
  have d5 : decide ((rn : Int) < pr) = false := by simpa using h5
  have hn2 : ¬ (pr < 0 ∨ (rn : Int) < pr) := by omega
  have HN2 := Lib.hid hn2
  have hr3 : rn ≤ 4096 := by omega
  clear h3 h4 h5 hn2
  have HRI1 := Lib.hid (HRI.out.below HB1.out)
  go_wp2_with fail
  go_loop [40] (fun v => ∃ j : Nat, j ≤ rn ∧ v = .int .i64 j ∧ (regs.take j).all isV = true) (fun v => rn - (intOf v).toNat)
  case atStart => exact ⟨0, by omega, rfl, by simp⟩
  case round =>
    obtain ⟨j, hj, rfl, hal⟩ := hrel
    have HAL := Lib.hid hal
    clear hal
    by_cases hlt : j < rn
    · have hjl : j < regs.length := by rw [HRN.out]; exact hlt
      obtain ⟨g, o, c9, hv9, hg, -, -, hx0, -⟩ := HRI1.out.at hjl
      simp only [Value.slice.injEq] at hv9
      obtain ⟨rfl, -, -⟩ := hv9
      have x0 : W1.cell? ⟨g, o + j, none⟩ = some (.int .i64 regs[j]) := by simpa using hx0
      have hts := all_take_succ isV regs j hjl
      have HTS := Lib.hid hts
      have hlt' : (j : Int) < rn := by omega
      clear hts hx0
      generalize regs[j] = r at *
      obtain ⟨q, hq⟩ : ∃ q, isV r = q := ⟨_, rfl⟩
      have HV : Hid (∀ W, Calls Try.prog 20 #[.int .i64 r] W fun e w' => e = .returned (.bool q) ∧ W = w') := Lib.hid fun W => by rw [← hq]; exact isValue_any r W
      rw [hq] at HTS
      clear hq
      cases q
      · go_wp2_with fail
        refine (HV.out _).mono ?_
        rintro e w2 ⟨rfl, rfl⟩
        go_wp2_with fail
        go_ret
        exact ⟨by rw [← HRES.out, if_neg HN1.out, if_neg HN2.out, if_pos (all_take_false isV regs (j + 1) (by rw [HTS.out]; simp))]; rfl, HB1.out⟩
      · go_wp2_with fail
        refine (HV.out _).mono ?_
        rintro e w2 ⟨rfl, rfl⟩
        go_wp2_with fail
        go_round
        case rel => exact ⟨j + 1, by omega, by go_num, by rw [HTS.out, HAL.out]; rfl⟩
        case measure => simp [intOf]; omega
    · obtain rfl : rn = j := by omega
      have hall : regs.all isV = true := by
        have := HAL.out
        rw [List.take_of_length_le (by rw [HRN.out]; exact Nat.le_refl _)] at this
        exact this
      have HN3 : Hid (¬ regs.all isV = false) := Lib.hid (by rw [hall]; simp)
      clear hall
      obtain ⟨q, hq⟩ : ∃ q, isV ty = q := ⟨_, rfl⟩
      have HV : Hid (∀ W, Calls Try.prog 20 #[.int .i64 ty] W fun e w' => e = .returned (.bool q) ∧ W = w') := Lib.hid fun W => by rw [← hq]; exact isValue_any ty W
      rw [hq] at HRES
      clear hq
      cases q
      · by_cases h0 : ty = 0
        · have d0 : (ty != 0) = false := by simpa using h0
          have HH := Lib.hid h0
          clear h0
          go_wp2_with fail
          refine (HV.out _).mono ?_
          rintro e w2 ⟨rfl, rfl⟩
          go_wp2_with fail
          go_ret
          exact ⟨by rw [← HRES.out, if_neg HN1.out, if_neg HN2.out, if_neg HN3.out, if_neg (by rw [HH.out]; simp)]; rfl, HB1.out⟩
        · have d0 : (ty != 0) = true := by simpa using h0
          have HH := Lib.hid h0
          clear h0
          go_wp2_with fail
          refine (HV.out _).mono ?_
          rintro e w2 ⟨rfl, rfl⟩
          go_wp2_with fail
          go_ret
          exact ⟨by rw [← HRES.out, if_neg HN1.out, if_neg HN2.out, if_neg HN3.out, if_pos (by have := HH.out; simp; exact this)]; rfl, HB1.out⟩
      · go_wp2_with fail
        refine (HV.out _).mono ?_
        rintro e w2 ⟨rfl, rfl⟩
        go_wp2_with fail
        go_ret
        exact ⟨by rw [← HRES.out, if_neg HN1.out, if_neg HN2.out, if_neg HN3.out, if_neg (by simp)]; rfl, HB1.out⟩

theorem hasForm_op {i : Ins} (h : hasForm i = true) : 1 ≤ i.op ∧ i.op ≤ 11 := by
  unfold hasForm at h
  split at h
  · omega
  · split at h
    · omega
    · simpa using h
theorem chkI_2 {m : Mdl} {f : Cod} {i : Ins} (h : hasForm i = false) : chkI m f i = 2 := by unfold chkI; rw [if_pos h]
theorem chkI_11 {m : Mdl} {f : Cod} {i : Ins} (h : hasForm i = true) (h1 : (existL f (needL m f i) && placeI m f i) = false) : chkI m f i = 11 := by unfold chkI; rw [if_neg (by rw [h]; simp), if_pos h1]
theorem chkI_7 {m : Mdl} {f : Cod} {i : Ins} (h : hasForm i = true) (h1 : (existL f (needL m f i) && placeI m f i) = true) (h2 : i.op = 9 ∧ (i.args.length : Int) ≠ (fAt m i.n).pr) : chkI m f i = 7 := by unfold chkI; rw [if_neg (by rw [h]; simp), if_neg (by rw [h1]; simp), if_pos h2]
theorem chkI_6 {m : Mdl} {f : Cod} {i : Ins} (h : hasForm i = true) (h1 : (existL f (needL m f i) && placeI m f i) = true) (h2 : ¬ (i.op = 9 ∧ (i.args.length : Int) ≠ (fAt m i.n).pr)) (h3 : fitL f (needL m f i) = false) : chkI m f i = 6 := by unfold chkI; rw [if_neg (by rw [h]; simp), if_neg (by rw [h1]; simp), if_neg h2, if_pos h3]
theorem chkI_0 {m : Mdl} {f : Cod} {i : Ins} (h : hasForm i = true) (h1 : (existL f (needL m f i) && placeI m f i) = true) (h2 : ¬ (i.op = 9 ∧ (i.args.length : Int) ≠ (fAt m i.n).pr)) (h3 : fitL f (needL m f i) = true) : chkI m f i = 0 := by unfold chkI; rw [if_neg (by rw [h]; simp), if_neg (by rw [h1]; simp), if_neg h2, if_neg (by rw [h3]; simp)]
set_option maxHeartbeats 4000000 in
set_option maxRecDepth 100000 in
theorem instr_any (m : Mdl) (f : Cod) (i : Ins) (av : Value) (cb : Nat) (w : World) (hc : CkV w cb m f) (ha : IsI w w.heap.size av i.args) (hal : i.args.length ≤ 17592186043904) :
    Calls Try.prog 30 #[.pointer (some ⟨cb, 0, none⟩), .agg (insA i av)] w fun e w' => e = .returned (.int .i64 (chkI m f i)) ∧ Below w.heap.size w w' := by
  have hb1 : Below w.heap.size w (w.alloc (.cells (insA i av) tIn)) := (Below.refl _ _).alloc (Nat.le_refl _) _
  have HB1 := Lib.hid hb1
  have HC1 := Lib.hid (hc.on hb1)
  have HQ := Lib.hid (Blk.new w tIn (insA i av))
  have HA1 := Lib.hid (ha.on hb1)
  obtain ⟨res, hres⟩ : ∃ r, chkI m f i = r := ⟨_, rfl⟩
  have HRES := Lib.hid hres
  rw [hres]
  have HF : Hid (∀ W, Calls Try.prog 39 #[.agg (insA i av)] W fun e w' => e = .returned (.bool (hasForm i)) ∧ Below W.heap.size W w') := Lib.hid fun W => hasForm_any i av W
  have HN : Hid (1 ≤ i.op ∧ i.op ≤ 11 → ∀ W, Below w.heap.size w W → Calls Try.prog 40 #[.pointer (some ⟨cb, 0, none⟩), .agg (insA i av)] W (NeedsPost W m f i)) := Lib.hid fun ho W hW => needs_any m f i av cb W (hc.on hW) (ha.on hW) hal ho
  have HE : Hid (∀ W v, Below w.heap.size w W → IsNd W (OkI m f i) v (needL m f i) → Calls Try.prog 41 #[.pointer (some ⟨cb, 0, none⟩), v] W fun e w' => e = .returned (.bool (existL f (needL m f i))) ∧ Below W.heap.size W w') := Lib.hid fun W v hW hv => exist_any m f _ v _ cb W (hc.on hW) hv
  have HP : Hid (existL f (needL m f i) = true → ∀ W, Below w.heap.size w W → Calls Try.prog 42 #[.pointer (some ⟨cb, 0, none⟩), .agg (insA i av)] W fun e w' => e = .returned (.bool (placeI m f i)) ∧ Below W.heap.size W w') := Lib.hid fun hx W hW => hasPlace_any m f i av cb W (hc.on hW) hx
  have HT : Hid (OkI m f i → ∀ W v, Below w.heap.size w W → IsNd W (OkI m f i) v (needL m f i) → Calls Try.prog 43 #[.pointer (some ⟨cb, 0, none⟩), v] W fun e w' => e = .returned (.bool (fitL f (needL m f i))) ∧ Below W.heap.size W w') := Lib.hid fun ho W v hW hv => fit_any m f _ v _ ho (Bool.and_eq_true _ _ ▸ ho.1).1 cb W (hc.on hW) hv
  obtain ⟨A0, c0, rfl, -⟩ := ha.sl
  clear hc ha hb1 hres
  unfold insA at HB1 HC1 HQ HA1 HF HN HP ⊢
  obtain ⟨op, ty, dst, a, b, n, s, args⟩ := i
  simp only at HB1 HC1 HQ HA1 HF HN HP hal ⊢
  obtain ⟨al, hal2⟩ : ∃ al, args.length = al := ⟨_, rfl⟩
  rw [hal2] at HB1 HC1 HQ HA1 HF HN HP ⊢
  have HAL := Lib.hid hal2
  clear hal2 hal
  go_enter Try.func30, Try.ntmps30
  go_upto_region 1 with (fail)
  generalize w.alloc (.cells #[.int .i64 op, .int .i64 ty, .int .i64 dst, .int .i64 a, .int .i64 b, .int .i64 n, .string (str s), .slice A0 al c0] tIn) = W1 at *
  have q0 : W1.cell? ⟨w.heap.size, 0, none⟩ = some (.int .i64 op) := HQ.out.cell 0
  have q1 : W1.cell? ⟨w.heap.size, 1, none⟩ = some (.int .i64 ty) := HQ.out.cell 1
  have q2 : W1.cell? ⟨w.heap.size, 2, none⟩ = some (.int .i64 dst) := HQ.out.cell 2
  have q3 : W1.cell? ⟨w.heap.size, 3, none⟩ = some (.int .i64 a) := HQ.out.cell 3
  have q4 : W1.cell? ⟨w.heap.size, 4, none⟩ = some (.int .i64 b) := HQ.out.cell 4
  have q5 : W1.cell? ⟨w.heap.size, 5, none⟩ = some (.int .i64 n) := HQ.out.cell 5
  have q6 : W1.cell? ⟨w.heap.size, 6, none⟩ = some (.string (str s)) := HQ.out.cell 6
  have q7 : W1.cell? ⟨w.heap.size, 7, none⟩ = some (.slice A0 al c0) := HQ.out.cell 7
  have ql := HQ.out.lt
  obtain ⟨hf, hhf⟩ : ∃ x, hasForm ⟨op, ty, dst, a, b, n, s, args⟩ = x := ⟨_, rfl⟩
  have HHF := Lib.hid hhf
  rw [hhf] at HF
  clear hhf
  cases hf
  · go_wp2_with fail
    refine (HF.out _).mono ?_
    rintro e w2 ⟨rfl, hb2⟩
    have HB2 := Lib.hid (HB1.out.trans (hb2.mono HB1.out.size))
    clear hb2
    go_wp2_with fail
    go_ret
    exact ⟨by rw [← HRES.out, chkI_2 HHF.out]; rfl, HB2.out⟩
  · have HOP := Lib.hid (hasForm_op HHF.out)
    go_wp2_with fail
    refine (HF.out _).mono ?_
    rintro e w2 ⟨rfl, hb2⟩
    have keepQ : ∀ W : World, Below W1.heap.size W1 W → Blk W w.heap.size tIn #[.int .i64 op, .int .i64 ty, .int .i64 dst, .int .i64 a, .int .i64 b, .int .i64 n, .string (str s), .slice A0 al c0] := fun W h => (h.block _ HQ.out.lt).trans HQ.out
    have HK := Lib.hid keepQ
    clear keepQ
    have HB2 := Lib.hid hb2
    have hq2 := HK.out _ hb2
    clear hb2 q0 q1 q2 q3 q4 q5 q6 q7 ql
    obtain ⟨q0, q1, q2, q3, q4, q5, q6, q7, ql⟩ := insBox (i := ⟨op, ty, dst, a, b, n, s, args⟩) (show Blk w2 w.heap.size tIn (insA ⟨op, ty, dst, a, b, n, s, args⟩ (.slice A0 al c0)) from hq2)
    simp only at q0 q1 q2 q3 q4 q5 q6 q7
    clear hq2
    have HB2w := Lib.hid (HB1.out.trans (HB2.out.mono HB1.out.size))
    go_wp2_with fail
    refine (HN.out HOP.out _ HB2w.out).mono ?_
    rintro e w3 ⟨v, rfl, hv, hb3⟩
    obtain ⟨A3, c3, rfl, -⟩ := hv.sl
    have HB3 := Lib.hid (HB2.out.trans (hb3.mono HB2.out.size))
    have HB3w := Lib.hid (HB1.out.trans (HB3.out.mono HB1.out.size))
    have HV := Lib.hid hv
    clear hb3 hv q0 q1 q2 q3 q4 q5 q6 q7 ql
    obtain ⟨x, hx⟩ : ∃ x, existL f (needL m f ⟨op, ty, dst, a, b, n, s, args⟩) = x := ⟨_, rfl⟩
    have HX := Lib.hid hx
    have HE3 := Lib.hid (HE.out w3 _ HB3w.out HV.out)
    rw [hx] at HE3 HP
    clear hx
    cases x
    · go_wp2_with fail
      refine HE3.out.mono ?_
      rintro e w4 ⟨rfl, hb4⟩
      have HB4 := Lib.hid (HB3w.out.trans (hb4.mono HB3w.out.size))
      clear hb4
      go_wp2_with fail
      go_ret
      exact ⟨by rw [← HRES.out, chkI_11 HHF.out (by rw [HX.out]; rfl)]; rfl, HB4.out⟩
    · go_wp2_with fail
      refine HE3.out.mono ?_
      rintro e w4 ⟨rfl, hb4⟩
      have HB4 := Lib.hid (HB3.out.trans (hb4.mono HB3.out.size))
      have HB4w := Lib.hid (HB1.out.trans (HB4.out.mono HB1.out.size))
      have HV4 := Lib.hid (HV.out.on hb4)
      clear hb4
      obtain ⟨q0, q1, q2, q3, q4, q5, q6, q7, ql⟩ := insBox (i := ⟨op, ty, dst, a, b, n, s, args⟩) (show Blk w4 w.heap.size tIn (insA ⟨op, ty, dst, a, b, n, s, args⟩ (.slice A0 al c0)) from HK.out _ HB4.out)
      simp only at q0 q1 q2 q3 q4 q5 q6 q7
      obtain ⟨y, hy⟩ : ∃ y, placeI m f ⟨op, ty, dst, a, b, n, s, args⟩ = y := ⟨_, rfl⟩
      have HY := Lib.hid hy
      have HP4 := Lib.hid (HP.out (by first | rfl | trivial) w4 HB4w.out)
      rw [hy] at HP4
      clear hy
      cases y
      · go_wp2_with fail
        refine HP4.out.mono ?_
        rintro e w5 ⟨rfl, hb5⟩
        have HB5 := Lib.hid (HB4w.out.trans (hb5.mono HB4w.out.size))
        clear hb5
        go_wp2_with fail
        go_ret
        exact ⟨by rw [← HRES.out, chkI_11 HHF.out (by rw [HX.out, HY.out]; rfl)]; rfl, HB5.out⟩
      · have HXY : Hid ((existL f (needL m f ⟨op, ty, dst, a, b, n, s, args⟩) && placeI m f ⟨op, ty, dst, a, b, n, s, args⟩) = true) := Lib.hid (by rw [HX.out, HY.out]; rfl)
        go_wp2_with fail
        refine HP4.out.mono ?_
        rintro e w5 ⟨rfl, hb5⟩
        have HB5 := Lib.hid (HB4.out.trans (hb5.mono HB4.out.size))
        have HB5w := Lib.hid (HB1.out.trans (HB5.out.mono HB1.out.size))
        have HV5 := Lib.hid (HV4.out.on hb5)
        clear hb5 q0 q1 q2 q3 q4 q5 q6 q7 ql HP4 HP HE3 HE HN HF
        obtain ⟨q0, q1, q2, q3, q4, q5, q6, q7, ql⟩ := insBox (i := ⟨op, ty, dst, a, b, n, s, args⟩) (show Blk w5 w.heap.size tIn (insA ⟨op, ty, dst, a, b, n, s, args⟩ (.slice A0 al c0)) from HK.out _ HB5.out)
        simp only at q0 q1 q2 q3 q4 q5 q6 q7
        obtain ⟨z, hz⟩ : ∃ z, fitL f (needL m f ⟨op, ty, dst, a, b, n, s, args⟩) = z := ⟨_, rfl⟩
        have HZ := Lib.hid hz
        rw [hz] at HT
        clear hz
        by_cases h9 : op = 9
        · obtain ⟨gv, fv, rv, bv, hb, hm, -, -⟩ := (HC1.out.on HB5.out).x
          have hin : inR m.f n = true := by
            have h1 := (Bool.and_eq_true _ _ ▸ HXY.out).2
            rw [placeI_9 h9] at h1
            exact (Bool.and_eq_true _ _ ▸ h1).1
          subst h9
          obtain ⟨k, rfl, hk⟩ := inR_nat hin
          obtain ⟨g, o, c, rfl, hg, -, -, -, rv', bv', -, -, hx⟩ := hm.f.at hk
          have x0 : w5.cell? ⟨g, o + k * 5 + 2, none⟩ = some (.int .i64 m.f[k].pr) := hx 2 _ rfl
          have c1 : w5.cell? ⟨cb, 1, none⟩ = some (.slice (some ⟨g, o, none⟩) m.f.length c) := hb.cell 1
          have cl := hb.lt
          have hlt : (k : Int) < m.f.length := by omega
          have hfa := fAt_lt hk
          have HFA : Hid ((fAt m (k : Int)).pr = m.f[k].pr) := Lib.hid (by rw [hfa])
          generalize m.f[k].pr = pr at *
          clear hfa hx hb hm hin hk
          by_cases hne : (al : Int) = pr
          · have hok : OkI m f ⟨9, ty, dst, a, b, (k : Nat), s, args⟩ := ⟨HXY.out, fun _ => by simp only; rw [HAL.out, HFA.out, hne]⟩
            have HOK := Lib.hid hok
            have d1 : ((al : Int) != pr) = false := by simpa using hne
            have HNE := Lib.hid hne
            clear hok hne
            go_upto_region 6 with (fail)
            go_quiet (fail)
            have hbd := below_drewN w5.heap.size w5
            have HBD := Lib.hid hbd
            clear hbd
            go_wp2_with fail
            refine (HT.out HOK.out _ _ (HB5w.out.trans ((HBD.out _).mono HB5w.out.size)) (HV5.out.on (HBD.out _))).mono ?_
            rintro e w6 ⟨rfl, hb6⟩
            have HB6 := Lib.hid hb6
            clear hb6
            cases z
            · go_wp2_with fail
              go_ret
              refine ⟨?_, HB5w.out.trans (((HBD.out _).trans HB6.out).mono HB5w.out.size)⟩
              rw [← HRES.out, chkI_6 HHF.out HXY.out (by have := HNE.out; simp only; rw [HAL.out, HFA.out]; omega) HZ.out]
              rfl
            · go_wp2_with fail
              go_ret
              refine ⟨?_, HB5w.out.trans (((HBD.out _).trans HB6.out).mono HB5w.out.size)⟩
              rw [← HRES.out, chkI_0 HHF.out HXY.out (by have := HNE.out; simp only; rw [HAL.out, HFA.out]; omega) HZ.out]
              rfl
          · have d1 : ((al : Int) != pr) = true := by simpa using hne
            have HNE := Lib.hid hne
            clear hne
            go_upto_region 6 with (fail)
            go_quiet (fail)
            go_wp2_with fail
            go_ret
            refine ⟨?_, HB5w.out.trans (below_drewN _ _ _)⟩
            rw [← HRES.out, chkI_7 HHF.out HXY.out ⟨rfl, by have := HNE.out; simp only; rw [HAL.out, HFA.out]; exact this⟩]
            rfl
        · have d9 : (op == 9) = false := by simpa using h9
          have hok : OkI m f ⟨op, ty, dst, a, b, n, s, args⟩ := ⟨HXY.out, fun h => absurd h h9⟩
          have HOK := Lib.hid hok
          have HN9 := Lib.hid h9
          clear hok h9
          go_upto_region 6 with (fail)
          go_quiet (fail)
          have hbd := below_drewN w5.heap.size w5
          have HBD := Lib.hid hbd
          clear hbd
          go_wp2_with fail
          refine (HT.out HOK.out _ _ (HB5w.out.trans ((HBD.out _).mono HB5w.out.size)) (HV5.out.on (HBD.out _))).mono ?_
          rintro e w6 ⟨rfl, hb6⟩
          have HB6 := Lib.hid hb6
          clear hb6
          cases z
          · go_wp2_with fail
            go_ret
            refine ⟨?_, HB5w.out.trans (((HBD.out _).trans HB6.out).mono HB5w.out.size)⟩
            rw [← HRES.out, chkI_6 HHF.out HXY.out (fun h => HN9.out h.1) HZ.out]
            rfl
          · go_wp2_with fail
            go_ret
            refine ⟨?_, HB5w.out.trans (((HBD.out _).trans HB6.out).mono HB5w.out.size)⟩
            rw [← HRES.out, chkI_0 HHF.out HXY.out (fun h => HN9.out h.1) HZ.out]
            rfl
end Go.Proofs.Ytjmlpbnejcfnhaa
/-! Ivi -/
namespace Go.Proofs.Ytjmlpbnejcfnhaa
open Go Go.RowKit
set_option linter.unusedVariables false
set_option linter.unusedSimpArgs false

theorem isI_nil (w : World) (B : Nat) : IsI w B (.slice none 0 0) [] := ⟨none, 0, rfl, Nat.le_refl _, by simp, fun _ => rfl, .inl rfl⟩
theorem isI_1 {W : World} {H : Nat} {x : Int} (hb : Blk W H tI1 #[.int .i64 x]) (h : iw x) : IsI W W.heap.size (.slice (some ⟨H, 0, none⟩) 1 1) [x] :=
  ⟨_, 1, rfl, Nat.le_refl _, by unfold maxLen; omega, fun h => by (cases h), .inr ⟨H, 0, rfl, hb.lt, fun i y hi => by
    match i, hi with
    | 0, hi => cases hi; exact ⟨hb.cell 0, h⟩⟩⟩
theorem isI_2 {W : World} {H : Nat} {x y : Int} (hb : Blk W H tI1 #[.int .i64 x, .int .i64 y]) (h : iw x) (h2 : iw y) : IsI W W.heap.size (.slice (some ⟨H, 0, none⟩) 2 2) [x, y] :=
  ⟨_, 2, rfl, Nat.le_refl _, by unfold maxLen; omega, fun h => by (cases h), .inr ⟨H, 0, rfl, hb.lt, fun i y hi => by
    match i, hi with
    | 0, hi => cases hi; exact ⟨hb.cell 0, h⟩
    | 1, hi => cases hi; exact ⟨hb.cell 1, h2⟩⟩⟩
theorem isNd_nil (W : World) (ok : Prop) : IsNd W ok (.slice none 0 0) [] := ⟨none, 0, rfl, Nat.le_refl _, by simp, fun _ => rfl, .inl rfl⟩
theorem chkE_1 {f : Cod} {e : Eb} (h : e.k = 1) : chkE f e = leadM f [e.to] [] := by
  unfold chkE leadM
  rw [if_pos h]
  cases hh : inR f.bl e.to <;> simp [existL, fitL, hh]
theorem chkE_2 {f : Cod} {e : Eb} (h : e.k = 2) : chkE f e = leadM f [e.to, e.el] [(e.a, fun t => t == 1)] := by
  unfold chkE leadM
  rw [if_neg (by omega), if_pos h]
  cases h1 : inR f.bl e.to <;> cases h2 : inR f.bl e.el <;> cases h3 : inR f.regs e.a <;> simp [existL, fitL, h1, h2, h3]
theorem chkE_3 {f : Cod} {e : Eb} (h : e.k = 3) (ha : 0 ≤ e.a) : chkE f e = leadM f [] [(e.a, fun t => t == f.ty)] := by
  unfold chkE leadM
  rw [if_neg (by omega), if_neg (by omega), if_pos h, if_pos ha]
  cases h3 : inR f.regs e.a <;> simp [existL, fitL, h3]
theorem chkE_4 {f : Cod} {e : Eb} (h : e.k = 3) (ha : ¬ 0 ≤ e.a) : chkE f e = if f.ty = 0 then 0 else 6 := by
  unfold chkE
  rw [if_neg (by omega), if_neg (by omega), if_pos h, if_neg ha]
theorem chkE_5 {f : Cod} {e : Eb} (h : e.k ≠ 1 ∧ e.k ≠ 2 ∧ e.k ≠ 3) : chkE f e = 2 := by
  unfold chkE
  rw [if_neg h.1, if_neg h.2.1, if_neg h.2.2]
set_option maxHeartbeats 4000000 in
set_option maxRecDepth 100000 in
theorem end_any (m : Mdl) (f : Cod) (e : Eb) (he : e.w) (cb : Nat) (w : World) (hc : CkV w cb m f) :
    Calls Try.prog 31 #[.pointer (some ⟨cb, 0, none⟩), .agg (ebA e)] w fun r w' => r = .returned (.int .i64 (chkE f e)) ∧ Below w.heap.size w w' := by
  have hb1 : Below w.heap.size w (w.alloc (.cells (ebA e) tEn)) := (Below.refl _ _).alloc (Nat.le_refl _) _
  have HB1 := Lib.hid hb1
  have HC1 := Lib.hid (hc.on hb1)
  have HQ := Lib.hid (Blk.new w tEn (ebA e))
  obtain ⟨res, hres⟩ : ∃ r, chkE f e = r := ⟨_, rfl⟩
  have HRES := Lib.hid hres
  have HEW := Lib.hid he
  rw [hres]
  have HL : Hid (∀ W bl nl v v2, Below w.heap.size w W → IsI W W.heap.size v bl → IsNd W True v2 nl → Calls Try.prog 44 #[.pointer (some ⟨cb, 0, none⟩), v, v2] W fun e w' => e = .returned (.int .i64 (leadM f bl nl)) ∧ Below W.heap.size W w') := Lib.hid fun W bl nl v v2 hW h1 h2 => leadsTo_any m f bl nl v v2 cb W (hc.on hW) h1 h2
  clear hc hb1 hres he
  unfold ebA at HB1 HC1 HQ ⊢
  obtain ⟨k, a, to, el⟩ := e
  simp only at HB1 HC1 HQ ⊢
  go_enter Try.func31, Try.ntmps31
  go_upto_region 1 with (fail)
  generalize w.alloc (.cells #[.int .i64 k, .int .i64 a, .int .i64 to, .int .i64 el] tEn) = W1 at *
  have q0 : W1.cell? ⟨w.heap.size, 0, none⟩ = some (.int .i64 k) := HQ.out.cell 0
  have q1 : W1.cell? ⟨w.heap.size, 1, none⟩ = some (.int .i64 a) := HQ.out.cell 1
  have q2 : W1.cell? ⟨w.heap.size, 2, none⟩ = some (.int .i64 to) := HQ.out.cell 2
  have q3 : W1.cell? ⟨w.heap.size, 3, none⟩ = some (.int .i64 el) := HQ.out.cell 3
  have ql := HQ.out.lt
  by_cases h1 : k = 1
  · subst h1
    go_wp2_with fail
    refine (HL.out _ [to] [] _ _ (HB1.out.alloc HB1.out.size _) (isI_1 (Blk.new _ _ _) HEW.out.to) (isNd_nil _ _)).mono ?_
    rintro e w2 ⟨rfl, hb2⟩
    have HB2 := Lib.hid ((HB1.out.alloc HB1.out.size _).trans (hb2.mono (HB1.out.alloc HB1.out.size _).size))
    clear hb2
    go_wp2_with fail
    go_ret
    exact ⟨by rw [← HRES.out, chkE_1 rfl]; rfl, HB2.out⟩
  have d1 : (k == 1) = false := by simpa using h1
  by_cases h2 : k = 2
  · subst h2
    clear h1
    have J : Below W1.heap.size W1 W1 := Below.refl _ _
    have HS : Hid (∀ Wx, Below W1.heap.size W1 Wx → Wx.cell? ⟨w.heap.size, 1, none⟩ = some (.int .i64 a) ∧ Wx.cell? ⟨w.heap.size, 2, none⟩ = some (.int .i64 to) ∧ Wx.cell? ⟨w.heap.size, 3, none⟩ = some (.int .i64 el) ∧ w.heap.size < Wx.heap.size) := Lib.hid fun Wx h => by
      have hz := h.size
      exact ⟨(h.cell (p := ⟨w.heap.size, 1, none⟩) ql).trans q1, (h.cell (p := ⟨w.heap.size, 2, none⟩) ql).trans q2, (h.cell (p := ⟨w.heap.size, 3, none⟩) ql).trans q3, by omega⟩
    have HI : Hid (∀ v W, Calls Try.prog 45 #[.int .i64 v] W fun e w' => ∃ fv, e = .returned fv ∧ NeedV w' True fv (fun t => t == v) ∧ Below W.heap.size W w') := Lib.hid fun v W => is_any v W _
    go_upto_region 5 with (fail)
    go_region_held3 (fun Wx => Wx.cell? ⟨w.heap.size, 1, none⟩ = some (.int .i64 a) ∧ Wx.cell? ⟨w.heap.size, 2, none⟩ = some (.int .i64 to) ∧ Wx.cell? ⟨w.heap.size, 3, none⟩ = some (.int .i64 el) ∧ w.heap.size < Wx.heap.size)
      (first | exact ⟨q1, q2, q3, ql⟩ | exact HS.out _ J | exact HS.out _ (J.alloc J.size _) | exact HS.out _ (J.drew.alloc J.drew.size _) | exact HS.out _ J2 | exact HS.out _ ((J.alloc J.size _).alloc (J.alloc J.size _).size _))
      (first
        | (go_at_call 45; (with_reducible refine Calls.mono (HI.out _ _) ?_); rintro e v1 ⟨fv, rfl, hn1, b1⟩; obtain ⟨k1, caps1, rfl, hk1⟩ := hn1; first
            | (have hN := Blk.new W1 tI1 #[.int .i64 to, .int .i64 el]; have hR : Blk v1 W1.heap.size tI1 #[.int .i64 to, .int .i64 el] := (b1.block _ (show W1.heap.size < (W1.alloc (.cells #[.int .i64 to, .int .i64 el] tI1)).heap.size from hN.lt)).trans hN; have J9 := (J.alloc J.size (.cells #[.int .i64 to, .int .i64 el] tI1)).drew; have J : Below W1.heap.size W1 v1 := J9.trans (b1.mono J9.size))
            | (have J : Below W1.heap.size W1 v1 := by first | exact J.trans (b1.mono J.size) | exact J.drew.trans (b1.mono J.drew.size)))
        | (go_at_call 44; first
            | (have g1 := HB1.out.trans ((J.alloc J.size (.cells #[.int .i64 a, .func (.func k1) #[] caps1] tNd)).mono HB1.out.size); have g2 := isI_2 (hR.alloc (.cells #[.int .i64 a, .func (.func k1) #[] caps1] tNd)) HEW.out.to HEW.out.el; have g3 : IsNd (v1.alloc (.cells #[.int .i64 a, .func (.func k1) #[] caps1] tNd)) True (.slice (some ⟨v1.heap.size, 0, none⟩) 1 1) [(a, fun t => t == 1)] := isNd_1 (Blk.new _ _ _) (NeedV.on (w := v1) ⟨_, _, rfl, hk1⟩ ((Below.refl _ _).alloc (Nat.le_refl _) _)); (with_reducible refine Calls.mono (HL.out _ [to, el] [(a, fun t => t == 1)] _ _ g1 g2 g3) ?_); rintro e v2 ⟨rfl, b2⟩; have J2 : Below W1.heap.size W1 v2 := (J.alloc J.size _).trans (b2.mono (J.alloc J.size _).size))
            | (have j2 := (J.alloc J.size (.cells #[.int .i64 to, .int .i64 el] tI1)).alloc (J.alloc J.size (.cells #[.int .i64 to, .int .i64 el] tI1)).size (.cells #[.int .i64 a, .func (.func k1) #[] caps1] tNd); have g1 := HB1.out.trans (j2.mono HB1.out.size); have g2 := isI_2 ((Blk.new v1 tI1 #[.int .i64 to, .int .i64 el]).alloc (.cells #[.int .i64 a, .func (.func k1) #[] caps1] tNd)) HEW.out.to HEW.out.el; have h3 := Blk.new (v1.alloc (.cells #[.int .i64 to, .int .i64 el] tI1)) tNd #[.int .i64 a, .func (.func k1) #[] caps1]; rw [show (v1.alloc (.cells #[.int .i64 to, .int .i64 el] tI1)).heap.size = v1.heap.size + 1 by simp] at h3; have g3 : IsNd ((v1.alloc (.cells #[.int .i64 to, .int .i64 el] tI1)).alloc (.cells #[.int .i64 a, .func (.func k1) #[] caps1] tNd)) True (.slice (some ⟨v1.heap.size + 1, 0, none⟩) 1 1) [(a, fun t => t == 1)] := isNd_1 h3 (NeedV.on (w := v1) ⟨_, _, rfl, hk1⟩ (((Below.refl _ _).alloc (Nat.le_refl _) _).alloc (by simp) _)); (with_reducible refine Calls.mono (HL.out _ [to, el] [(a, fun t => t == 1)] _ _ g1 g2 g3) ?_); rintro e v2 ⟨rfl, b2⟩; have J2 : Below W1.heap.size W1 v2 := j2.trans (b2.mono j2.size))
            | (have j2 := (J.alloc J.size (.cells #[.int .i64 a, .func (.func k1) #[] caps1] tNd)).alloc (J.alloc J.size (.cells #[.int .i64 a, .func (.func k1) #[] caps1] tNd)).size (.cells #[.int .i64 to, .int .i64 el] tI1); have g1 := HB1.out.trans (j2.mono HB1.out.size); have h2 := Blk.new (v1.alloc (.cells #[.int .i64 a, .func (.func k1) #[] caps1] tNd)) tI1 #[.int .i64 to, .int .i64 el]; rw [show (v1.alloc (.cells #[.int .i64 a, .func (.func k1) #[] caps1] tNd)).heap.size = v1.heap.size + 1 by simp] at h2; have g2 := isI_2 h2 HEW.out.to HEW.out.el; have g3 : IsNd ((v1.alloc (.cells #[.int .i64 a, .func (.func k1) #[] caps1] tNd)).alloc (.cells #[.int .i64 to, .int .i64 el] tI1)) True (.slice (some ⟨v1.heap.size, 0, none⟩) 1 1) [(a, fun t => t == 1)] := isNd_1 ((Blk.new v1 tNd _).alloc (.cells #[.int .i64 to, .int .i64 el] tI1)) (NeedV.on (w := v1) ⟨_, _, rfl, hk1⟩ (((Below.refl _ _).alloc (Nat.le_refl _) _).alloc (by simp) _)); (with_reducible refine Calls.mono (HL.out _ [to, el] [(a, fun t => t == 1)] _ _ g1 g2 g3) ?_); rintro e v2 ⟨rfl, b2⟩; have J2 : Below W1.heap.size W1 v2 := j2.trans (b2.mono j2.size))))
    all_goals
      have HJ := Lib.hid (HB1.out.trans (J2.mono HB1.out.size))
      clear J2
      go_wp2_with fail
      first
        | (refine ⟨?_, HJ.out⟩; rw [← HRES.out, chkE_2 rfl]; rfl)
        | (go_ret; refine ⟨?_, HJ.out⟩; rw [← HRES.out, chkE_2 rfl]; rfl)
  have d2 : (k == 2) = false := by simpa using h2
  by_cases h3 : k = 3
  · subst h3
    obtain ⟨gv, fv, rv, bv, hb, -, -, -⟩ := HC1.out.x
    have c3 : W1.cell? ⟨cb, 3, none⟩ = some (.int .i64 f.ty) := hb.cell 3
    have cl := hb.lt
    clear h1 h2 hb
    by_cases ha : 0 ≤ a
    · have HA := Lib.hid ha
      have e1 : decide (0 ≤ a) = true := by simpa using ha
      clear ha
      have J : Below W1.heap.size W1 W1 := Below.refl _ _
      have HS : Hid (∀ Wx, Below W1.heap.size W1 Wx → Wx.cell? ⟨w.heap.size, 1, none⟩ = some (.int .i64 a) ∧ Wx.cell? ⟨cb, 3, none⟩ = some (.int .i64 f.ty) ∧ w.heap.size < Wx.heap.size ∧ cb < Wx.heap.size) := Lib.hid fun Wx h => by
        have hz := h.size
        exact ⟨(h.cell (p := ⟨w.heap.size, 1, none⟩) ql).trans q1, (h.cell (p := ⟨cb, 3, none⟩) cl).trans c3, by omega, by omega⟩
      have HI : Hid (∀ v W, Calls Try.prog 45 #[.int .i64 v] W fun e w' => ∃ fv, e = .returned fv ∧ NeedV w' True fv (fun t => t == v) ∧ Below W.heap.size W w') := Lib.hid fun v W => is_any v W _
      go_upto_region 8 with (fail)
      go_region_held3 (fun Wx => Wx.cell? ⟨w.heap.size, 1, none⟩ = some (.int .i64 a) ∧ Wx.cell? ⟨cb, 3, none⟩ = some (.int .i64 f.ty) ∧ w.heap.size < Wx.heap.size ∧ cb < Wx.heap.size)
        (first | exact ⟨q1, c3, ql, cl⟩ | exact HS.out _ J | exact HS.out _ (J.alloc J.size _) | exact HS.out _ J2)
        (first
          | (go_at_call 45; (with_reducible refine Calls.mono (HI.out _ _) ?_); rintro e v1 ⟨fv, rfl, hn1, b1⟩; obtain ⟨k1, caps1, rfl, hk1⟩ := hn1; have J : Below W1.heap.size W1 v1 := by first | exact J.trans (b1.mono J.size) | exact J.drew.trans (b1.mono J.drew.size))
          | (go_at_call 44; (with_reducible refine Calls.mono (HL.out _ [] [(a, fun t => t == f.ty)] _ _ ?g1 ?g2 ?g3) ?_); (case g1 => exact HB1.out.trans ((J.alloc J.size _).mono HB1.out.size)); (case g2 => exact isI_nil _ _); (case g3 => exact isNd_1 (Blk.new _ _ _) (NeedV.on (w := v1) ⟨_, _, rfl, hk1⟩ ((Below.refl _ _).alloc (Nat.le_refl _) _))); rintro e v2 ⟨rfl, b2⟩; have J2 : Below W1.heap.size W1 v2 := (J.alloc J.size _).trans (b2.mono (J.alloc J.size _).size)))
      all_goals
        have HJ := Lib.hid (HB1.out.trans (J2.mono HB1.out.size))
        clear J2
        go_wp2_with fail
        first
          | (refine ⟨?_, HJ.out⟩; rw [← HRES.out, chkE_3 rfl HA.out]; rfl)
          | (go_ret; refine ⟨?_, HJ.out⟩; rw [← HRES.out, chkE_3 rfl HA.out]; rfl)
    · have HA := Lib.hid ha
      have e1 : decide (0 ≤ a) = false := by simpa using ha
      clear ha
      by_cases ht : f.ty = 0
      · have HT := Lib.hid ht
        have e2 : (f.ty == 0) = true := by simpa using ht
        clear ht
        go_wp2_with fail
        go_ret
        exact ⟨by rw [← HRES.out, chkE_4 rfl (by have := HA.out; simp only; omega), if_pos HT.out]; rfl, HB1.out⟩
      · have HT := Lib.hid ht
        have e2 : (f.ty == 0) = false := by simpa using ht
        clear ht
        go_wp2_with fail
        go_ret
        exact ⟨by rw [← HRES.out, chkE_4 rfl (by have := HA.out; simp only; omega), if_neg HT.out]; rfl, HB1.out⟩
  have d3 : (k == 3) = false := by simpa using h3
  have HX := Lib.hid (And.intro h1 (And.intro h2 h3))
  clear h1 h2 h3
  go_wp2_with fail
  go_ret
  exact ⟨by rw [← HRES.out, chkE_5 HX.out]; rfl, HB1.out⟩
end Go.Proofs.Ytjmlpbnejcfnhaa
/-! Ivj -/
namespace Go.Proofs.Ytjmlpbnejcfnhaa
open Go Go.RowKit
set_option linter.unusedVariables false
set_option linter.unusedSimpArgs false

theorem fst0_app (l r : List Int) : fst0 (l ++ r) = if fst0 l = 0 then fst0 r else fst0 l := by
  induction l with
  | nil => simp [fst0]
  | cons x l ih =>
    simp only [List.cons_append, fst0]
    by_cases h : x = 0
    · simp only [h, if_true]; exact ih
    · simp [h]
theorem fst0_at {l : List Int} {k : Nat} {x : Int} (h0 : fst0 (l.take k) = 0) (hx : l[k]? = some x) (hne : x ≠ 0) : fst0 l = x := by
  have hk : k < l.length := (List.getElem?_eq_some_iff.1 hx).1
  rw [← List.take_append_drop k l, fst0_app, if_pos h0, List.drop_eq_getElem_cons hk]
  have : l[k] = x := by rw [List.getElem?_eq_getElem hk] at hx; exact Option.some.inj hx
  rw [this]
  simp [fst0, hne]
theorem fst0_up {l : List Int} {k : Nat} {x : Int} (h0 : fst0 (l.take k) = 0) (hx : l[k]? = some x) (he : x = 0) : fst0 (l.take (k + 1)) = 0 := by
  have hk : k < l.length := (List.getElem?_eq_some_iff.1 hx).1
  rw [List.take_succ_eq_append_getElem hk, fst0_app, if_pos h0]
  have : l[k] = x := by rw [List.getElem?_eq_getElem hk] at hx; exact Option.some.inj hx
  rw [this]
  simp [fst0, he]
/-- No call has too many arguments for the walk. -/
def SmC (f : Cod) : Prop := ∀ b ∈ f.bl, ∀ i ∈ b.code, i.args.length ≤ 17592186043904
set_option maxHeartbeats 4000000 in
set_option maxRecDepth 100000 in
theorem check_any (m : Mdl) (f : Cod) (hsm : SmC f) (cb : Nat) (w : World) (hc : CkV w cb m f) :
    Calls Try.prog 21 #[.pointer (some ⟨cb, 0, none⟩)] w fun e w' => e = .returned (.int .i64 (chkF m f)) ∧ Below w.heap.size w w' := by
  have HH := Lib.hid (head_any m f cb w hc)
  have HC := Lib.hid hc
  have HSM := Lib.hid hsm
  obtain ⟨res, hres⟩ : ∃ r, chkF m f = r := ⟨_, rfl⟩
  have HRES := Lib.hid hres
  rw [hres]
  obtain ⟨h, hh⟩ : ∃ h, chkH f = h := ⟨_, rfl⟩
  have HHD := Lib.hid hh
  rw [hh] at HH
  clear hc hsm hres hh
  go_enter Try.func21, Try.ntmps21
  go_wp2_with fail
  refine HH.out.mono ?_
  rintro e w1 ⟨rfl, hb1⟩
  have HB1 := Lib.hid hb1
  clear HH
  by_cases h0 : h = 0
  · have d0 : (h != 0) = false := by simpa using h0
    have HD0 := Lib.hid h0
    clear h0
    have HC1 := Lib.hid (HC.out.on hb1)
    obtain ⟨gv, fv, rv, bv, hbk, -, -, hbi⟩ := HC1.out.x
    obtain ⟨bA, bc, rfl, hbl, hbm, hbA⟩ := hbi.sl
    unfold maxLen at hbm
    obtain ⟨n, hn⟩ : ∃ n, f.bl.length = n := ⟨_, rfl⟩
    have HN := Lib.hid hn
    have HBI := Lib.hid hbi
    have c6 : w1.cell? ⟨cb, 6, none⟩ = some (.slice bA n bc) := by rw [← hn]; exact hbk.cell 6
    have cl := hbk.lt
    rw [hn] at hbl
    clear hbk hbi hn hb1
    go_wp2_with fail
    go_loopw [21] (fun v wr => ∃ j : Nat, j ≤ n ∧ v = .int .i64 j ∧ fst0 ((f.bl.map (chkB m f)).take j) = 0 ∧ Below w1.heap.size w1 wr) (fun v _ => n - (intOf v).toNat)
    case atStart => exact ⟨0, by omega, rfl, rfl, Below.refl _ _⟩
    case round =>
      obtain ⟨w2, hw2⟩ : ∃ w2, w2 = wr := ⟨_, rfl⟩
      subst hw2
      obtain ⟨j, hj, rfl, hal, hbw⟩ := hrel
      have HAL := Lib.hid hal
      have HBW := Lib.hid hbw
      clear hal
      by_cases hlt : j < n
      · have hjl : j < f.bl.length := by rw [HN.out]; exact hlt
        obtain ⟨g, o, c9, hv9, hg, -, -, hew, cv, hcv, hx⟩ := (HBI.out.on hbw).at hjl
        simp only [Value.slice.injEq] at hv9
        obtain ⟨rfl, -, -⟩ := hv9
        have hmem := List.getElem_mem hjl
        have hbj : (f.bl.map (chkB m f))[j]? = some (chkB m f f.bl[j]) := by rw [List.getElem?_map, List.getElem?_eq_getElem hjl]; rfl
        have hsmj := HSM.out _ hmem
        have y0 := hx 0 cv rfl; have y1 := hx 1 (.int .i64 f.bl[j].e.k) rfl; have y2 := hx 2 (.int .i64 f.bl[j].e.a) rfl; have y3 := hx 3 (.int .i64 f.bl[j].e.to) rfl; have y4 := hx 4 (.int .i64 f.bl[j].e.el) rfl
        simp only [Nat.add_zero] at y0
        simp only at y1 y2 y3 y4
        have hlt' : (j : Int) < n := by omega
        have HBJ := Lib.hid hbj
        have HSJ := Lib.hid hsmj
        have HEW := Lib.hid hew
        clear hx hbj hsmj hmem hew
        generalize f.bl[j] = B at *
        obtain ⟨cA, cc, rfl, hcl, hcm, hcA⟩ := hcv.sl
        unfold maxLen at hcm
        obtain ⟨cn, hcn⟩ : ∃ n, B.code.length = n := ⟨_, rfl⟩
        have HCN := Lib.hid hcn
        have HCV := Lib.hid hcv
        rw [hcn] at y0 hcl
        clear hcv hcn
        obtain ⟨code, e⟩ := B
        obtain ⟨ek, ea, eto, eel⟩ := e
        simp only at y0 y1 y2 y3 y4 HCN HCV
        go_upto_region 7 with (fail)
        have b3 := Blk.new w2 tBl #[.slice cA cn cc, .int .i64 ek, .int .i64 ea, .int .i64 eto, .int .i64 eel]
        have hb3 : Below w2.heap.size w2 (w2.alloc (.cells #[.slice cA cn cc, .int .i64 ek, .int .i64 ea, .int .i64 eto, .int .i64 eel] tBl)) := (Below.refl _ _).alloc (Nat.le_refl _) _
        generalize w2.alloc (.cells #[.slice cA cn cc, .int .i64 ek, .int .i64 ea, .int .i64 eto, .int .i64 eel] tBl) = W3 at *
        have HB3 := Lib.hid hb3
        have B3 := Lib.hid b3
        have z0 : W3.cell? ⟨w2.heap.size, 0, none⟩ = some (.slice cA cn cc) := b3.cell 0
        have zl := b3.lt
        clear y0 y1 y2 y3 y4 hb3 b3 hbw
        go_wp2_with fail
        clear z0 zl
        go_loopw [28] (fun v wr => ∃ k : Nat, k ≤ cn ∧ v = .int .i64 k ∧ fst0 ((code.map (chkI m f)).take k) = 0 ∧ Below W3.heap.size W3 wr) (fun v _ => cn - (intOf v).toNat)
        case atStart => exact ⟨0, by omega, rfl, rfl, Below.refl _ _⟩
        case round =>
          obtain ⟨k, hk, rfl, hal2, hbw2⟩ := hrel
          have HAL2 := Lib.hid hal2
          have HBW2 := Lib.hid hbw2
          have hb13 := HBW.out.trans ((HB3.out.trans (hbw2.mono HB3.out.size)).mono HBW.out.size)
          have HB13 := Lib.hid hb13
          clear hal2
          by_cases hlt2 : k < cn
          · have hkl : k < code.length := by rw [HCN.out]; exact hlt2
            obtain ⟨g4, o4, c4, hv4, hg4, -, -, hiw, av, hav, hx⟩ := (HCV.out.on (HB3.out.trans (hbw2.mono HB3.out.size))).at hkl
            simp only [Value.slice.injEq] at hv4
            obtain ⟨rfl, -, -⟩ := hv4
            have hik : (code.map (chkI m f))[k]? = some (chkI m f code[k]) := by rw [List.getElem?_map, List.getElem?_eq_getElem hkl]; rfl
            have hsk := HSJ.out _ (List.getElem_mem hkl)
            have y0 := hx 0 (.int .i64 code[k].op) rfl; have y1 := hx 1 (.int .i64 code[k].ty) rfl; have y2 := hx 2 (.int .i64 code[k].dst) rfl; have y3 := hx 3 (.int .i64 code[k].a) rfl; have y4 := hx 4 (.int .i64 code[k].b) rfl; have y5 := hx 5 (.int .i64 code[k].n) rfl; have y6 := hx 6 (.string (str code[k].s)) rfl; have y7 := hx 7 av rfl
            simp only [Nat.add_zero] at y0
            simp only at y1 y2 y3 y4 y5 y6 y7
            have hlt3 : (k : Int) < cn := by omega
            have HIK := Lib.hid hik
            clear hx hik hiw
            generalize code[k] = i at *
            obtain ⟨A0, c0, rfl, -⟩ := hav.sl
            have HIN : Hid (∀ W, Below wr.heap.size wr W → Calls Try.prog 30 #[.pointer (some ⟨cb, 0, none⟩), .agg (insA i (.slice A0 i.args.length c0))] W fun e w' => e = .returned (.int .i64 (chkI m f i)) ∧ Below W.heap.size W w') := Lib.hid fun W hW => instr_any m f i _ cb W (HC1.out.on (HB13.out.trans (hW.mono HB13.out.size))) (hav.on hW) hsk
            obtain ⟨r, hr⟩ : ∃ r, chkI m f i = r := ⟨_, rfl⟩
            rw [hr] at HIN HIK
            unfold insA at HIN
            obtain ⟨op, ty, dst, a, b, nn, s, args⟩ := i
            simp only at HIN y0 y1 y2 y3 y4 y5 y6 y7
            generalize args.length = al at *
            clear hr hav hsk hbw2 hb13
            by_cases hr0 : r = 0
            · have d1 : (r != 0) = false := by simpa using hr0
              have HR0 := Lib.hid hr0
              clear hr0
              go_wp2_with fail
              refine (HIN.out _ ((Below.refl _ _).alloc (Nat.le_refl _) _)).mono ?_
              rintro e w5 ⟨rfl, hb5⟩
              have HB5 := Lib.hid (((Below.refl _ _).alloc (Nat.le_refl _) _).trans (hb5.mono (by simp)) : Below wr.heap.size wr w5)
              clear hb5
              go_wp2_with fail
              go_roundw
              case rel => exact ⟨k + 1, by omega, by go_num, fst0_up HAL2.out HIK.out HR0.out, HBW2.out.trans (HB5.out.mono HBW2.out.size)⟩
              case measure => simp [intOf]; omega
            · have d1 : (r != 0) = true := by simpa using hr0
              have HR0 := Lib.hid hr0
              clear hr0
              go_wp2_with fail
              refine (HIN.out _ ((Below.refl _ _).alloc (Nat.le_refl _) _)).mono ?_
              rintro e w5 ⟨rfl, hb5⟩
              have HB5 := Lib.hid (((Below.refl _ _).alloc (Nat.le_refl _) _).trans (hb5.mono (by simp)) : Below wr.heap.size wr w5)
              clear hb5
              go_wp2_with fail
              go_ret
              refine ⟨?_, HB1.out.trans ((HB13.out.trans (HB5.out.mono HB13.out.size)).mono HB1.out.size)⟩
              have e1 : chkB m f ⟨code, ek, ea, eto, eel⟩ = r := by
                unfold chkB
                rw [fst0_app, fst0_at HAL2.out HIK.out HR0.out, if_neg HR0.out]
              have e2 : chkF m f = r := by
                unfold chkF
                rw [HHD.out, fst0, if_pos HD0.out]
                have := HBJ.out
                rw [e1] at this
                exact fst0_at HAL.out this HR0.out
              rw [← HRES.out, e2]
              rfl
          · obtain rfl : cn = k := by omega
            have z1 : Blk wr w2.heap.size tBl #[.slice cA cn cc, .int .i64 ek, .int .i64 ea, .int .i64 eto, .int .i64 eel] := (hbw2.block _ B3.out.lt).trans B3.out
            have y1 : wr.cell? ⟨w2.heap.size, 1, none⟩ = some (.int .i64 ek) := z1.cell 1
            have y2 : wr.cell? ⟨w2.heap.size, 2, none⟩ = some (.int .i64 ea) := z1.cell 2
            have y3 : wr.cell? ⟨w2.heap.size, 3, none⟩ = some (.int .i64 eto) := z1.cell 3
            have y4 : wr.cell? ⟨w2.heap.size, 4, none⟩ = some (.int .i64 eel) := z1.cell 4
            have yl := z1.lt
            have HEN := Lib.hid (end_any m f ⟨ek, ea, eto, eel⟩ HEW.out cb wr (HC1.out.on HB13.out))
            obtain ⟨r, hr⟩ : ∃ r, chkE f ⟨ek, ea, eto, eel⟩ = r := ⟨_, rfl⟩
            have HRE := Lib.hid hr
            rw [hr] at HEN
            unfold ebA at HEN
            simp only at HEN
            have hcode : fst0 (code.map (chkI m f)) = 0 := by
              have := HAL2.out
              rw [List.take_of_length_le (by rw [List.length_map, HCN.out]; exact Nat.le_refl _)] at this
              exact this
            have HB9 : Hid (chkB m f ⟨code, ek, ea, eto, eel⟩ = r) := Lib.hid (by
              unfold chkB
              rw [fst0_app, if_pos hcode, hr]
              simp [fst0]
              exact fun h => h.symm)
            clear z1 hr hcode hbw2 hb13
            by_cases hr0 : r = 0
            · have d1 : (r != 0) = false := by simpa using hr0
              have HR0 := Lib.hid hr0
              clear hr0
              go_wp2_with fail
              refine HEN.out.mono ?_
              rintro e w5 ⟨rfl, hb5⟩
              have HB5 := Lib.hid hb5
              clear hb5
              go_wp2_with fail
              go_roundw
              case rel => exact ⟨j + 1, by omega, by go_num, fst0_up HAL.out HBJ.out (HB9.out.trans HR0.out), HB13.out.trans (HB5.out.mono HB13.out.size)⟩
              case measure => simp [intOf]; omega
            · have d1 : (r != 0) = true := by simpa using hr0
              have HR0 := Lib.hid hr0
              clear hr0
              go_wp2_with fail
              refine HEN.out.mono ?_
              rintro e w5 ⟨rfl, hb5⟩
              have HB5 := Lib.hid hb5
              clear hb5
              go_wp2_with fail
              go_ret
              refine ⟨?_, HB1.out.trans ((HB13.out.trans (HB5.out.mono HB13.out.size)).mono HB1.out.size)⟩
              have e2 : chkF m f = r := by
                unfold chkF
                rw [HHD.out, fst0, if_pos HD0.out]
                have := HBJ.out
                rw [HB9.out] at this
                exact fst0_at HAL.out this HR0.out
              rw [← HRES.out, e2]
              rfl
      · obtain rfl : n = j := by omega
        clear hbw
        go_wp2_with fail
        go_ret
        refine ⟨?_, HB1.out.trans (HBW.out.mono HB1.out.size)⟩
        have e2 : chkF m f = 0 := by
          unfold chkF
          rw [HHD.out, fst0, if_pos HD0.out]
          have := HAL.out
          rw [List.take_of_length_le (by rw [List.length_map, HN.out]; exact Nat.le_refl _)] at this
          exact this
        rw [← HRES.out, e2]
        rfl
  · have d0 : (h != 0) = true := by simpa using h0
    have HD0 := Lib.hid h0
    clear h0 hb1
    go_wp2_with fail
    go_ret
    refine ⟨?_, HB1.out⟩
    have e2 : chkF m f = h := by
      unfold chkF
      rw [HHD.out, fst0, if_neg HD0.out]
    rw [← HRES.out, e2]
    rfl
end Go.Proofs.Ytjmlpbnejcfnhaa
/-! Ivk -/
namespace Go.Proofs.Ytjmlpbnejcfnhaa
open Go Go.RowKit
set_option linter.unusedVariables false
set_option linter.unusedSimpArgs false

def wMain : List UInt8 := [109, 97, 105, 110]
abbrev tGl : TypeId := 51
abbrev tMo : TypeId := 25
theorem main1_any (c : Cod) (rv bv : Value) (w : World) : Calls Try.prog 33 #[.agg (codA c rv bv)] w fun e w' => e = .returned (.bool (c.nm == wMain)) ∧ Below w.heap.size w w' := by
  obtain ⟨nm, ty, pr, regs, bl⟩ := c
  unfold codA
  simp only
  by_cases h : nm = wMain
  · subst h
    have h1 : (wMain == wMain) = true := by decide
    rw [h1]
    unfold wMain
    go_enter Try.func33, Try.ntmps33
    go_wp2
    go_ret
    exact ⟨rfl, (Below.refl _ _).alloc (Nat.le_refl _) _⟩
  · have h1 : (nm == wMain) = false := by simpa using h
    rw [h1]
    unfold wMain at h1
    obtain ⟨z, hz⟩ : ∃ z, str nm = z := ⟨_, rfl⟩
    have e0 : z.toList = nm := by rw [← hz, ByteArray.toList_eq]
    rw [hz]
    rw [← e0] at h1
    clear hz e0 h
    go_enter Try.func33, Try.ntmps33
    go_wp2
    go_ret
    exact ⟨rfl, (Below.refl _ _).alloc (Nat.le_refl _) _⟩
theorem mainAt_some {m : Mdl} {k : Nat} (hk : k < m.f.length) (h1 : (m.f[k].nm == wMain) = true) (h0 : ∀ x ∈ m.f.take k, (x.nm == wMain) = false) : mainAt m = k := by
  have : m.f.findIdx? (fun f => f.nm == [109, 97, 105, 110]) = some k := by
    rw [List.findIdx?_eq_some_iff_getElem]
    refine ⟨hk, h1, fun j hj => ?_⟩
    have := h0 m.f[j] (by rw [List.mem_take_iff_getElem]; exact ⟨j, by omega, rfl⟩)
    unfold wMain at this
    simp [this]
  unfold mainAt
  rw [this]
theorem mainAt_none {m : Mdl} (h0 : ∀ x ∈ m.f, (x.nm == wMain) = false) : mainAt m = -1 := by
  have : m.f.findIdx? (fun f => f.nm == [109, 97, 105, 110]) = none := by
    rw [List.findIdx?_eq_none_iff]
    exact h0
  unfold mainAt
  rw [this]
theorem mainAt_in {m : Mdl} (h : 0 ≤ mainAt m) : ∃ k : Nat, mainAt m = k ∧ k < m.f.length := by
  unfold mainAt at h ⊢
  cases hf : m.f.findIdx? (fun f => f.nm == [109, 97, 105, 110]) with
  | none => rw [hf] at h; simp at h
  | some k =>
    rw [List.findIdx?_eq_some_iff_getElem] at hf
    exact ⟨k, rfl, hf.1⟩
set_option maxHeartbeats 2000000 in
set_option maxRecDepth 100000 in
theorem idx_any (m : Mdl) (fv : Value) (w : World) (hm : IsF w w.heap.size fv m.f) :
    Calls Try.prog 32 #[fv, .func (.func 33) #[] #[]] w fun e w' => e = .returned (.int .i64 (mainAt m)) ∧ Below w.heap.size w w' := by
  obtain ⟨A, c, rfl, hlc, hcm, hA0⟩ := hm.sl
  unfold maxLen at hcm
  obtain ⟨n, hn⟩ : ∃ n, m.f.length = n := ⟨_, rfl⟩
  have HN := Lib.hid hn
  have HM := Lib.hid hm
  obtain ⟨res, hres⟩ : ∃ r, mainAt m = r := ⟨_, rfl⟩
  have HRES := Lib.hid hres
  rw [hres]
  rw [hn] at hlc ⊢
  clear hm hn hres
  go_enter Try.func32, Try.ntmps32
  go_wp2_with fail
  go_loopw [8] (fun v wr => ∃ j : Nat, j ≤ n ∧ v = .int .i64 j ∧ (∀ x ∈ m.f.take j, (x.nm == wMain) = false) ∧ Below w.heap.size w wr) (fun v _ => n - (intOf v).toNat)
  case atStart => exact ⟨0, by omega, rfl, fun x hx => by simp at hx, Below.refl _ _⟩
  case round =>
    obtain ⟨j, hj, rfl, hal, hbw⟩ := hrel
    have HAL := Lib.hid hal
    have HBW := Lib.hid hbw
    clear hal
    by_cases hlt : j < n
    · have hjl : j < m.f.length := by rw [HN.out]; exact hlt
      obtain ⟨g, o, c9, hv9, hg, -, -, -, rv, bv, hrv, hbv, hx⟩ := (HM.out.below hbw).at hjl
      simp only [Value.slice.injEq] at hv9
      obtain ⟨rfl, -, -⟩ := hv9
      obtain ⟨rA, rc, rfl, -⟩ := hrv.sl
      obtain ⟨bA, bc, rfl, -⟩ := hbv.sl
      have y0 := hx 0 (.string (str m.f[j].nm)) rfl; have y1 := hx 1 (.int .i64 m.f[j].ty) rfl; have y2 := hx 2 (.int .i64 m.f[j].pr) rfl; have y3 := hx 3 (.slice rA m.f[j].regs.length rc) rfl; have y4 := hx 4 (.slice bA m.f[j].bl.length bc) rfl
      simp only [Nat.add_zero] at y0
      simp only at y1 y2 y3 y4
      have hg2 : g < wr.heap.size := by have := hbw.size; omega
      have hlt' : (j : Int) < n := by omega
      have HCL : Hid (∀ W, Calls Try.prog 33 #[.agg (codA m.f[j] (.slice rA m.f[j].regs.length rc) (.slice bA m.f[j].bl.length bc))] W fun e w' => e = .returned (.bool (m.f[j].nm == wMain)) ∧ Below W.heap.size W w') := Lib.hid fun W => main1_any _ _ _ W
      obtain ⟨b, hb⟩ : ∃ b, (m.f[j].nm == wMain) = b := ⟨_, rfl⟩
      have HBV := Lib.hid hb
      rw [hb] at HCL
      have hts := List.take_succ_eq_append_getElem hjl
      have HTS := Lib.hid hts
      unfold codA at HCL
      clear hx hrv hbv hg hb hbw hts
      generalize m.f[j].regs.length = rl at *
      generalize m.f[j].bl.length = bll at *
      generalize hnm : m.f[j].nm = nm at *
      have HNM := Lib.hid hnm
      clear hnm
      generalize m.f[j].ty = ty at *
      generalize m.f[j].pr = pr at *
      cases b
      · go_wp2_with fail
        refine (HCL.out _).mono ?_
        rintro e w2 ⟨rfl, hb2⟩
        have HB2 := Lib.hid (HBW.out.trans (hb2.mono HBW.out.size))
        clear hb2
        go_wp2_with fail
        go_roundw
        case rel => exact ⟨j + 1, by omega, by go_num, fun x hx => by
            rw [HTS.out] at hx
            rcases List.mem_append.1 hx with h | h
            · exact HAL.out x h
            · simp at h; subst h; rw [HNM.out]; exact HBV.out, HB2.out⟩
        case measure => simp [intOf]; omega
      · go_wp2_with fail
        refine (HCL.out _).mono ?_
        rintro e w2 ⟨rfl, hb2⟩
        have HB2 := Lib.hid (HBW.out.trans (hb2.mono HBW.out.size))
        clear hb2
        go_wp2_with fail
        go_ret
        refine ⟨?_, HB2.out⟩
        rw [← HRES.out, mainAt_some hjl (by rw [HNM.out]; exact HBV.out) HAL.out]
        rfl
    · obtain rfl : n = j := by omega
      clear hbw
      go_wp2_with fail
      go_ret
      refine ⟨?_, HBW.out⟩
      rw [← HRES.out, mainAt_none (fun x hx => HAL.out x (by rw [List.take_of_length_le (by rw [HN.out]; exact Nat.le_refl _)]; exact hx))]
      rfl
theorem mainOf_any (m : Mdl) (gv fv : Value) (w : World) (hm : IsM w w.heap.size gv fv m) : Calls Try.prog 22 #[.agg #[gv, fv]] w fun e w' => e = .returned (.int .i64 (mainAt m)) ∧ Below w.heap.size w w' := by
  obtain ⟨gA, gc, rfl, -⟩ := hm.g.sl
  obtain ⟨fA, fc, rfl, -⟩ := hm.f.sl
  have hb : Below w.heap.size w (w.alloc (.cells #[.slice gA m.g.length gc, .slice fA m.f.length fc] tMo)) := (Below.refl _ _).alloc (Nat.le_refl _) _
  have HB := Lib.hid hb
  have HI := Lib.hid (idx_any m _ _ (hm.on hb).f)
  clear hb hm
  go_enter Try.func22, Try.ntmps22
  go_wp2_with fail
  refine HI.out.mono ?_
  rintro e w2 ⟨rfl, hb2⟩
  have HB2 := Lib.hid (HB.out.trans (hb2.mono HB.out.size))
  clear hb2
  go_wp2_with fail
  go_ret
  exact ⟨rfl, HB2.out⟩

theorem all_at_false {α : Type} {l : List α} {p : α → Bool} {k : Nat} (hk : k < l.length) (h : p l[k] = false) : l.all p = false := by
  cases hb : l.all p with
  | false => rfl
  | true => rw [List.all_eq_true] at hb; have := hb _ (List.getElem_mem hk); rw [h] at this; cases this
def SmM (m : Mdl) : Prop := ∀ f ∈ m.f, SmC f
set_option maxHeartbeats 4000000 in
set_option maxRecDepth 100000 in
theorem chk_any (m : Mdl) (hsm : SmM m) (gv fv : Value) (w : World) (hm : IsM w w.heap.size gv fv m) : Calls Try.prog 6 #[.agg #[gv, fv]] w fun e w' => e = .returned (.int .i64 (chk m)) ∧ Below w.heap.size w w' := by
  obtain ⟨gA, gc, rfl, hgl, hgm, -⟩ := hm.g.sl
  obtain ⟨fA, fc, rfl, hfl, hfm, -⟩ := hm.f.sl
  unfold maxLen at hgm hfm
  have hb : Below w.heap.size w (w.alloc (.cells #[.slice gA m.g.length gc, .slice fA m.f.length fc] tMo)) := (Below.refl _ _).alloc (Nat.le_refl _) _
  have hq := Blk.new w tMo #[.slice gA m.g.length gc, .slice fA m.f.length fc]
  have hm1 := hm.on hb
  obtain ⟨gn, hgn⟩ : ∃ n, m.g.length = n := ⟨_, rfl⟩
  obtain ⟨fn, hfn⟩ : ∃ n, m.f.length = n := ⟨_, rfl⟩
  have HGN := Lib.hid hgn
  have HFN := Lib.hid hfn
  rw [hgn] at hb hq hm1 hgl
  rw [hfn] at hb hq hm1 hfl
  have HB := Lib.hid hb
  have HQ := Lib.hid hq
  have HM := Lib.hid hm1
  have HSM := Lib.hid hsm
  obtain ⟨res, hres⟩ : ∃ r, chk m = r := ⟨_, rfl⟩
  have HRES := Lib.hid hres
  rw [hres, hgn, hfn]
  clear hm hb hq hm1 hgn hfn hsm hres
  go_enter Try.func6, Try.ntmps6
  go_upto_region 1 with (fail)
  generalize w.alloc (.cells #[.slice gA gn gc, .slice fA fn fc] tMo) = W1 at *
  have p0 : W1.cell? ⟨w.heap.size, 0, none⟩ = some (.slice gA gn gc) := HQ.out.cell 0
  have pl := HQ.out.lt
  go_wp2_with fail
  go_loopw [14] (fun v wr => ∃ j : Nat, j ≤ gn ∧ v = .int .i64 j ∧ (m.g.take j).all okG = true ∧ Below W1.heap.size W1 wr) (fun v _ => gn - (intOf v).toNat)
  case atStart => exact ⟨0, by omega, rfl, rfl, Below.refl _ _⟩
  case round =>
    obtain ⟨j, hj, rfl, hal, hbw⟩ := hrel
    have HAL := Lib.hid hal
    have HBW := Lib.hid hbw
    clear hal p0 pl
    by_cases hlt : j < gn
    · have hjl : j < m.g.length := by rw [HGN.out]; exact hlt
      obtain ⟨g, o, c9, hv9, hg, -, -, -, hx⟩ := (HM.out.g.below hbw).at hjl
      simp only [Value.slice.injEq] at hv9
      obtain ⟨rfl, -, -⟩ := hv9
      have y0 := hx 0 (.string (str m.g[j].nm)) rfl; have y1 := hx 1 (.int .i64 m.g[j].ty) rfl; have y2 := hx 2 (.int .i64 m.g[j].sz) rfl; have y3 := hx 3 (.int .i64 m.g[j].at_) rfl
      simp only [Nat.add_zero] at y0
      simp only at y1 y2 y3
      have hg2 : g < wr.heap.size := by have := hbw.size; omega
      have hlt' : (j : Int) < gn := by omega
      have hts := all_take_succ okG m.g j hjl
      have HTS := Lib.hid hts
      have hokv : okG m.g[j] = (isV m.g[j].ty || (m.g[j].ty == 3 && decide (0 < m.g[j].sz))) := rfl
      have HOK := Lib.hid hokv
      clear hx hg hbw hts hokv
      generalize okG m.g[j] = okj at *
      generalize m.g[j].nm = nm at *
      generalize m.g[j].ty = ty at *
      generalize m.g[j].sz = sz at *
      generalize m.g[j].at_ = at_ at *
      obtain ⟨q, hq⟩ : ∃ q, isV ty = q := ⟨_, rfl⟩
      have HV : Hid (∀ W, Calls Try.prog 20 #[.int .i64 ty] W fun e w' => e = .returned (.bool q) ∧ W = w') := Lib.hid fun W => by rw [← hq]; exact isValue_any ty W
      rw [hq] at HOK
      obtain ⟨x3, hx3⟩ : ∃ x, (ty == 3) = x := ⟨_, rfl⟩
      obtain ⟨xs, hxs⟩ : ∃ x, decide (0 < sz) = x := ⟨_, rfl⟩
      rw [hx3, hxs] at HOK
      clear hq
      cases q <;> cases x3 <;> cases xs
      all_goals
        go_wp2_with fail
        refine (HV.out _).mono ?_
        rintro e w2 ⟨rfl, rfl⟩
        go_wp2_with fail
        first
          | (go_roundw
             case rel => exact ⟨j + 1, by omega, by go_num, by rw [HTS.out, HAL.out, HOK.out]; rfl, HBW.out.alloc HBW.out.size _⟩
             case measure => simp [intOf]; omega)
          | (go_ret
             refine ⟨?_, HB.out.trans ((HBW.out.alloc HBW.out.size _).mono HB.out.size)⟩
             have e1 : m.g.all okG = false := all_take_false okG m.g (j + 1) (by rw [HTS.out, HAL.out, HOK.out]; rfl)
             rw [← HRES.out, chk, if_pos e1]
             rfl)
    · obtain rfl : gn = j := by omega
      have hga : m.g.all okG = true := by
        have := HAL.out
        rw [List.take_of_length_le (by rw [HGN.out]; exact Nat.le_refl _)] at this
        exact this
      have HGA := Lib.hid hga
      obtain ⟨w2, hw2⟩ : ∃ w2, w2 = wr := ⟨_, rfl⟩
      subst hw2
      have hq2 := HQ.out.on hbw
      have HQ2 := Lib.hid hq2
      have HM2 := Lib.hid (HM.out.on hbw)
      have p1 : w2.cell? ⟨w.heap.size, 1, none⟩ = some (.slice fA fn fc) := hq2.cell 1
      have pl := hq2.lt
      clear hga hq2 hbw
      go_wp2_with fail
      clear p1 pl
      go_loopw [38] (fun v wr => ∃ j : Nat, j ≤ fn ∧ v = .int .i64 j ∧ fst0 ((m.f.map (chkF m)).take j) = 0 ∧ Below w2.heap.size w2 wr) (fun v _ => fn - (intOf v).toNat)
      case atStart => exact ⟨0, by omega, rfl, rfl, Below.refl _ _⟩
      case round =>
        obtain ⟨j, hj2, rfl, hal, hbw⟩ := hrel
        have HAL2 := Lib.hid hal
        have HBW2 := Lib.hid hbw
        have hq3 := HQ2.out.on hbw
        have p0 : wr.cell? ⟨w.heap.size, 0, none⟩ = some (.slice gA gn gc) := hq3.cell 0
        have p1 : wr.cell? ⟨w.heap.size, 1, none⟩ = some (.slice fA fn fc) := hq3.cell 1
        have pl := hq3.lt
        have HM3 := Lib.hid (HM2.out.on hbw)
        have HALL := Lib.hid (HB.out.trans ((HBW.out.trans (hbw.mono HBW.out.size)).mono HB.out.size))
        clear hal hq3
        by_cases hlt : j < fn
        · have hjl : j < m.f.length := by rw [HFN.out]; exact hlt
          obtain ⟨g, o, c9, hv9, hg, -, -, -, rv, bv, hrv, hbv, hx⟩ := HM3.out.f.at hjl
          simp only [Value.slice.injEq] at hv9
          obtain ⟨rfl, -, -⟩ := hv9
          obtain ⟨rA, rc, rfl, -⟩ := hrv.sl
          obtain ⟨bA, bc, rfl, -⟩ := hbv.sl
          have y0 := hx 0 (.string (str m.f[j].nm)) rfl; have y1 := hx 1 (.int .i64 m.f[j].ty) rfl; have y2 := hx 2 (.int .i64 m.f[j].pr) rfl; have y3 := hx 3 (.slice rA m.f[j].regs.length rc) rfl; have y4 := hx 4 (.slice bA m.f[j].bl.length bc) rfl
          simp only [Nat.add_zero] at y0
          simp only at y1 y2 y3 y4
          have hlt' : (j : Int) < fn := by omega
          have hbj : (m.f.map (chkF m))[j]? = some (chkF m m.f[j]) := by rw [List.getElem?_map, List.getElem?_eq_getElem hjl]; rfl
          have HSJ := Lib.hid (HSM.out _ (List.getElem_mem hjl))
          have HRV := Lib.hid hrv
          have HBV := Lib.hid hbv
          have HCK : Hid (∀ W b, Below wr.heap.size wr W → Blk W b tCk #[.slice gA gn gc, .slice (some ⟨g, o, none⟩) fn fc, .string (str m.f[j].nm), .int .i64 m.f[j].ty, .int .i64 m.f[j].pr, .slice rA m.f[j].regs.length rc, .slice bA m.f[j].bl.length bc] → Calls Try.prog 21 #[.pointer (some ⟨b, 0, none⟩)] W fun e w' => e = .returned (.int .i64 (chkF m m.f[j])) ∧ Below W.heap.size W w') :=
            Lib.hid fun W b hW hblk => check_any m m.f[j] HSJ.out b W ⟨⟨_, _, _, _, hblk, HM3.out.on hW, HRV.out.on hW, HBV.out.on hW⟩⟩
          obtain ⟨r, hr⟩ : ∃ r, chkF m m.f[j] = r := ⟨_, rfl⟩
          rw [hr] at HCK hbj
          have HBJ := Lib.hid hbj
          clear hx hbj hrv hbv hr HRV HBV HSJ hbw
          generalize m.f[j].regs.length = rl at *
          generalize m.f[j].bl.length = bll at *
          generalize m.f[j].nm = nm at *
          generalize m.f[j].ty = ty at *
          generalize m.f[j].pr = pr at *
          have hbb := (((Below.refl wr.heap.size wr).alloc (Nat.le_refl _) (.cells #[.string (str nm), .int .i64 ty, .int .i64 pr, .slice rA rl rc, .slice bA bll bc] tCo)).alloc (by simp) (.cells #[.slice gA gn gc, .slice (some ⟨g, o, none⟩) fn fc, .string (str nm), .int .i64 ty, .int .i64 pr, .slice rA rl rc, .slice bA bll bc] tCk))
          have hbk := Blk.new (wr.alloc (.cells #[.string (str nm), .int .i64 ty, .int .i64 pr, .slice rA rl rc, .slice bA bll bc] tCo)) tCk #[.slice gA gn gc, .slice (some ⟨g, o, none⟩) fn fc, .string (str nm), .int .i64 ty, .int .i64 pr, .slice rA rl rc, .slice bA bll bc]
          rw [show (wr.alloc (.cells #[.string (str nm), .int .i64 ty, .int .i64 pr, .slice rA rl rc, .slice bA bll bc] tCo)).heap.size = wr.heap.size + 1 by simp] at hbk
          have HBB := Lib.hid hbb
          have HBK := Lib.hid hbk
          clear hbb hbk
          by_cases hr0 : r = 0
          · have d1 : (r != 0) = false := by simpa using hr0
            have HR0 := Lib.hid hr0
            clear hr0
            go_upto_region 12 with (fail)
            go_wp2_with fail
            refine (HCK.out _ _ HBB.out HBK.out).mono ?_
            rintro e w5 ⟨rfl, hb5⟩
            have HB5 := Lib.hid (HBW2.out.trans ((HBB.out.trans (hb5.mono HBB.out.size)).mono HBW2.out.size))
            clear hb5
            go_wp2_with fail
            go_roundw
            case rel => exact ⟨j + 1, by omega, by go_num, fst0_up HAL2.out HBJ.out HR0.out, HB5.out⟩
            case measure => simp [intOf]; omega
          · have d1 : (r != 0) = true := by simpa using hr0
            have HR0 := Lib.hid hr0
            clear hr0
            go_upto_region 12 with (fail)
            go_wp2_with fail
            refine (HCK.out _ _ HBB.out HBK.out).mono ?_
            rintro e w5 ⟨rfl, hb5⟩
            have HB5 := Lib.hid (HALL.out.trans ((HBB.out.trans (hb5.mono HBB.out.size)).mono HALL.out.size))
            clear hb5
            go_wp2_with fail
            go_ret
            refine ⟨?_, HB5.out⟩
            have e1 : fst0 (m.f.map (chkF m)) = r := fst0_at HAL2.out HBJ.out HR0.out
            rw [← HRES.out, chk, if_neg (by rw [HGA.out]; simp), e1, if_pos HR0.out]
            rfl
        · obtain rfl : fn = j := by omega
          have hfa : fst0 (m.f.map (chkF m)) = 0 := by
            have := HAL2.out
            rw [List.take_of_length_le (by rw [List.length_map, HFN.out]; exact Nat.le_refl _)] at this
            exact this
          have hrs : res = if mainAt m < 0 then 12 else if (fAt m (mainAt m)).ty ≠ 1 ∨ 0 < (fAt m (mainAt m)).pr then 12 else 0 := by
            rw [← HRES.out, chk, if_neg (by rw [HGA.out]; simp), if_neg (by rw [hfa]; simp)]
          have HRS := Lib.hid hrs
          have HMO := Lib.hid (mainOf_any m _ _ wr HM3.out)
          obtain ⟨mm, hmm⟩ : ∃ x, mainAt m = x := ⟨_, rfl⟩
          have HMM := Lib.hid hmm
          have HMI := Lib.hid (@mainAt_in m)
          rw [hmm] at HMO HRS HMI
          clear hfa hrs hmm
          go_wp2_with fail
          refine HMO.out.mono ?_
          rintro e w5 ⟨rfl, hb5⟩
          have HB5 := Lib.hid (HALL.out.trans (hb5.mono HALL.out.size))
          have hq5 : Blk w5 w.heap.size tMo #[.slice gA gn gc, .slice fA fn fc] := (hb5.block _ pl).trans (HQ2.out.on hbw)
          have hm5 := HM3.out.on hb5
          have p1' : w5.cell? ⟨w.heap.size, 1, none⟩ = some (.slice fA fn fc) := hq5.cell 1
          have pl' := hq5.lt
          by_cases hneg : mm < 0
          · have d1 : decide (mm < 0) = true := by simpa using hneg
            have HNG := Lib.hid hneg
            clear hneg hb5 hq5 hm5
            go_wp2_with fail
            go_ret
            refine ⟨?_, HB5.out⟩
            rw [HRS.out, if_pos HNG.out]
            rfl
          · have d1 : decide (mm < 0) = false := by simpa using hneg
            obtain ⟨k, rfl, hk⟩ := HMI.out (by omega)
            obtain ⟨g, o, c9, hv9, hg, -, -, -, rv, bv, -, -, hx⟩ := hm5.f.at hk
            simp only [Value.slice.injEq] at hv9
            obtain ⟨rfl, -, -⟩ := hv9
            have y1 := hx 1 (.int .i64 m.f[k].ty) rfl; have y2 := hx 2 (.int .i64 m.f[k].pr) rfl
            simp only at y1 y2
            have hkf : (k : Int) < fn := by have := HFN.out; omega
            have hrs := HRS.out
            rw [if_neg hneg, fAt_lt hk] at hrs
            have HR3 := Lib.hid hrs
            clear hrs
            generalize m.f[k].ty = ty at *
            generalize m.f[k].pr = pr at *
            clear hneg hb5 hq5 hm5 hx HRS HMI HMO HMM
            by_cases ht : ty = 1
            · have HT := Lib.hid ht
              have d2 : (ty != 1) = false := by simpa using ht
              clear ht
              by_cases hp : 0 < pr
              · have HP := Lib.hid hp
                have d3 : decide (0 < pr) = true := by simpa using hp
                clear hp
                go_wp2_with fail
                go_ret
                refine ⟨?_, HB5.out⟩
                rw [HR3.out, if_pos (Or.inr HP.out)]
                rfl
              · have HP := Lib.hid hp
                have d3 : decide (0 < pr) = false := by simpa using hp
                clear hp
                go_wp2_with fail
                go_ret
                refine ⟨?_, HB5.out⟩
                rw [HR3.out, if_neg (by have := HT.out; have := HP.out; omega)]
                rfl
            · have HT := Lib.hid ht
              have d2 : (ty != 1) = true := by simpa using ht
              clear ht
              go_wp2_with fail
              go_ret
              refine ⟨?_, HB5.out⟩
              rw [HR3.out, if_pos (Or.inl HT.out)]
              rfl
end Go.Proofs.Ytjmlpbnejcfnhaa
