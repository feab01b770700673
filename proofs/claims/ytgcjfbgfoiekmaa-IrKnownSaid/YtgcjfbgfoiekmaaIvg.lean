/-
  Layer ir: walks of hasGlobal, hasPlace, haveBlocks, leadsTo.
-/
import Derived.Test.YtgcjfbgfoiekmaaIvf
namespace Go.Proofs.Ytgcjfbgfoiekmaa
open Go Go.RowKit
set_option linter.unusedVariables false
set_option linter.unusedSimpArgs false

theorem hasGlobal_any (m : Mdl) (f : Cod) (n : Int) (cb : Nat) (w : World) (hc : CkV w cb m f) :
    Calls Try.prog 55 #[.pointer (some ⟨cb, 0, none⟩), .int .i64 n] w fun e w' => e = .returned (.bool (inR m.g n)) ∧ w = w' := by
  obtain ⟨gv, fv, rv, bv, hb, hm, -, -⟩ := hc.x
  obtain ⟨A, c, rfl, hlc, hcm, hA0⟩ := hm.g.sl
  have c0 : w.cell? ⟨cb, 0, none⟩ = some (.slice A m.g.length c) := hb.cell 0
  have cl := hb.lt
  clear hc hb hm
  by_cases h0 : n < 0
  · rw [inR_neg h0]
    have d1 : decide (0 ≤ n) = false := by simp; omega
    clear h0
    go_enter Try.func55, Try.ntmps55
    go_wp2
    go_ret
    exact ⟨rfl, rfl⟩
  · have d1 : decide (0 ≤ n) = true := by simp; omega
    by_cases h1 : (m.g.length : Int) ≤ n
    · rw [inR_big h1]
      have d2 : decide (n < (m.g.length : Int)) = false := by simp; omega
      clear h0 h1
      go_enter Try.func55, Try.ntmps55
      go_wp2
      go_ret
      exact ⟨rfl, rfl⟩
    · rw [inR_true (by omega) (by omega)]
      have d2 : decide (n < (m.g.length : Int)) = true := by simp; omega
      clear h0 h1
      go_enter Try.func55, Try.ntmps55
      go_wp2
      go_ret
      exact ⟨rfl, rfl⟩
set_option maxHeartbeats 1000000 in
theorem haveBlocks_any (m : Mdl) (f : Cod) (l : List Int) (v : Value) (cb : Nat) (w : World) (hc : CkV w cb m f) (hv : IsI w w.heap.size v l) :
    Calls Try.prog 56 #[.pointer (some ⟨cb, 0, none⟩), v] w fun e w' => e = .returned (.bool (l.all (inR f.bl))) ∧ w = w' := by
  obtain ⟨A, c, rfl, hlc, hcm, hA0⟩ := hv.sl
  unfold maxLen at hcm
  obtain ⟨n, hn⟩ : ∃ n, l.length = n := ⟨_, rfl⟩
  obtain ⟨gv, fv, rv, bv, hb, -, -, hbi⟩ := hc.x
  obtain ⟨bA, bc, rfl, hbl, hbm, hbA⟩ := hbi.sl
  have HV := Lib.hid hv
  have HN := Lib.hid hn
  obtain ⟨res, hres⟩ : ∃ r, l.all (inR f.bl) = r := ⟨_, rfl⟩
  have HRES := Lib.hid hres
  rw [hres]
  rw [hn] at hlc ⊢
  have c6 : w.cell? ⟨cb, 6, none⟩ = some (.slice bA f.bl.length bc) := hb.cell 6
  have cl := hb.lt
  clear hc hv hb hbi hn hres
  go_enter Try.func56, Try.ntmps56
  go_wp2_with fail
  go_loop [9] (fun v => ∃ j : Nat, j ≤ n ∧ v = .int .i64 j ∧ (l.take j).all (inR f.bl) = true) (fun v => n - (intOf v).toNat)
  case atStart => exact ⟨0, by omega, rfl, by simp⟩
  case round =>
    obtain ⟨j, hj, rfl, hal⟩ := hrel
    have HAL := Lib.hid hal
    clear hal
    by_cases hlt : j < n
    · have hjl : j < l.length := by rw [HN.out]; exact hlt
      obtain ⟨g, o, c9, hv9, hg, -, -, hx0, -⟩ := HV.out.at hjl
      simp only [Value.slice.injEq] at hv9
      obtain ⟨rfl, -, -⟩ := hv9
      have x0 : w.cell? ⟨g, o + j, none⟩ = some (.int .i64 l[j]) := by simpa using hx0
      have hts := all_take_succ (inR f.bl) l j hjl
      have HTS := Lib.hid hts
      have hlt' : (j : Int) < n := by omega
      clear hts hx0
      generalize l[j] = r at *
      by_cases h1 : r < 0
      · have d1 : decide (r < 0) = true := by simpa using h1
        have HI := Lib.hid (inR_neg (l := f.bl) h1)
        clear h1
        go_wp2_with fail
        go_ret
        refine ⟨?_, rfl⟩
        rw [← HRES.out, all_take_false _ l (j + 1) (by rw [HTS.out, HAL.out, HI.out]; rfl)]
        rfl
      · have d1 : decide (r < 0) = false := by simpa using h1
        by_cases h2 : (f.bl.length : Int) ≤ r
        · have d2 : decide ((f.bl.length : Int) ≤ r) = true := by simpa using h2
          have HI := Lib.hid (inR_big (l := f.bl) h2)
          clear h1 h2
          go_wp2_with fail
          go_ret
          refine ⟨?_, rfl⟩
          rw [← HRES.out, all_take_false _ l (j + 1) (by rw [HTS.out, HAL.out, HI.out]; rfl)]
          rfl
        · have d2 : decide ((f.bl.length : Int) ≤ r) = false := by simpa using h2
          have HI := Lib.hid (inR_true (l := f.bl) (i := r) (by omega) (by omega))
          clear h1 h2
          go_wp2_with fail
          go_round
          case rel => exact ⟨j + 1, by omega, by go_num, by rw [HTS.out, HAL.out, HI.out]; rfl⟩
          case measure => simp [intOf]; omega
    · obtain rfl : n = j := by omega
      go_wp2_with fail
      go_ret
      refine ⟨?_, rfl⟩
      rw [← HRES.out]
      have := HAL.out
      rw [List.take_of_length_le (by rw [HN.out]; exact Nat.le_refl _)] at this
      rw [this]
      rfl
def leadM (f : Cod) (bl : List Int) (nl : List (Int × (Int → Bool))) : Int := if (bl.all (inR f.bl) && existL f nl) = false then 11 else if fitL f nl = false then 6 else 0
set_option maxHeartbeats 1000000 in
theorem leadsTo_any (m : Mdl) (f : Cod) (bl : List Int) (nl : List (Int × (Int → Bool))) (v v2 : Value) (cb : Nat) (w : World) (hc : CkV w cb m f) (hv : IsI w w.heap.size v bl) (hv2 : IsNd w True v2 nl) :
    Calls Try.prog 41 #[.pointer (some ⟨cb, 0, none⟩), v, v2] w fun e w' => e = .returned (.int .i64 (leadM f bl nl)) ∧ Below w.heap.size w w' := by
  obtain ⟨A, c, rfl, -⟩ := hv.sl
  obtain ⟨A2, c2, rfl, -⟩ := hv2.sl
  obtain ⟨x, hx⟩ : ∃ x, bl.all (inR f.bl) = x := ⟨_, rfl⟩
  obtain ⟨y, hy⟩ : ∃ y, existL f nl = y := ⟨_, rfl⟩
  obtain ⟨z, hz⟩ : ∃ z, fitL f nl = z := ⟨_, rfl⟩
  have H1 := Lib.hid (haveBlocks_any m f bl _ cb w hc hv)
  have H2 := Lib.hid (exist_any m f nl _ True cb w hc hv2)
  have H3 : Hid (y = true → ∀ W, Below w.heap.size w W → Calls Try.prog 40 #[.pointer (some ⟨cb, 0, none⟩), .slice A2 nl.length c2] W fun e w' => e = .returned (.bool z) ∧ Below W.heap.size W w') := Lib.hid fun h W hW => by rw [← hz]; exact fit_any m f nl _ True trivial (by rw [hy]; exact h) cb W (hc.on hW) (hv2.on hW)
  rw [hx] at H1
  rw [hy] at H2
  unfold leadM
  rw [hx, hy, hz]
  obtain ⟨r, hr⟩ : ∃ r : Int, (if (x && y) = false then (11 : Int) else if z = false then 6 else 0) = r := ⟨_, rfl⟩
  rw [hr]
  have HR := Lib.hid hr
  clear hx hy hz hc hv hv2 hr
  go_enter Try.func41, Try.ntmps41
  cases x
  · go_wp2_with fail
    refine H1.out.mono ?_
    rintro e w1 ⟨rfl, rfl⟩
    clear H1
    go_wp2_with fail
    go_ret
    exact ⟨by rw [← HR.out]; rfl, Below.refl _ _⟩
  · go_wp2_with fail
    refine H1.out.mono ?_
    rintro e w1 ⟨rfl, rfl⟩
    clear H1
    cases y
    · go_wp2_with fail
      refine H2.out.mono ?_
      rintro e w2 ⟨rfl, hb2⟩
      have HB2 := Lib.hid hb2
      clear hb2 H2
      go_wp2_with fail
      go_ret
      exact ⟨by rw [← HR.out]; rfl, HB2.out⟩
    · go_wp2_with fail
      refine H2.out.mono ?_
      rintro e w2 ⟨rfl, hb2⟩
      have HB2 := Lib.hid hb2
      clear hb2 H2
      go_wp2_with fail
      refine (H3.out (by first | rfl | trivial) _ HB2.out).mono ?_
      rintro e w3 ⟨rfl, hb3⟩
      have HB3 := Lib.hid (HB2.out.trans (hb3.mono HB2.out.size))
      clear hb3
      cases z
      all_goals
        go_wp2_with fail
        go_ret
        exact ⟨by rw [← HR.out]; rfl, HB3.out⟩

/-! places -/
theorem placeI_1 {m : Mdl} {f : Cod} {i : Ins} (h : i.op = 1) : placeI m f i = (wr (at0 f.regs i.dst) i.n == i.n) := by simp [placeI, h]
theorem placeI_5 {m : Mdl} {f : Cod} {i : Ins} (h : i.op = 5 ∨ i.op = 6) : placeI m f i = (inR m.g i.n && decide (0 < (gAt m i.n).sz)) := by
  unfold placeI; rw [if_neg (by omega), if_pos h]
theorem placeI_7 {m : Mdl} {f : Cod} {i : Ins} (h : i.op = 7 ∨ i.op = 8) : placeI m f i = (inR m.g i.n && (gAt m i.n).sz == 0) := by
  unfold placeI; rw [if_neg (by omega), if_neg (by omega), if_pos h]
theorem placeI_9 {m : Mdl} {f : Cod} {i : Ins} (h : i.op = 9) : placeI m f i = (inR m.f i.n && decide ((fAt m i.n).pr ≤ ((fAt m i.n).regs.length : Int))) := by
  unfold placeI; rw [if_neg (by omega), if_neg (by omega), if_neg (by omega), if_pos h]
theorem placeI_o {m : Mdl} {f : Cod} {i : Ins} (h : i.op ≠ 1 ∧ i.op ≠ 5 ∧ i.op ≠ 6 ∧ i.op ≠ 7 ∧ i.op ≠ 8 ∧ i.op ≠ 9) : placeI m f i = true := by
  unfold placeI; rw [if_neg (by omega), if_neg (by omega), if_neg (by omega), if_neg (by omega)]
/-- The cells of an instruction's own box. -/
theorem insBox {W : World} {b : Nat} {i : Ins} {av : Value} (h : Blk W b tIn (insA i av)) : W.cell? ⟨b, 0, none⟩ = some (.int .i64 i.op) ∧ W.cell? ⟨b, 1, none⟩ = some (.int .i64 i.ty) ∧ W.cell? ⟨b, 2, none⟩ = some (.int .i64 i.dst) ∧ W.cell? ⟨b, 3, none⟩ = some (.int .i64 i.a) ∧
    W.cell? ⟨b, 4, none⟩ = some (.int .i64 i.b) ∧ W.cell? ⟨b, 5, none⟩ = some (.int .i64 i.n) ∧ W.cell? ⟨b, 6, none⟩ = some (.string (str i.s)) ∧ W.cell? ⟨b, 7, none⟩ = some av ∧ b < W.heap.size :=
  ⟨h.cell 0, h.cell 1, h.cell 2, h.cell 3, h.cell 4, h.cell 5, h.cell 6, h.cell 7, h.lt⟩
theorem regs_wf {w : World} {B : Nat} {v : Value} {l : List Int} (h : IsI w B v l) : ∀ x ∈ l, iw x := fun x hx => by
  obtain ⟨k, hk, rfl⟩ := List.getElem_of_mem hx
  obtain ⟨_, _, _, _, _, _, _, -, h2⟩ := h.at hk
  exact h2
set_option maxHeartbeats 4000000 in
set_option maxRecDepth 100000 in
theorem hasPlace_any (m : Mdl) (f : Cod) (i : Ins) (av : Value) (cb : Nat) (w : World) (hc : CkV w cb m f) (hex : existL f (needL m f i) = true) :
    Calls Try.prog 39 #[.pointer (some ⟨cb, 0, none⟩), .agg (insA i av)] w fun e w' => e = .returned (.bool (placeI m f i)) ∧ Below w.heap.size w w' := by
  have hb1 : Below w.heap.size w (w.alloc (.cells (insA i av) tIn)) := (Below.refl _ _).alloc (Nat.le_refl _) _
  have hc1 := hc.on hb1
  have hq := Blk.new w tIn (insA i av)
  have HB1 := Lib.hid hb1
  have HC1 := Lib.hid hc1
  have HQ := Lib.hid hq
  have HEX := Lib.hid hex
  obtain ⟨res, hres⟩ : ∃ r, placeI m f i = r := ⟨_, rfl⟩
  have HRES := Lib.hid hres
  rw [hres]
  clear hc hb1 hc1 hq hex hres
  unfold insA at HB1 HC1 HQ ⊢
  obtain ⟨op, ty, dst, a, b, n, s, args⟩ := i
  simp only at HB1 HC1 HQ ⊢
  go_enter Try.func39, Try.ntmps39
  go_upto_region 1 with (fail)
  generalize w.alloc (.cells #[.int .i64 op, .int .i64 ty, .int .i64 dst, .int .i64 a, .int .i64 b, .int .i64 n, .string (str s), av] tIn) = W1 at *
  obtain ⟨q0, -, q2, -, -, q5, -, -, ql⟩ := insBox (i := ⟨op, ty, dst, a, b, n, s, args⟩) HQ.out
  simp only at q0 q2 q5
  obtain ⟨gv, fv, rv, bv, hb, hm, hri, -⟩ := HC1.out.x
  have HM := Lib.hid hm
  have HRI := Lib.hid hri
  obtain ⟨c0, c1, c5, cl⟩ : W1.cell? ⟨cb, 0, none⟩ = some gv ∧ W1.cell? ⟨cb, 1, none⟩ = some fv ∧ W1.cell? ⟨cb, 5, none⟩ = some rv ∧ cb < W1.heap.size := ⟨hb.cell 0, hb.cell 1, hb.cell 5, hb.lt⟩
  clear hb hm hri
  have HHG : Hid (∀ W, Below W1.heap.size W1 W → Calls Try.prog 55 #[.pointer (some ⟨cb, 0, none⟩), .int .i64 n] W fun e w' => e = .returned (.bool (inR m.g n)) ∧ W = w') := Lib.hid fun W hW => hasGlobal_any m f n cb W (HC1.out.on hW)
  by_cases h1 : op = 1
  · subst h1
    have hr : inR f.regs dst = true := by have := HEX.out; simpa [existL, needL] using this
    obtain ⟨k, rfl, hk⟩ := inR_nat hr
    obtain ⟨g, o, c, rfl, hg, -, -, hx, hxw⟩ := HRI.out.at hk
    have x0 : W1.cell? ⟨g, o + k, none⟩ = some (.int .i64 f.regs[k]) := by simpa using hx
    have hlt : (k : Int) < f.regs.length := by omega
    have hpl := placeI_1 (m := m) (f := f) (i := ⟨1, ty, (k : Nat), a, b, n, s, args⟩) rfl
    rw [at0_lt hk] at hpl
    have HW : Hid (∀ W, Calls Try.prog 54 #[.int .i64 f.regs[k], .int .i64 n] W fun e w' => e = .returned (.int .i64 (wr f.regs[k] n)) ∧ Below W.heap.size W w') := Lib.hid fun W => wrap_any _ n W hxw
    have HPL := Lib.hid hpl
    clear hpl hx hxw hr
    generalize f.regs[k] = tv at *
    obtain ⟨z, hz⟩ : ∃ z, wr tv n = z := ⟨_, rfl⟩
    rw [hz] at HW HPL
    clear hz
    have J : Below W1.heap.size W1 W1 := Below.refl _ _
    have HS : Hid (∀ Wx, Below W1.heap.size W1 Wx → Wx.cell? ⟨cb, 5, none⟩ = some (.slice (some ⟨g, o, none⟩) f.regs.length c) ∧ Wx.cell? ⟨w.heap.size, 2, none⟩ = some (.int .i64 (k : Nat)) ∧ Wx.cell? ⟨g, o + k, none⟩ = some (.int .i64 tv) ∧ Wx.cell? ⟨w.heap.size, 5, none⟩ = some (.int .i64 n) ∧ cb < Wx.heap.size ∧ w.heap.size < Wx.heap.size ∧ g < Wx.heap.size) := Lib.hid fun Wx h => by
      have hz := h.size
      exact ⟨(h.cell (p := ⟨cb, 5, none⟩) cl).trans c5, (h.cell (p := ⟨w.heap.size, 2, none⟩) ql).trans q2, (h.cell (p := ⟨g, o + k, none⟩) hg).trans x0, (h.cell (p := ⟨w.heap.size, 5, none⟩) ql).trans q5, by omega, by omega, by omega⟩
    go_upto_region 3 with (fail)
    go_region_held3 (fun Wx => Wx.cell? ⟨cb, 5, none⟩ = some (.slice (some ⟨g, o, none⟩) f.regs.length c) ∧ Wx.cell? ⟨w.heap.size, 2, none⟩ = some (.int .i64 (k : Nat)) ∧ Wx.cell? ⟨g, o + k, none⟩ = some (.int .i64 tv) ∧ Wx.cell? ⟨w.heap.size, 5, none⟩ = some (.int .i64 n) ∧ cb < Wx.heap.size ∧ w.heap.size < Wx.heap.size ∧ g < Wx.heap.size)
      (first | exact ⟨c5, q2, x0, q5, cl, ql, hg⟩ | exact HS.out _ J)
      (first
        | (go_at_call 54; (with_reducible refine Calls.mono (HW.out _) ?_); rintro e v1 ⟨rfl, b1⟩; have J : Below W1.heap.size W1 v1 := by first | exact J.trans (b1.mono J.size) | exact J.drew.trans (b1.mono J.drew.size)))
    all_goals
      have HJ := Lib.hid (HB1.out.trans (J.mono HB1.out.size))
      clear J
      go_wp2_with fail
      first
        | (refine ⟨?_, HJ.out⟩; rw [← HRES.out, HPL.out]; rfl)
        | (go_ret; refine ⟨?_, HJ.out⟩; rw [← HRES.out, HPL.out]; rfl)
  have d1 : (op == 1) = false := by simpa using h1
  by_cases h5 : op = 5 ∨ op = 6
  · have hpl := placeI_5 (m := m) (f := f) (i := ⟨op, ty, dst, a, b, n, s, args⟩) h5
    simp only at hpl
    cases hin : inR m.g n with
    | false =>
      rw [hin] at hpl HHG
      have HPL := Lib.hid hpl
      clear hpl hin
      rcases h5 with rfl | rfl
      all_goals
        go_upto_region 6 with (fail)
        go_quiet ((go_at_call 55; exact Calls.quiet_of_same ((HHG.out _ (below_drewN _ _ _)).mono fun _ _ h => ⟨h.1, h.2.symm⟩)))
        go_wp2_with fail
        go_ret
        exact ⟨by rw [← HRES.out, HPL.out]; rfl, HB1.out.trans (below_drewN _ _ _)⟩
    | true =>
      rw [hin] at hpl HHG
      obtain ⟨k, rfl, hk⟩ := inR_nat hin
      obtain ⟨g, o, c, rfl, hg, -, -, -, hx⟩ := HM.out.g.at hk
      have x0 : W1.cell? ⟨g, o + k * 4 + 2, none⟩ = some (.int .i64 m.g[k].sz) := hx 2 _ rfl
      rw [gAt_lt hk] at hpl
      have hlt : (k : Int) < m.g.length := by omega
      have HPL := Lib.hid hpl
      clear hpl hin hx
      generalize m.g[k].sz = sz at *
      obtain ⟨q, hq⟩ : ∃ q, decide (0 < sz) = q := ⟨_, rfl⟩
      rw [hq] at HPL
      rcases h5 with rfl | rfl
      all_goals
        cases q
        all_goals
          go_upto_region 6 with (fail)
          go_quiet ((go_at_call 55; exact Calls.quiet_of_same ((HHG.out _ (below_drewN _ _ _)).mono fun _ _ h => ⟨h.1, h.2.symm⟩)))
          go_wp2_with fail
          go_ret
          exact ⟨by rw [← HRES.out, HPL.out]; rfl, HB1.out.trans (below_drewN _ _ _)⟩
  have d5 : (op == 5) = false := by simp; omega
  have d6 : (op == 6) = false := by simp; omega
  by_cases h7 : op = 7 ∨ op = 8
  · have hpl := placeI_7 (m := m) (f := f) (i := ⟨op, ty, dst, a, b, n, s, args⟩) h7
    simp only at hpl
    cases hin : inR m.g n with
    | false =>
      rw [hin] at hpl HHG
      have HPL := Lib.hid hpl
      clear hpl hin
      rcases h7 with rfl | rfl
      all_goals
        go_upto_region 9 with (fail)
        go_quiet ((go_at_call 55; exact Calls.quiet_of_same ((HHG.out _ (below_drewN _ _ _)).mono fun _ _ h => ⟨h.1, h.2.symm⟩)))
        go_wp2_with fail
        go_ret
        exact ⟨by rw [← HRES.out, HPL.out]; rfl, HB1.out.trans (below_drewN _ _ _)⟩
    | true =>
      rw [hin] at hpl HHG
      obtain ⟨k, rfl, hk⟩ := inR_nat hin
      obtain ⟨g, o, c, rfl, hg, -, -, -, hx⟩ := HM.out.g.at hk
      have x0 : W1.cell? ⟨g, o + k * 4 + 2, none⟩ = some (.int .i64 m.g[k].sz) := hx 2 _ rfl
      rw [gAt_lt hk] at hpl
      have hlt : (k : Int) < m.g.length := by omega
      have HPL := Lib.hid hpl
      clear hpl hin hx
      generalize m.g[k].sz = sz at *
      obtain ⟨q, hq⟩ : ∃ q, (sz == 0) = q := ⟨_, rfl⟩
      rw [hq] at HPL
      rcases h7 with rfl | rfl
      all_goals
        cases q
        all_goals
          go_upto_region 9 with (fail)
          go_quiet ((go_at_call 55; exact Calls.quiet_of_same ((HHG.out _ (below_drewN _ _ _)).mono fun _ _ h => ⟨h.1, h.2.symm⟩)))
          go_wp2_with fail
          go_ret
          exact ⟨by rw [← HRES.out, HPL.out]; rfl, HB1.out.trans (below_drewN _ _ _)⟩
  have d7 : (op == 7) = false := by simp; omega
  have d8 : (op == 8) = false := by simp; omega
  by_cases h9 : op = 9
  · subst h9
    have hpl := placeI_9 (m := m) (f := f) (i := ⟨9, ty, dst, a, b, n, s, args⟩) rfl
    simp only at hpl
    cases hin : inR m.f n with
    | false =>
      rw [hin] at hpl
      have HPL := Lib.hid hpl
      obtain ⟨A, c, rfl, -⟩ := HM.out.f.sl
      by_cases h0 : n < 0
      · have e1 : decide (0 ≤ n) = false := by simp; omega
        clear hpl hin h0
        go_upto_region 11 with (fail)
        go_quiet (fail)
        go_wp2_with fail
        go_ret
        exact ⟨by rw [← HRES.out, HPL.out]; rfl, HB1.out.trans (below_drewN _ _ _)⟩
      · have e1 : decide (0 ≤ n) = true := by simp; omega
        have e2 : decide (n < (m.f.length : Int)) = false := by
          simp only [inR, e1, Bool.true_and] at hin
          exact hin
        clear hpl hin h0
        go_upto_region 11 with (fail)
        go_quiet (fail)
        go_wp2_with fail
        go_ret
        exact ⟨by rw [← HRES.out, HPL.out]; rfl, HB1.out.trans (below_drewN _ _ _)⟩
    | true =>
      rw [hin] at hpl
      obtain ⟨k, rfl, hk⟩ := inR_nat hin
      obtain ⟨g, o, c, rfl, hg, -, -, -, rv', bv', hri', -, hx⟩ := HM.out.f.at hk
      obtain ⟨rA, rc, rfl, -⟩ := hri'.sl
      rw [fAt_lt hk] at hpl
      have x0 : W1.cell? ⟨g, o + k * 5 + 2, none⟩ = some (.int .i64 m.f[k].pr) := hx 2 _ rfl
      have x1 : W1.cell? ⟨g, o + k * 5 + 3, none⟩ = some (.slice rA m.f[k].regs.length rc) := hx 3 _ rfl
      have hlt : (k : Int) < m.f.length := by omega
      have e1 : decide ((0 : Int) ≤ (k : Int)) = true := by simp
      have e2 : decide ((k : Int) < (m.f.length : Int)) = true := by simp; omega
      have e3 : decide (k < m.f.length) = true := by simp; omega
      have HPL := Lib.hid hpl
      clear hpl hin hx hri'
      generalize m.f[k].regs.length = rl at *
      generalize m.f[k].pr = pr at *
      obtain ⟨q, hq⟩ : ∃ q, decide (pr ≤ (rl : Int)) = q := ⟨_, rfl⟩
      rw [hq] at HPL
      cases q
      all_goals
        go_upto_region 11 with (fail)
        go_quiet (fail)
        go_wp2_with fail
        go_ret
        exact ⟨by rw [← HRES.out, HPL.out]; rfl, HB1.out.trans (below_drewN _ _ _)⟩
  have d9 : (op == 9) = false := by simp; omega
  have HPL := Lib.hid (placeI_o (m := m) (f := f) (i := ⟨op, ty, dst, a, b, n, s, args⟩) ⟨h1, by simp only; omega, by simp only; omega, by simp only; omega, by simp only; omega, h9⟩)
  clear h1 h5 h7 h9
  go_wp2_with fail
  go_ret
  exact ⟨by rw [← HRES.out, HPL.out]; rfl, HB1.out⟩
end Go.Proofs.Ytgcjfbgfoiekmaa
