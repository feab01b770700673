/-
  Layer ir: walks of head, instruction.
-/
import Derived.Test.YtgcjfbgfoiekmaaIvg
namespace Go.Proofs.Ytgcjfbgfoiekmaa
open Go Go.RowKit
set_option linter.unusedVariables false
set_option linter.unusedSimpArgs false

abbrev tCo : TypeId := 57
abbrev tBl : TypeId := 51
abbrev tEn : TypeId := 49
set_option maxHeartbeats 2000000 in
set_option maxRecDepth 100000 in
theorem head_any (m : Mdl) (f : Cod) (cb : Nat) (w : World) (hc : CkV w cb m f) :
    Calls Try.prog 24 #[.pointer (some ⟨cb, 0, none⟩)] w fun e w' => e = .returned (.int .i64 (chkH f)) ∧ Below w.heap.size w w' := by
  obtain ⟨gv, fv, rv, bv, hb, hm, hri, hbi⟩ := hc.x
  obtain ⟨rA, rc, rfl, hrl, hrm, hrA⟩ := hri.sl
  obtain ⟨bA, bc, rfl, hbl, hbm, hbA⟩ := hbi.sl
  unfold maxLen at hrm hbm
  obtain ⟨res, hres⟩ : ∃ r, chkH f = r := ⟨_, rfl⟩
  have HRES := Lib.hid hres
  rw [hres]
  have HRI := Lib.hid hri
  obtain ⟨c2, c3, c4, c5, c6, cl⟩ : w.cell? ⟨cb, 2, none⟩ = some (.string (str f.nm)) ∧ w.cell? ⟨cb, 3, none⟩ = some (.int .i64 f.ty) ∧ w.cell? ⟨cb, 4, none⟩ = some (.int .i64 f.pr) ∧ w.cell? ⟨cb, 5, none⟩ = some (.slice rA f.regs.length rc) ∧ w.cell? ⟨cb, 6, none⟩ = some (.slice bA f.bl.length bc) ∧ cb < w.heap.size :=
    ⟨hb.cell 2, hb.cell 3, hb.cell 4, hb.cell 5, hb.cell 6, hb.lt⟩
  have hb1 : Below w.heap.size w (w.alloc (.cells #[.string (str f.nm), .int .i64 f.ty, .int .i64 f.pr, .slice rA f.regs.length rc, .slice bA f.bl.length bc] tCo)) := (Below.refl _ _).alloc (Nat.le_refl _) _
  have hq := Blk.new w tCo #[.string (str f.nm), .int .i64 f.ty, .int .i64 f.pr, .slice rA f.regs.length rc, .slice bA f.bl.length bc]
  have HB1 := Lib.hid hb1
  have HQ := Lib.hid hq
  unfold chkH at HRES
  obtain ⟨nm, ty, pr, regs, bl⟩ := f
  simp only at HRES HRI c2 c3 c4 c5 c6 HB1 HQ hrl hbl
  obtain ⟨bn, hbn⟩ : ∃ n, bl.length = n := ⟨_, rfl⟩
  obtain ⟨rn, hrn⟩ : ∃ n, regs.length = n := ⟨_, rfl⟩
  have hbe : bl = [] ↔ bn = 0 := by rw [← hbn]; exact List.length_eq_zero_iff.symm
  simp only [hbn, hrn, hbe] at HRES
  rw [hbn] at c6 HB1 HQ hbl
  rw [hrn] at c5 HB1 HQ hrl
  have HRN := Lib.hid hrn
  clear hc hb hm hri hbi hres hb1 hq hbe hbn hrn
  go_enter Try.func24, Try.ntmps24
  go_upto_region 2 with (fail)
  generalize w.alloc (.cells #[.string (str nm), .int .i64 ty, .int .i64 pr, .slice rA rn rc, .slice bA bn bc] tCo) = W1 at *
  have q1 : W1.cell? ⟨w.heap.size, 1, none⟩ = some (.int .i64 ty) := HQ.out.cell 1
  have q2 : W1.cell? ⟨w.heap.size, 2, none⟩ = some (.int .i64 pr) := HQ.out.cell 2
  have q3 : W1.cell? ⟨w.heap.size, 3, none⟩ = some (.slice rA rn rc) := HQ.out.cell 3
  have q4 : W1.cell? ⟨w.heap.size, 4, none⟩ = some (.slice bA bn bc) := HQ.out.cell 4
  have ql := HQ.out.lt
  by_cases h1 : bn = 0
  · have HH := Lib.hid h1
    have d1 : ((bn : Int) == 0) = true := by simp; omega
    have d1' : (bn == 0) = true := by simp; omega
    clear h1
    go_wp2_with fail
    go_ret
    exact ⟨by rw [← HRES.out, if_pos (Or.inl HH.out)]; rfl, HB1.out⟩
  have d1 : ((bn : Int) == 0) = false := by simp; omega
  have d1' : (bn == 0) = false := by simp; omega
  by_cases h2 : 400 < bn
  · have HH := Lib.hid h2
    have d2 : decide ((400 : Int) < (bn : Int)) = true := by simp; omega
    have d2' : decide (400 < bn) = true := by simp; omega
    clear h1 h2
    go_wp2_with fail
    go_ret
    exact ⟨by rw [← HRES.out, if_pos (Or.inr (Or.inl HH.out))]; rfl, HB1.out⟩
  have d2 : decide ((400 : Int) < (bn : Int)) = false := by simp; omega
  have d2' : decide (400 < bn) = false := by simp; omega
  by_cases h3 : 4096 < rn
  · have HH := Lib.hid h3
    have d3 : decide ((4096 : Int) < (rn : Int)) = true := by simp; omega
    have d3' : decide (4096 < rn) = true := by simp; omega
    clear h1 h2 h3
    go_wp2_with fail
    go_ret
    exact ⟨by rw [← HRES.out, if_pos (Or.inr (Or.inr HH.out))]; rfl, HB1.out⟩
  have d3 : decide ((4096 : Int) < (rn : Int)) = false := by simp; omega
  have d3' : decide (4096 < rn) = false := by simp; omega
  have hn1 : ¬ (bn = 0 ∨ 400 < bn ∨ 4096 < rn) := by omega
  have HN1 := Lib.hid hn1
  clear h1 h2 hn1
  by_cases h4 : pr < 0
  · have HH := Lib.hid h4
    have d4 : decide (pr < 0) = true := by simpa using h4
    clear h4 h3
    go_wp2_with fail
    go_ret
    exact ⟨by rw [← HRES.out, if_neg HN1.out, if_pos (Or.inl HH.out)]; rfl, HB1.out⟩
  have d4 : decide (pr < 0) = false := by simpa using h4
  by_cases h5 : (rn : Int) < pr
  · have HH := Lib.hid h5
    have d5 : decide ((rn : Int) < pr) = true := by simpa using h5
    clear h4 h5 h3
    go_wp2_with fail
    go_ret
    exact ⟨by rw [← HRES.out, if_neg HN1.out, if_pos (Or.inr HH.out)]; rfl, HB1.out⟩
  have d5 : decide ((rn : Int) < pr) = false := by simpa using h5
  have hn2 : ¬ (pr < 0 ∨ (rn : Int) < pr) := by omega
  have HN2 := Lib.hid hn2
  have hr3 : rn ≤ 4096 := by omega
  clear h3 h4 h5 hn2
  have HRI1 := Lib.hid (HRI.out.below HB1.out)
  go_wp2_with fail
  go_loop [40] (fun v => ∃ j : Nat, j ≤ rn ∧ v = .int .i64 j ∧ (regs.take j).all isV = true) (fun v => rn - (intOf v).toNat)
  case atStart => exact ⟨0, by omega, rfl, by simp⟩
  case round =>
    obtain ⟨j, hj, rfl, hal⟩ := hrel
    have HAL := Lib.hid hal
    clear hal
    by_cases hlt : j < rn
    · have hjl : j < regs.length := by rw [HRN.out]; exact hlt
      obtain ⟨g, o, c9, hv9, hg, -, -, hx0, -⟩ := HRI1.out.at hjl
      simp only [Value.slice.injEq] at hv9
      obtain ⟨rfl, -, -⟩ := hv9
      have x0 : W1.cell? ⟨g, o + j, none⟩ = some (.int .i64 regs[j]) := by simpa using hx0
      have hts := all_take_succ isV regs j hjl
      have HTS := Lib.hid hts
      have hlt' : (j : Int) < rn := by omega
      clear hts hx0
      generalize regs[j] = r at *
      obtain ⟨q, hq⟩ : ∃ q, isV r = q := ⟨_, rfl⟩
      have HV : Hid (∀ W, Calls Try.prog 18 #[.int .i64 r] W fun e w' => e = .returned (.bool q) ∧ W = w') := Lib.hid fun W => by rw [← hq]; exact isValue_any r W
      rw [hq] at HTS
      clear hq
      cases q
      · go_wp2_with fail
        refine (HV.out _).mono ?_
        rintro e w2 ⟨rfl, rfl⟩
        go_wp2_with fail
        go_ret
        exact ⟨by rw [← HRES.out, if_neg HN1.out, if_neg HN2.out, if_pos (all_take_false isV regs (j + 1) (by rw [HTS.out]; simp))]; rfl, HB1.out⟩
      · go_wp2_with fail
        refine (HV.out _).mono ?_
        rintro e w2 ⟨rfl, rfl⟩
        go_wp2_with fail
        go_round
        case rel => exact ⟨j + 1, by omega, by go_num, by rw [HTS.out, HAL.out]; rfl⟩
        case measure => simp [intOf]; omega
    · obtain rfl : rn = j := by omega
      have hall : regs.all isV = true := by
        have := HAL.out
        rw [List.take_of_length_le (by rw [HRN.out]; exact Nat.le_refl _)] at this
        exact this
      have HN3 : Hid (¬ regs.all isV = false) := Lib.hid (by rw [hall]; simp)
      clear hall
      obtain ⟨q, hq⟩ : ∃ q, isV ty = q := ⟨_, rfl⟩
      have HV : Hid (∀ W, Calls Try.prog 18 #[.int .i64 ty] W fun e w' => e = .returned (.bool q) ∧ W = w') := Lib.hid fun W => by rw [← hq]; exact isValue_any ty W
      rw [hq] at HRES
      clear hq
      cases q
      · by_cases h0 : ty = 0
        · have d0 : (ty != 0) = false := by simpa using h0
          have HH := Lib.hid h0
          clear h0
          go_wp2_with fail
          refine (HV.out _).mono ?_
          rintro e w2 ⟨rfl, rfl⟩
          go_wp2_with fail
          go_ret
          exact ⟨by rw [← HRES.out, if_neg HN1.out, if_neg HN2.out, if_neg HN3.out, if_neg (by rw [HH.out]; simp)]; rfl, HB1.out⟩
        · have d0 : (ty != 0) = true := by simpa using h0
          have HH := Lib.hid h0
          clear h0
          go_wp2_with fail
          refine (HV.out _).mono ?_
          rintro e w2 ⟨rfl, rfl⟩
          go_wp2_with fail
          go_ret
          exact ⟨by rw [← HRES.out, if_neg HN1.out, if_neg HN2.out, if_neg HN3.out, if_pos (by have := HH.out; simp; exact this)]; rfl, HB1.out⟩
      · go_wp2_with fail
        refine (HV.out _).mono ?_
        rintro e w2 ⟨rfl, rfl⟩
        go_wp2_with fail
        go_ret
        exact ⟨by rw [← HRES.out, if_neg HN1.out, if_neg HN2.out, if_neg HN3.out, if_neg (by simp)]; rfl, HB1.out⟩

theorem hasForm_op {i : Ins} (h : hasForm i = true) : 1 ≤ i.op ∧ i.op ≤ 11 := by
  unfold hasForm at h
  split at h
  · omega
  · split at h
    · omega
    · simpa using h
theorem chkI_2 {m : Mdl} {f : Cod} {i : Ins} (h : hasForm i = false) : chkI m f i = 2 := by unfold chkI; rw [if_pos h]
theorem chkI_11 {m : Mdl} {f : Cod} {i : Ins} (h : hasForm i = true) (h1 : (existL f (needL m f i) && placeI m f i) = false) : chkI m f i = 11 := by unfold chkI; rw [if_neg (by rw [h]; simp), if_pos h1]
theorem chkI_7 {m : Mdl} {f : Cod} {i : Ins} (h : hasForm i = true) (h1 : (existL f (needL m f i) && placeI m f i) = true) (h2 : i.op = 9 ∧ (i.args.length : Int) ≠ (fAt m i.n).pr) : chkI m f i = 7 := by unfold chkI; rw [if_neg (by rw [h]; simp), if_neg (by rw [h1]; simp), if_pos h2]
theorem chkI_6 {m : Mdl} {f : Cod} {i : Ins} (h : hasForm i = true) (h1 : (existL f (needL m f i) && placeI m f i) = true) (h2 : ¬ (i.op = 9 ∧ (i.args.length : Int) ≠ (fAt m i.n).pr)) (h3 : fitL f (needL m f i) = false) : chkI m f i = 6 := by unfold chkI; rw [if_neg (by rw [h]; simp), if_neg (by rw [h1]; simp), if_neg h2, if_pos h3]
theorem chkI_0 {m : Mdl} {f : Cod} {i : Ins} (h : hasForm i = true) (h1 : (existL f (needL m f i) && placeI m f i) = true) (h2 : ¬ (i.op = 9 ∧ (i.args.length : Int) ≠ (fAt m i.n).pr)) (h3 : fitL f (needL m f i) = true) : chkI m f i = 0 := by unfold chkI; rw [if_neg (by rw [h]; simp), if_neg (by rw [h1]; simp), if_neg h2, if_neg (by rw [h3]; simp)]
set_option maxHeartbeats 4000000 in
set_option maxRecDepth 100000 in
theorem instr_any (m : Mdl) (f : Cod) (i : Ins) (av : Value) (cb : Nat) (w : World) (hc : CkV w cb m f) (ha : IsI w w.heap.size av i.args) (hal : i.args.length ≤ 17592186043904) :
    Calls Try.prog 25 #[.pointer (some ⟨cb, 0, none⟩), .agg (insA i av)] w fun e w' => e = .returned (.int .i64 (chkI m f i)) ∧ Below w.heap.size w w' := by
  have hb1 : Below w.heap.size w (w.alloc (.cells (insA i av) tIn)) := (Below.refl _ _).alloc (Nat.le_refl _) _
  have HB1 := Lib.hid hb1
  have HC1 := Lib.hid (hc.on hb1)
  have HQ := Lib.hid (Blk.new w tIn (insA i av))
  have HA1 := Lib.hid (ha.on hb1)
  obtain ⟨res, hres⟩ : ∃ r, chkI m f i = r := ⟨_, rfl⟩
  have HRES := Lib.hid hres
  rw [hres]
  have HF : Hid (∀ W, Calls Try.prog 36 #[.agg (insA i av)] W fun e w' => e = .returned (.bool (hasForm i)) ∧ Below W.heap.size W w') := Lib.hid fun W => hasForm_any i av W
  have HN : Hid (1 ≤ i.op ∧ i.op ≤ 11 → ∀ W, Below w.heap.size w W → Calls Try.prog 37 #[.pointer (some ⟨cb, 0, none⟩), .agg (insA i av)] W (NeedsPost W m f i)) := Lib.hid fun ho W hW => needs_any m f i av cb W (hc.on hW) (ha.on hW) hal ho
  have HE : Hid (∀ W v, Below w.heap.size w W → IsNd W (OkI m f i) v (needL m f i) → Calls Try.prog 38 #[.pointer (some ⟨cb, 0, none⟩), v] W fun e w' => e = .returned (.bool (existL f (needL m f i))) ∧ Below W.heap.size W w') := Lib.hid fun W v hW hv => exist_any m f _ v _ cb W (hc.on hW) hv
  have HP : Hid (existL f (needL m f i) = true → ∀ W, Below w.heap.size w W → Calls Try.prog 39 #[.pointer (some ⟨cb, 0, none⟩), .agg (insA i av)] W fun e w' => e = .returned (.bool (placeI m f i)) ∧ Below W.heap.size W w') := Lib.hid fun hx W hW => hasPlace_any m f i av cb W (hc.on hW) hx
  have HT : Hid (OkI m f i → ∀ W v, Below w.heap.size w W → IsNd W (OkI m f i) v (needL m f i) → Calls Try.prog 40 #[.pointer (some ⟨cb, 0, none⟩), v] W fun e w' => e = .returned (.bool (fitL f (needL m f i))) ∧ Below W.heap.size W w') := Lib.hid fun ho W v hW hv => fit_any m f _ v _ ho (Bool.and_eq_true _ _ ▸ ho.1).1 cb W (hc.on hW) hv
  obtain ⟨A0, c0, rfl, -⟩ := ha.sl
  clear hc ha hb1 hres
  unfold insA at HB1 HC1 HQ HA1 HF HN HP ⊢
  obtain ⟨op, ty, dst, a, b, n, s, args⟩ := i
  simp only at HB1 HC1 HQ HA1 HF HN HP hal ⊢
  obtain ⟨al, hal2⟩ : ∃ al, args.length = al := ⟨_, rfl⟩
  rw [hal2] at HB1 HC1 HQ HA1 HF HN HP ⊢
  have HAL := Lib.hid hal2
  clear hal2 hal
  go_enter Try.func25, Try.ntmps25
  go_upto_region 1 with (fail)
  generalize w.alloc (.cells #[.int .i64 op, .int .i64 ty, .int .i64 dst, .int .i64 a, .int .i64 b, .int .i64 n, .string (str s), .slice A0 al c0] tIn) = W1 at *
  have q0 : W1.cell? ⟨w.heap.size, 0, none⟩ = some (.int .i64 op) := HQ.out.cell 0
  have q1 : W1.cell? ⟨w.heap.size, 1, none⟩ = some (.int .i64 ty) := HQ.out.cell 1
  have q2 : W1.cell? ⟨w.heap.size, 2, none⟩ = some (.int .i64 dst) := HQ.out.cell 2
  have q3 : W1.cell? ⟨w.heap.size, 3, none⟩ = some (.int .i64 a) := HQ.out.cell 3
  have q4 : W1.cell? ⟨w.heap.size, 4, none⟩ = some (.int .i64 b) := HQ.out.cell 4
  have q5 : W1.cell? ⟨w.heap.size, 5, none⟩ = some (.int .i64 n) := HQ.out.cell 5
  have q6 : W1.cell? ⟨w.heap.size, 6, none⟩ = some (.string (str s)) := HQ.out.cell 6
  have q7 : W1.cell? ⟨w.heap.size, 7, none⟩ = some (.slice A0 al c0) := HQ.out.cell 7
  have ql := HQ.out.lt
  obtain ⟨hf, hhf⟩ : ∃ x, hasForm ⟨op, ty, dst, a, b, n, s, args⟩ = x := ⟨_, rfl⟩
  have HHF := Lib.hid hhf
  rw [hhf] at HF
  clear hhf
  cases hf
  · go_wp2_with fail
    refine (HF.out _).mono ?_
    rintro e w2 ⟨rfl, hb2⟩
    have HB2 := Lib.hid (HB1.out.trans (hb2.mono HB1.out.size))
    clear hb2
    go_wp2_with fail
    go_ret
    exact ⟨by rw [← HRES.out, chkI_2 HHF.out]; rfl, HB2.out⟩
  · have HOP := Lib.hid (hasForm_op HHF.out)
    go_wp2_with fail
    refine (HF.out _).mono ?_
    rintro e w2 ⟨rfl, hb2⟩
    have keepQ : ∀ W : World, Below W1.heap.size W1 W → Blk W w.heap.size tIn #[.int .i64 op, .int .i64 ty, .int .i64 dst, .int .i64 a, .int .i64 b, .int .i64 n, .string (str s), .slice A0 al c0] := fun W h => (h.block _ HQ.out.lt).trans HQ.out
    have HK := Lib.hid keepQ
    clear keepQ
    have HB2 := Lib.hid hb2
    have hq2 := HK.out _ hb2
    clear hb2 q0 q1 q2 q3 q4 q5 q6 q7 ql
    obtain ⟨q0, q1, q2, q3, q4, q5, q6, q7, ql⟩ := insBox (i := ⟨op, ty, dst, a, b, n, s, args⟩) (show Blk w2 w.heap.size tIn (insA ⟨op, ty, dst, a, b, n, s, args⟩ (.slice A0 al c0)) from hq2)
    simp only at q0 q1 q2 q3 q4 q5 q6 q7
    clear hq2
    have HB2w := Lib.hid (HB1.out.trans (HB2.out.mono HB1.out.size))
    go_wp2_with fail
    refine (HN.out HOP.out _ HB2w.out).mono ?_
    rintro e w3 ⟨v, rfl, hv, hb3⟩
    obtain ⟨A3, c3, rfl, -⟩ := hv.sl
    have HB3 := Lib.hid (HB2.out.trans (hb3.mono HB2.out.size))
    have HB3w := Lib.hid (HB1.out.trans (HB3.out.mono HB1.out.size))
    have HV := Lib.hid hv
    clear hb3 hv q0 q1 q2 q3 q4 q5 q6 q7 ql
    obtain ⟨x, hx⟩ : ∃ x, existL f (needL m f ⟨op, ty, dst, a, b, n, s, args⟩) = x := ⟨_, rfl⟩
    have HX := Lib.hid hx
    have HE3 := Lib.hid (HE.out w3 _ HB3w.out HV.out)
    rw [hx] at HE3 HP
    clear hx
    cases x
    · go_wp2_with fail
      refine HE3.out.mono ?_
      rintro e w4 ⟨rfl, hb4⟩
      have HB4 := Lib.hid (HB3w.out.trans (hb4.mono HB3w.out.size))
      clear hb4
      go_wp2_with fail
      go_ret
      exact ⟨by rw [← HRES.out, chkI_11 HHF.out (by rw [HX.out]; rfl)]; rfl, HB4.out⟩
    · go_wp2_with fail
      refine HE3.out.mono ?_
      rintro e w4 ⟨rfl, hb4⟩
      have HB4 := Lib.hid (HB3.out.trans (hb4.mono HB3.out.size))
      have HB4w := Lib.hid (HB1.out.trans (HB4.out.mono HB1.out.size))
      have HV4 := Lib.hid (HV.out.on hb4)
      clear hb4
      obtain ⟨q0, q1, q2, q3, q4, q5, q6, q7, ql⟩ := insBox (i := ⟨op, ty, dst, a, b, n, s, args⟩) (show Blk w4 w.heap.size tIn (insA ⟨op, ty, dst, a, b, n, s, args⟩ (.slice A0 al c0)) from HK.out _ HB4.out)
      simp only at q0 q1 q2 q3 q4 q5 q6 q7
      obtain ⟨y, hy⟩ : ∃ y, placeI m f ⟨op, ty, dst, a, b, n, s, args⟩ = y := ⟨_, rfl⟩
      have HY := Lib.hid hy
      have HP4 := Lib.hid (HP.out (by first | rfl | trivial) w4 HB4w.out)
      rw [hy] at HP4
      clear hy
      cases y
      · go_wp2_with fail
        refine HP4.out.mono ?_
        rintro e w5 ⟨rfl, hb5⟩
        have HB5 := Lib.hid (HB4w.out.trans (hb5.mono HB4w.out.size))
        clear hb5
        go_wp2_with fail
        go_ret
        exact ⟨by rw [← HRES.out, chkI_11 HHF.out (by rw [HX.out, HY.out]; rfl)]; rfl, HB5.out⟩
      · have HXY : Hid ((existL f (needL m f ⟨op, ty, dst, a, b, n, s, args⟩) && placeI m f ⟨op, ty, dst, a, b, n, s, args⟩) = true) := Lib.hid (by rw [HX.out, HY.out]; rfl)
        go_wp2_with fail
        refine HP4.out.mono ?_
        rintro e w5 ⟨rfl, hb5⟩
        have HB5 := Lib.hid (HB4.out.trans (hb5.mono HB4.out.size))
        have HB5w := Lib.hid (HB1.out.trans (HB5.out.mono HB1.out.size))
        have HV5 := Lib.hid (HV4.out.on hb5)
        clear hb5 q0 q1 q2 q3 q4 q5 q6 q7 ql HP4 HP HE3 HE HN HF
        obtain ⟨q0, q1, q2, q3, q4, q5, q6, q7, ql⟩ := insBox (i := ⟨op, ty, dst, a, b, n, s, args⟩) (show Blk w5 w.heap.size tIn (insA ⟨op, ty, dst, a, b, n, s, args⟩ (.slice A0 al c0)) from HK.out _ HB5.out)
        simp only at q0 q1 q2 q3 q4 q5 q6 q7
        obtain ⟨z, hz⟩ : ∃ z, fitL f (needL m f ⟨op, ty, dst, a, b, n, s, args⟩) = z := ⟨_, rfl⟩
        have HZ := Lib.hid hz
        rw [hz] at HT
        clear hz
        by_cases h9 : op = 9
        · obtain ⟨gv, fv, rv, bv, hb, hm, -, -⟩ := (HC1.out.on HB5.out).x
          have hin : inR m.f n = true := by
            have h1 := (Bool.and_eq_true _ _ ▸ HXY.out).2
            rw [placeI_9 h9] at h1
            exact (Bool.and_eq_true _ _ ▸ h1).1
          subst h9
          obtain ⟨k, rfl, hk⟩ := inR_nat hin
          obtain ⟨g, o, c, rfl, hg, -, -, -, rv', bv', -, -, hx⟩ := hm.f.at hk
          have x0 : w5.cell? ⟨g, o + k * 5 + 2, none⟩ = some (.int .i64 m.f[k].pr) := hx 2 _ rfl
          have c1 : w5.cell? ⟨cb, 1, none⟩ = some (.slice (some ⟨g, o, none⟩) m.f.length c) := hb.cell 1
          have cl := hb.lt
          have hlt : (k : Int) < m.f.length := by omega
          have hfa := fAt_lt hk
          have HFA : Hid ((fAt m (k : Int)).pr = m.f[k].pr) := Lib.hid (by rw [hfa])
          generalize m.f[k].pr = pr at *
          clear hfa hx hb hm hin hk
          by_cases hne : (al : Int) = pr
          · have hok : OkI m f ⟨9, ty, dst, a, b, (k : Nat), s, args⟩ := ⟨HXY.out, fun _ => by simp only; rw [HAL.out, HFA.out, hne]⟩
            have HOK := Lib.hid hok
            have d1 : ((al : Int) != pr) = false := by simpa using hne
            have HNE := Lib.hid hne
            clear hok hne
            go_upto_region 6 with (fail)
            go_quiet (fail)
            have hbd := below_drewN w5.heap.size w5
            have HBD := Lib.hid hbd
            clear hbd
            go_wp2_with fail
            refine (HT.out HOK.out _ _ (HB5w.out.trans ((HBD.out _).mono HB5w.out.size)) (HV5.out.on (HBD.out _))).mono ?_
            rintro e w6 ⟨rfl, hb6⟩
            have HB6 := Lib.hid hb6
            clear hb6
            cases z
            · go_wp2_with fail
              go_ret
              refine ⟨?_, HB5w.out.trans (((HBD.out _).trans HB6.out).mono HB5w.out.size)⟩
              rw [← HRES.out, chkI_6 HHF.out HXY.out (by have := HNE.out; simp only; rw [HAL.out, HFA.out]; omega) HZ.out]
              rfl
            · go_wp2_with fail
              go_ret
              refine ⟨?_, HB5w.out.trans (((HBD.out _).trans HB6.out).mono HB5w.out.size)⟩
              rw [← HRES.out, chkI_0 HHF.out HXY.out (by have := HNE.out; simp only; rw [HAL.out, HFA.out]; omega) HZ.out]
              rfl
          · have d1 : ((al : Int) != pr) = true := by simpa using hne
            have HNE := Lib.hid hne
            clear hne
            go_upto_region 6 with (fail)
            go_quiet (fail)
            go_wp2_with fail
            go_ret
            refine ⟨?_, HB5w.out.trans (below_drewN _ _ _)⟩
            rw [← HRES.out, chkI_7 HHF.out HXY.out ⟨rfl, by have := HNE.out; simp only; rw [HAL.out, HFA.out]; exact this⟩]
            rfl
        · have d9 : (op == 9) = false := by simpa using h9
          have hok : OkI m f ⟨op, ty, dst, a, b, n, s, args⟩ := ⟨HXY.out, fun h => absurd h h9⟩
          have HOK := Lib.hid hok
          have HN9 := Lib.hid h9
          clear hok h9
          go_upto_region 6 with (fail)
          go_quiet (fail)
          have hbd := below_drewN w5.heap.size w5
          have HBD := Lib.hid hbd
          clear hbd
          go_wp2_with fail
          refine (HT.out HOK.out _ _ (HB5w.out.trans ((HBD.out _).mono HB5w.out.size)) (HV5.out.on (HBD.out _))).mono ?_
          rintro e w6 ⟨rfl, hb6⟩
          have HB6 := Lib.hid hb6
          clear hb6
          cases z
          · go_wp2_with fail
            go_ret
            refine ⟨?_, HB5w.out.trans (((HBD.out _).trans HB6.out).mono HB5w.out.size)⟩
            rw [← HRES.out, chkI_6 HHF.out HXY.out (fun h => HN9.out h.1) HZ.out]
            rfl
          · go_wp2_with fail
            go_ret
            refine ⟨?_, HB5w.out.trans (((HBD.out _).trans HB6.out).mono HB5w.out.size)⟩
            rw [← HRES.out, chkI_0 HHF.out HXY.out (fun h => HN9.out h.1) HZ.out]
            rfl
end Go.Proofs.Ytgcjfbgfoiekmaa
