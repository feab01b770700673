/-
  Layer check: what a name refers to. Layer check: binary signs; a variable more. Layer check: a variable more.
-/
import Derived.Test.YtfaoiajhoifalaaGreatDoorMt1
import Derived.Test.YtfaoiajhoifalaaGreatDoorParb
import Derived.Deep.DeepCutAuto
import Derived.Deep.RegionLaw
import Derived.Deep.AppendLies
/-! Ckf -/
namespace Go.Proofs.YtfaoiajhoifalaaGreatDoor
open Go Go.RowKit Go.Maps
set_option linter.unusedVariables false
set_option linter.unusedSimpArgs false

/-- What refer answers. -/
def RefP (X : CkX) (S : CkS) (σ : Cs) (i : Nat) (r : Ck Mg) (w : World) (e : Ending) (w' : World) : Prop :=
  (∃ m, r = .ok m ∧ e = .returned (.int .i64 m.vl) ∧ CkV X S (setRf σ i m.rf) w' ∧ Below X.B w w') ∨ (∃ no p, r = .er no p ∧ e = .panicked [{ v := .iface tFt (.agg #[.int .i64 no, .int .i64 p]), recovered := false }] ∧ Below X.B w w')
set_option maxHeartbeats 2000000 in
set_option maxRecDepth 100000 in
theorem refer_any {X : CkX} {S : CkS} {σ : Cs} {w : World} (h : CkV X S σ w) {i : Nat} {x : CN} (hx : X.ns[i]? = some x) (hxs : x.h.s.length ≤ maxLen) (hsc : σ.sc.length ≤ 1000000) {so : List Int} {n g : Nat} (hn : so.length = n) (hn2 : n ≤ 1000) (hso : Blk w g tInt (ints so).toArray) :
    Calls Tryz.prog 152 #[ckp X, ndp X i, .slice (some ⟨g, 0, none⟩) n n] w (RefP X S σ i (referM x.h so σ.sc) w) := by
  have hc3 := h.c3
  have hl2 := h.chk.lt
  have hnl := h.nodeLt
  have hs3 := h.nodeCell hx 3 (by omega)
  have hp1 := h.nodeCell hx 1 (by omega)
  simp only [cellT, List.getElem?_cons_succ, List.getElem?_cons_zero] at hs3 hp1
  obtain ⟨A, c, hv⟩ := own_ex h.sco
  rw [hv] at hc3
  obtain ⟨R, hR⟩ : ∃ R : Ending → World → Prop, RefP X S σ i (referM x.h so σ.sc) w = R := ⟨_, rfl⟩
  have HR := Lib.hid hR
  rw [hR]
  have H := Lib.hid h
  have HV := Lib.hid hv
  have HF : Hid (∀ W, Below w.heap.size w W → Calls Tryz.prog 59 #[.slice A S.mps.length c, .string (str x.h.s)] W fun e w' => e = .returned (.tuple #[mgV ((lookS σ.sc x.h.s).getD mz), .bool (lookS σ.sc x.h.s).isSome]) ∧ Below W.heap.size W w') := Lib.hid fun W hW => by
    have hsv := (h.on hW).scs
    rw [hv] at hsv
    exact find_any hsv (h.scl).symm (by rw [h.scl]; exact hsc) hxs
  have HS : Hid (∀ Wx, Below w.heap.size w Wx → Wx.cell? ⟨X.b, 3, none⟩ = some (.slice A S.mps.length c) ∧ Wx.cell? ⟨X.nB, i * 8 + 3, none⟩ = some (.string (str x.h.s)) ∧ X.b < Wx.heap.size ∧ X.nB < Wx.heap.size) := Lib.hid fun Wx hW => by
    have hz := hW.size
    exact ⟨(hW.cell (p := ⟨X.b, 3, none⟩) hl2).trans hc3, (hW.cell (p := ⟨X.nB, i * 8 + 3, none⟩) hnl).trans hs3, by omega, by omega⟩
  obtain ⟨L, hL⟩ : ∃ L, lookS σ.sc x.h.s = L := ⟨_, rfl⟩
  rw [hL] at HF
  have HL := Lib.hid hL
  obtain ⟨⟨a1, a2, a3⟩, hM⟩ : ∃ q, L.getD mz = q := ⟨_, rfl⟩
  obtain ⟨bv, hbv⟩ : ∃ q, L.isSome = q := ⟨_, rfl⟩
  rw [hM, hbv] at HF
  simp only [mgV] at HF
  have HM := Lib.hid (And.intro hM hbv)
  clear h hv hR hL hsc hM hbv
  have J : Below w.heap.size w w := Below.refl _ _
  go_enter Tryz.func152, Tryz.ntmps152
  go_upto_region 1 with (fail)
  go_cut [7, 8] (fun s7 s8 wx => ∃ g7 : Nat, s7 = .pointer (some ⟨g7, 0, none⟩) ∧ s8 = .bool bv ∧ Blk wx g7 tMg #[.int .i64 a1, .int .i64 a2, .int .i64 a3] ∧ Below w.heap.size w wx)
  case first =>
    go_region_held3 (fun Wx => Wx.cell? ⟨X.b, 3, none⟩ = some (.slice A S.mps.length c) ∧ Wx.cell? ⟨X.nB, i * 8 + 3, none⟩ = some (.string (str x.h.s)) ∧ X.b < Wx.heap.size ∧ X.nB < Wx.heap.size)
      (first | exact ⟨hc3, hs3, hl2, hnl⟩ | exact HS.out _ J | exact HS.out _ (J.alloc J.size _) | exact HS.out _ (J.alloc J.size _).drew | exact HS.out _ (((J.setCell (Nat.le_refl _) _).setCell (Nat.le_refl _) _).setCell (Nat.le_refl _) _))
      (first
        | (go_at_call 59; (with_reducible refine Calls.mono (HF.out _ (by first | exact J | exact J.drew | exact J.alloc J.size _ | exact (J.alloc J.size _).drew)) ?_); rintro e v1 ⟨rfl, b1⟩; (first
          | (have k7 : Blk v1 w.heap.size tMg #[.int .i64 0, .int .i64 0, .int .i64 0] := Blk.below (W := (w.alloc (.cells #[.int .i64 0, .int .i64 0, .int .i64 0] tMg)).drew) (Blk.new w tMg _) b1 (by simp); have J : Below w.heap.size w v1 := (J.alloc J.size (.cells #[.int .i64 0, .int .i64 0, .int .i64 0] tMg)).drew.trans (b1.mono (by simp)); have f0 := k7.frozen 0; have f1 := k7.frozen 1; have f2 := k7.frozen 2; have l7 := k7.lt; have c0 : v1.cell? ⟨w.heap.size, 0, none⟩ = some (.int .i64 0) := k7.cell 0; have c1 : v1.cell? ⟨w.heap.size, 1, none⟩ = some (.int .i64 0) := k7.cell 1; have c2 : v1.cell? ⟨w.heap.size, 2, none⟩ = some (.int .i64 0) := k7.cell 2)
          | (have J : Below w.heap.size w v1 := by first | exact J.trans (b1.mono J.size) | exact J.drew.trans (b1.mono J.drew.size)))))
    all_goals
      go_wp2_with fail
      go_meet
      first
        | exact ⟨_, rfl, rfl, Blk.new _ _ _, J.alloc J.size _⟩
        | exact ⟨_, rfl, rfl, Blk.set_ (Blk.set_ (Blk.set_ k7 0 _) 1 _) 2 _, ((J.setCell (Nat.le_refl _) _).setCell (Nat.le_refl _) _).setCell (Nat.le_refl _) _⟩
  case rest =>
    obtain ⟨g7, rfl, rfl, k7, hw⟩ := hcut
    have HW := Lib.hid (And.intro k7 hw)
    have HC := Lib.hid (H.out.on hw)
    have hp1' := (hw.cell (p := ⟨X.nB, i * 8 + 1, none⟩) hnl).trans hp1
    have hnl' : X.nB < wc.heap.size := Nat.lt_of_lt_of_le hnl hw.size
    have HB := Lib.hid (hw.mono H.out.Ble)
    clear hp1 hs3 hc3 HF HS J hl2
    cases L with
    | none =>
      obtain ⟨-, rfl⟩ : _ ∧ false = bv := HM.out
      have HE := Lib.hid (show R (.panicked [{ v := .iface tFt (.agg #[.int .i64 4, .int .i64 x.h.p]), recovered := false }]) wc by
        rw [← HR.out]
        exact .inr ⟨4, x.h.p, by unfold referM; rw [HL.out], rfl, HB.out⟩)
      go_wp2_with fail
      refine (refuse_yes _ _ _).mono ?_
      rintro e w9 ⟨rfl, rfl⟩
      go_wp2_with fail
      exact pnc_end rfl HE.out
    | some m =>
      obtain ⟨hm, rfl⟩ : (some m).getD mz = ⟨a1, a2, a3⟩ ∧ true = bv := HM.out
      obtain rfl : m = ⟨a1, a2, a3⟩ := hm
      have HLL := Lib.hid HL.out
      clear HL HM
      go_wp2_with fail
      refine (refuse_no _ _ _).mono ?_
      rintro e w9 ⟨rfl, rfl⟩
      go_upto_region 3 with (fail)
      obtain ⟨bb, hbb⟩ : ∃ b, decide (a1 ∈ so) = b := ⟨_, rfl⟩
      have HBB := Lib.hid hbb
      have HSO : Hid (∀ W, Below wc.heap.size wc W → Calls Tryz.prog 118 #[.slice (some ⟨g, 0, none⟩) n n, .int .i64 a1] W fun e w' => e = .returned (.bool bb) ∧ Below wc.heap.size wc w') := Lib.hid fun W hW => by
        rw [← hbb]
        have hgw : Blk W g tInt (ints so).toArray := Blk.below (Blk.below hso HW.out.2 hso.lt) hW (Nat.lt_of_lt_of_le hso.lt HW.out.2.size)
        refine (contains_any so n n hn hn2 g _ W hgw (fun j y hj => ?_) a1).mono fun e w' h => ⟨h.1, by rw [h.2]; exact hW⟩
        simp [ints, hj]
      have HRf : Hid (∀ W b, Below wc.heap.size wc W → Calls Tryz.prog 48 #[.bool b, .int .i64 6, .int .i64 x.h.p] W fun e w' => (b = true ∧ e = .panicked [{ v := .iface tFt (.agg #[.int .i64 6, .int .i64 x.h.p]), recovered := false }] ∨ b = false ∧ e = .returned (.tuple #[])) ∧ Below wc.heap.size wc w') := Lib.hid fun W b hW =>
        (refuse_or b 6 x.h.p W).mono fun e w' h => ⟨h.1, by rw [← h.2]; exact hW⟩
      have q0 : wc.cell? ⟨g7, 0, none⟩ = some (.int .i64 a1) := k7.cell 0
      have q1 : wc.cell? ⟨g7, 1, none⟩ = some (.int .i64 a2) := k7.cell 1
      have q2 : wc.cell? ⟨g7, 2, none⟩ = some (.int .i64 a3) := k7.cell 2
      have ql := k7.lt
      have HS : Hid (∀ Wx, Below wc.heap.size wc Wx → Wx.cell? ⟨g7, 0, none⟩ = some (.int .i64 a1) ∧ Wx.cell? ⟨X.nB, i * 8 + 1, none⟩ = some (.int .i64 x.h.p) ∧ g7 < Wx.heap.size ∧ X.nB < Wx.heap.size) := Lib.hid fun Wx hW => by
        have hz := hW.size
        exact ⟨(hW.cell (p := ⟨g7, 0, none⟩) ql).trans q0, (hW.cell (p := ⟨X.nB, i * 8 + 1, none⟩) hnl').trans hp1', by omega, by omega⟩
      have HE : Hid (∀ W, Below wc.heap.size wc W → bb = false → R (.panicked [{ v := .iface tFt (.agg #[.int .i64 6, .int .i64 x.h.p]), recovered := false }]) W) := Lib.hid fun W hW hb => by
        rw [← HR.out]
        exact .inr ⟨6, x.h.p, by unfold referM; rw [HLL.out]; simp only; rw [if_neg (by rw [hb] at hbb; simpa using hbb)], rfl, HB.out.trans (hW.mono (Nat.le_trans H.out.Ble HW.out.2.size))⟩
      have HO : Hid (bb = true → referM x.h so σ.sc = .ok ⟨a1, a2, a3⟩) := Lib.hid fun hb => by
        unfold referM
        rw [HLL.out]
        simp only
        rw [if_pos (by rw [hb] at hbb; simpa using hbb)]
      clear hbb hw k7
      have J : Below wc.heap.size wc wc := Below.refl _ _
      go_region_held2 (fun Wx => Wx.cell? ⟨g7, 0, none⟩ = some (.int .i64 a1) ∧ Wx.cell? ⟨X.nB, i * 8 + 1, none⟩ = some (.int .i64 x.h.p) ∧ g7 < Wx.heap.size ∧ X.nB < Wx.heap.size)
        (first | exact ⟨q0, hp1', ql, hnl'⟩ | exact HS.out _ J)
        (first
          | (go_at_call 118; (with_reducible refine Calls.mono (HSO.out _ (by first | exact J | exact J.drew)) ?_); rintro e v1 ⟨rfl, J⟩)
          | (go_at_call 48; (with_reducible refine Calls.mono (HRf.out _ _ (by first | exact J | exact J.drew)) ?_); rintro e v2 ⟨⟨hm, rfl⟩ | ⟨hm, rfl⟩, J⟩; (refine pnc_end rfl ?_; exact HE.out _ J (by simpa using hm)); have HMM := Lib.hid hm; clear hm))
      all_goals
        have hbt : bb = true := by simpa using HMM.out
        have hC2 := HC.out.on J
        have hil := (List.getElem?_eq_some_iff.1 hx).1
        have r1 := (J.cell (p := ⟨g7, 1, none⟩) ql).trans q1
        have r2 := (J.cell (p := ⟨g7, 2, none⟩) ql).trans q2
        have rf := hC2.nod.frozenAt (i * 8 + 7)
        have rl := hC2.nodeLt
        have rg : g7 < v2.heap.size := Nat.lt_of_lt_of_le ql J.size
        have rc := hC2.nodeCell hx 7 (by omega)
        simp only [cellT, List.getElem?_cons_succ, List.getElem?_cons_zero] at rc
        have hne : g7 ≠ X.nB := kind_ne (Blk.below HW.out.1 J ql).kind (row_kind hC2.nod rfl) (by decide)
        have HF := Lib.hid (show R (.returned (.int .i64 a3)) (v2.setCell ⟨X.nB, i * 8 + 7, none⟩ (.int .i64 a2)) by
          rw [← HR.out]
          exact .inl ⟨⟨a1, a2, a3⟩, HO.out hbt, rfl, hC2.rf hil a2, (HB.out.trans (J.mono (Nat.le_trans H.out.Ble HW.out.2.size))).setCell (p := ⟨X.nB, i * 8 + 7, none⟩) (show X.B ≤ X.nB from H.out.hB.2.1) _⟩)
        clear hC2 J hbt
        go_wp2_with fail
        exact HF.out
end Go.Proofs.YtfaoiajhoifalaaGreatDoor
/-! Ckg -/
namespace Go.Proofs.YtfaoiajhoifalaaGreatDoor
open Go Go.RowKit Go.Maps
set_option linter.unusedVariables false
set_option linter.unusedSimpArgs false

/-- A node's kids, as its cell has them. -/
theorem CkV.kids {X : CkX} {S : CkS} {σ : Cs} {w : World} (h : CkV X S σ w) {i : Nat} {x : CN} (hx : X.ns[i]? = some x) : ∃ A c, x.v = .slice A x.kids.length c ∧ RdK w A x.kids := RdK.of_row (by
  have := (h.kid_ x (List.mem_of_getElem? hx)).1
  simpa [natI] using this)
set_option maxHeartbeats 2000000 in
set_option maxRecDepth 100000 in
theorem ilb_any {X : CkX} {S : CkS} {σ : Cs} {w : World} (h : CkV X S σ w) {i : Nat} {x : CN} (hx : X.ns[i]? = some x) {k0 k1 : Nat} (hk : x.kids = [k0, k1]) (h0 : k0 < X.ns.length) (h1 : k1 < X.ns.length) :
    Calls Tryz.prog 155 #[ckp X, ndp X i] w fun e w' => e = .returned (.bool (binLong x.h.s (isLong σ.tr k0) (isLong σ.tr k1))) ∧ Below w.heap.size w w' := by
  obtain ⟨A, c, hv, hr⟩ := h.kids hx
  rw [hk] at hv hr
  obtain ⟨g, o, rfl, hg, hcc⟩ : ∃ g o, A = some ⟨g, o, none⟩ ∧ g < w.heap.size ∧ ∀ j k, [k0, k1][j]? = some k → w.cell? ⟨g, o + j, none⟩ = some (.int .i64 (k : Nat)) := by
    rcases hr with e | e
    · cases e
    · exact e
  have y0 : w.cell? ⟨g, o, none⟩ = some (.int .i64 (k0 : Nat)) := hcc 0 k0 rfl
  have y1 : w.cell? ⟨g, o + 1, none⟩ = some (.int .i64 (k1 : Nat)) := hcc 1 k1 rfl
  have hnl := h.nodeLt
  have hs3 := h.nodeCell hx 3 (by omega)
  have hs5 := h.nodeCell hx 5 (by omega)
  simp only [cellT, List.getElem?_cons_succ, List.getElem?_cons_zero] at hs3 hs5
  rw [hv] at hs5
  have HIL : Hid (∀ W (k : Nat), Below w.heap.size w W → k < X.ns.length → Calls Tryz.prog 154 #[ckp X, .int .i64 k] W fun e w' => e = .returned (.bool (isLong σ.tr k)) ∧ Below w.heap.size w w') := Lib.hid fun W k hW hk =>
    (isLong_any (h.on hW) hk).mono fun e w' h => ⟨h.1, by rw [← h.2]; exact hW⟩
  have HS : Hid (∀ Wx, Below w.heap.size w Wx → Wx.cell? ⟨X.nB, i * 8 + 5, none⟩ = some (.slice (some ⟨g, o, none⟩) 2 c) ∧ Wx.cell? ⟨g, o, none⟩ = some (.int .i64 (k0 : Nat)) ∧ Wx.cell? ⟨g, o + 1, none⟩ = some (.int .i64 (k1 : Nat)) ∧ X.nB < Wx.heap.size ∧ g < Wx.heap.size) := Lib.hid fun Wx hW => by
    have hz := hW.size
    exact ⟨(hW.cell (p := ⟨X.nB, i * 8 + 5, none⟩) hnl).trans hs5, (hW.cell (p := ⟨g, o, none⟩) hg).trans y0, (hW.cell (p := ⟨g, o + 1, none⟩) hg).trans y1, by omega, by omega⟩
  obtain ⟨l, hl⟩ : ∃ l, isLong σ.tr k0 = l := ⟨_, rfl⟩
  obtain ⟨r, hr2⟩ : ∃ l, isLong σ.tr k1 = l := ⟨_, rfl⟩
  have HLR := Lib.hid (And.intro hl hr2)
  rw [hl, hr2]
  generalize x.h.s = s at *
  clear h hr hcc hv hx hk hl hr2
  have J : Below w.heap.size w w := Below.refl _ _
  go_enter Tryz.func155, Tryz.ntmps155
  go_upto_region 1 with (fail)
  go_region_held2 (fun Wx => Wx.cell? ⟨X.nB, i * 8 + 5, none⟩ = some (.slice (some ⟨g, o, none⟩) 2 c) ∧ Wx.cell? ⟨g, o, none⟩ = some (.int .i64 (k0 : Nat)) ∧ Wx.cell? ⟨g, o + 1, none⟩ = some (.int .i64 (k1 : Nat)) ∧ X.nB < Wx.heap.size ∧ g < Wx.heap.size)
    (first | exact ⟨hs5, y0, y1, hnl, hg⟩ | exact HS.out _ J)
    (first
      | (go_at_call 154; (with_reducible refine Calls.mono (HIL.out _ _ (by first | exact J | exact J.drew) (by assumption)) ?_); rintro e v1 ⟨rfl, J⟩))
  all_goals
    have hs3' := (J.cell (p := ⟨X.nB, i * 8 + 3, none⟩) hnl).trans hs3
    have hnl' : X.nB < v1.heap.size := Nat.lt_of_lt_of_le hnl J.size
    have HJ := Lib.hid J
    clear HS HIL y0 y1 hs5 hs3 J
    obtain ⟨e1, e2⟩ := HLR.out
    rw [e1, e2]
    clear HLR e1 e2
    by_cases c0 : s = [61, 61]
    · subst c0
      go_wp2_with fail
      go_ret
      exact ⟨rfl, HJ.out⟩
    by_cases c1 : s = [33, 61]
    · subst c1
      go_wp2_with fail
      go_ret
      exact ⟨rfl, HJ.out⟩
    by_cases c2 : s = [60]
    · subst c2
      go_wp2_with fail
      go_ret
      exact ⟨rfl, HJ.out⟩
    by_cases c3 : s = [60, 61]
    · subst c3
      go_wp2_with fail
      go_ret
      exact ⟨rfl, HJ.out⟩
    by_cases c4 : s = [62]
    · subst c4
      go_wp2_with fail
      go_ret
      exact ⟨rfl, HJ.out⟩
    by_cases c5 : s = [62, 61]
    · subst c5
      go_wp2_with fail
      go_ret
      exact ⟨rfl, HJ.out⟩
    by_cases c6 : s = [38, 38]
    · subst c6
      go_wp2_with fail
      go_ret
      exact ⟨rfl, HJ.out⟩
    by_cases c7 : s = [124, 124]
    · subst c7
      go_wp2_with fail
      go_ret
      exact ⟨rfl, HJ.out⟩
    by_cases c8 : s = [60, 60]
    · subst c8
      go_wp2_with fail
      go_ret
      exact ⟨rfl, HJ.out⟩
    by_cases c9 : s = [62, 62]
    · subst c9
      go_wp2_with fail
      go_ret
      exact ⟨rfl, HJ.out⟩
    have hb : binLong s l r = (l || r) := by simp [binLong, cmpSigns, c0, c1, c2, c3, c4, c5, c6, c7, c8, c9]
    have d0 : (s == [61, 61]) = false := by simp [c0]
    have d1 : (s == [33, 61]) = false := by simp [c1]
    have d2 : (s == [60]) = false := by simp [c2]
    have d3 : (s == [60, 61]) = false := by simp [c3]
    have d4 : (s == [62]) = false := by simp [c4]
    have d5 : (s == [62, 61]) = false := by simp [c5]
    have d6 : (s == [38, 38]) = false := by simp [c6]
    have d7 : (s == [124, 124]) = false := by simp [c7]
    have d8 : (s == [60, 60]) = false := by simp [c8]
    have d9 : (s == [62, 62]) = false := by simp [c9]
    clear c0 c1 c2 c3 c4 c5 c6 c7 c8 c9
    have HBL := Lib.hid hb
    clear hb
    cases l
    all_goals
      go_wp2_with fail
      go_ret
      exact ⟨by rw [HBL.out]; rfl, HJ.out⟩
end Go.Proofs.YtfaoiajhoifalaaGreatDoor
/-! Ckh -/
namespace Go.Proofs.YtfaoiajhoifalaaGreatDoor
open Go Go.RowKit Go.Maps
set_option linter.unusedVariables false
set_option linter.unusedSimpArgs false

theorem fnCs_at (fl : List (Fn' × Value)) (vls : List Value) (i j : Nat) (hj : j < 6) {x : Fn' × Value} {v : Value} (hx : fl[i]? = some x) (hv : vls[i]? = some v) : (fnCs fl vls)[i * 6 + j]? = (fnC x v)[j]? := by
  unfold fnCs
  rw [flat_at' _ 6 (fun _ => rfl) _ i j hj]
  rw [show (fl.zip vls)[i]? = some (x, v) by rw [List.getElem?_zip_eq_some]; exact ⟨hx, hv⟩]
  rfl
theorem fnCs_set (fl : List (Fn' × Value)) (vls : List Value) (i : Nat) {x : Fn' × Value} {v : Value} (hx : fl[i]? = some x) (hv : vls[i]? = some v) (u : Value) : (fnCs fl vls).set (i * 6 + 5) u = fnCs fl (vls.set i u) := by
  unfold fnCs
  have h1 := (List.getElem?_eq_some_iff.1 hx).1
  have h2 := (List.getElem?_eq_some_iff.1 hv).1
  have hz : (fl.zip vls)[i]? = some (x, v) := by rw [List.getElem?_zip_eq_some]; exact ⟨hx, hv⟩
  have hzl := (List.getElem?_eq_some_iff.1 hz).1
  have hzi : (fl.zip vls)[i] = (x, v) := (List.getElem?_eq_some_iff.1 hz).2
  rw [flat_set _ 6 (by omega) (fun _ => rfl) (fl.zip vls) i 5 hzl (by omega) (x, u) u (by rw [hzi]; rfl)]
  congr 1
  apply List.ext_getElem?
  intro k
  by_cases hk : i = k
  · subst hk
    rw [List.getElem?_set_self hzl]
    symm
    rw [List.getElem?_zip_eq_some]
    exact ⟨hx, List.getElem?_set_self h2⟩
  · rw [List.getElem?_set_ne hk]
    apply Option.ext
    intro y
    rw [List.getElem?_zip_eq_some, List.getElem?_zip_eq_some, List.getElem?_set_ne hk]
section
variable {X : CkX} {S : CkS} {σ : Cs} {w w2 : World}
theorem CkV.fnCell (h : CkV X S σ w) {i : Nat} {x : Fn' × Value} {v : Value} (hx : X.fl[i]? = some x) (hv : S.vls[i]? = some v) (j : Nat) (hj : j < 6) : w.cell? ⟨X.fB, i * 6 + j, none⟩ = (fnC x v)[j]? := by
  have hi := (List.getElem?_eq_some_iff.1 hx).1
  rw [h.fun_.cellAt (i * 6 + j) (by have h1 : (i + 1) * 6 ≤ X.fl.length * 6 := Nat.mul_le_mul_right _ hi; omega)]
  exact fnCs_at X.fl S.vls i j hj hx hv
theorem CkV.fnLt (h : CkV X S σ w) : X.fB < w.heap.size := (row_kind h.fun_ rfl).lt
/-- The function's variables change, and then its cell for them. -/
theorem CkV.vars (h : CkV X S σ w) (on : S.on = true) {v v' : Value} {vs' : List Int} (hv : S.vls[S.fi]? = some v) (hvr : w.ownsRow S.H tInt 1 v σ.vs.length (ints σ.vs)) (hg : w.grownBy w2 v.ownBlock) (hrow : w2.ownsRow S.H tInt 1 v' vs'.length (ints vs')) :
    CkV X { S with vls := S.vls.set S.fi v' } { σ with vs := vs' } (w2.setCell ⟨X.fB, S.fi * 6 + 5, none⟩ v') := by
  have hfi := (h.fil on).1
  obtain ⟨x, hx⟩ : ∃ x, X.fl[S.fi]? = some x := ⟨_, List.getElem?_eq_getElem hfi⟩
  have hge : ∀ r, v.ownBlock = some r → S.H ≤ r := by
    intro r hr
    rcases hvr.2 with ⟨rfl, _⟩ | ⟨g, cap, cur, rfl, h1, _⟩
    · cases hr
    · obtain rfl : g = r := by simpa [Value.ownBlock] using hr
      exact h1
  have hr : ∀ {base sz n : Nat} {T : TypeId} {u : Value} {xs : List Value}, w.ownsRow base T sz u n xs → T ≠ tInt → ∀ r, v.ownBlock = some r → u.ownBlock ≠ some r := by
    intro base sz n T u xs h1 hT r hr e
    exact kind_ne (row_kind h1 e) (row_kind hvr hr) hT rfl
  have hmm : ∀ {m : Nat}, KindM w m → v.ownBlock ≠ some m := fun h1 e => kindM_ne (row_kind hvr e) h1 rfl
  have hf2 := gr_row hg h.fun_ (hr h.fun_ (by decide))
  obtain ⟨hf3, hg2⟩ := hf2.stored (S.fi * 6 + 5) v'
  rw [fnCs_set X.fl S.vls S.fi hx hv v'] at hf3
  have hk : Kind w2 X.fB tFu := row_kind hf2 rfl
  have hr2 : ∀ {base sz n : Nat} {T : TypeId} {u : Value} {xs : List Value}, w2.ownsRow base T sz u n xs → T ≠ tFu → ∀ r, some X.fB = some r → u.ownBlock ≠ some r := by
    intro base sz n T u xs h1 hT r hr e
    cases hr
    exact kind_ne (row_kind h1 e) hk hT rfl
  have hm2 : ∀ {m : Nat}, KindM w2 m → some X.fB ≠ some m := fun h1 e => kindM_ne hk h1 (Option.some.inj e)
  have two : ∀ {base sz n : Nat} {T : TypeId} {u : Value} {xs : List Value}, w.ownsRow base T sz u n xs → T ≠ tInt → T ≠ tFu → (w2.setCell ⟨X.fB, S.fi * 6 + 5, none⟩ v').ownsRow base T sz u n xs := fun h1 hT hT2 =>
    gr_row hg2 (gr_row hg h1 (hr h1 hT)) (hr2 (gr_row hg h1 (hr h1 hT)) hT2)
  have hc' : Blk w2 X.b tCk (ckCells X S) := gr_blk hg h.chk (fun e => kind_ne (row_kind hvr e) h.chk.kind (by decide) rfl)
  exact {
    chk := gr_blk hg2 hc' (fun e => kind_ne hk hc'.kind (by decide) (Option.some.inj e))
    nod := two h.nod (by decide) (by decide)
    fun_ := hf3
    see := two h.see (by decide) (by decide)
    trl := h.trl
    vll := by simpa using h.vll
    fil := h.fil
    var := fun _ => ⟨v', by
      have : S.fi < S.vls.length := by rw [h.vll]; exact hfi
      simp [this], gr_row hg2 hrow (hr2 hrow (by decide))⟩
    sco := two h.sco (by decide) (by decide)
    scl := h.scl
    map_ := fun j m s h1 h2 => by
      have h3 := h.map_ j m s h1 h2
      have h4 := gr_map hg h3.2 (hmm (mpv_kind h3.2))
      exact ⟨h3.1, gr_map hg2 h4 (hm2 (mpv_kind h4))⟩
    nod2 := h.nod2
    lab := fun on => by
      have h3 := h.lab on
      have h4 := gr_map hg h3.2.1 (hmm (mpv_kind h3.2.1))
      exact ⟨h3.1, gr_map hg2 h4 (hm2 (mpv_kind h4)), h3.2.2⟩
    labn := h.labn
    kid_ := fun x hx => by
      have h3 := h.kid_ x hx
      have h4 := gr_rowB hg h3 (fun r hr e => by have := h3.2 r e; have := hge r hr; omega)
      exact gr_rowB hg2 h4 (hr2 h4.1 (by decide))
    old := fun j u l h1 h2 h3 => by
      have h3' : j < S.fi := h3
      rw [List.getElem?_set_ne (by omega)] at h1
      have h5 := h.old j u l h1 h2 h3
      have h4 := gr_rowB hg h5 (fun r hr e => by have := h5.2 r e; have := hge r hr; omega)
      exact gr_rowB hg2 h4 (hr2 h4.1 (by decide))
    prm := fun x hx => ⟨two (h.prm x hx).1 (by decide) (by decide), (h.prm x hx).2⟩
    glb := ⟨two h.glb.1 (by decide) (by decide), h.glb.2⟩
    hB := by have := h.hB; have := hg.size; simp; omega }
end
set_option maxHeartbeats 2000000 in
set_option maxRecDepth 100000 in
theorem addVar_any {X : CkX} {S : CkS} {σ : Cs} {w : World} (h : CkV X S σ w) (on : S.on = true) {k : Nat} (hk : σ.sc.length = k + 1) (hk2 : k ≤ 1000000) (hl : (σ.sc.getLast?.getD []).length ≤ 2000000) (hvl : σ.vs.length ≤ 1000000) {x : List UInt8} (hx : x.length ≤ maxLen) (t : Int) :
    Calls Tryz.prog 56 #[ckp X, .string (str x), .int .i64 t] w fun e w' => e = .returned (.int .i64 (σ.vs.length : Nat)) ∧ ∃ v', CkV X { S with vls := S.vls.set S.fi v' } { σ with sc := decl σ.sc x ⟨1, σ.vs.length, t⟩, vs := σ.vs ++ [t] } w' ∧ Below X.B w w' := by
  obtain ⟨hfi, hfp⟩ := h.fil on
  obtain ⟨v, hv, hvr⟩ := h.var on
  obtain ⟨A, c, rfl⟩ := own_ex hvr
  obtain ⟨f, hf⟩ : ∃ x, X.fl[S.fi]? = some x := ⟨_, List.getElem?_eq_getElem hfi⟩
  have c5 := h.c5
  rw [hfp] at c5
  have hfl := h.fnLt
  have hbl := h.chk.lt
  have hc5 := h.fnCell hf hv 5 (by omega)
  simp only [fnC, List.getElem?_cons_succ, List.getElem?_cons_zero] at hc5
  have hff := h.fun_.frozenAt (S.fi * 6 + 5)
  have hb1 : Below w.heap.size w (w.alloc (.cells #[.int .i64 t] tInt)) := (Below.refl _ _).alloc (Nat.le_refl _) _
  have h1 := h.on hb1
  have hrow := hvr.alloc (.cells #[.int .i64 t] tInt)
  have hnews : ∀ j u, [Value.int .i64 t][j]? = some u → (w.alloc (.cells #[.int .i64 t] tInt)).cell? ((⟨w.heap.size, 0, none⟩ : Addr).add j) = some u := World.news_of_block (cs := #[.int .i64 t]) (Blk.new w tInt #[.int .i64 t])
  obtain ⟨i0, hi, hz0, hz1, hz2⟩ := info_pk infoIn
  have hne : X.fB ≠ X.b := kind_ne (row_kind h.fun_ rfl) h.chk.kind (by decide)
  have hHB : X.B ≤ S.H := h.hB.2.2.2.2.1
  have hHw : S.H ≤ w.heap.size := h.hB.2.2.2.2.2
  have hwr : some X.b ≠ (Value.slice A σ.vs.length c).ownBlock := fun e => kind_ne (row_kind hvr e.symm) h.chk.kind (by decide) rfl
  have hwf : some X.fB ≠ (Value.slice A σ.vs.length c).ownBlock := fun e => kind_ne (row_kind hvr e.symm) (row_kind h.fun_ rfl) (by decide) rfl
  have HW := Lib.hid (And.intro hrow (And.intro hnews (And.intro hwr hwf)))
  have H1 := Lib.hid (And.intro h1 (And.intro hv on))
  have HBX := Lib.hid h.hB
  clear h hv hvr hrow hnews h1 hwr hwf hf hfp
  go_enter Tryz.func56, Tryz.ntmps56
  go_upto_region 2 with (fail)
  go_cut [] (fun wx => ∃ v', CkV X { S with vls := S.vls.set S.fi v' } { σ with vs := σ.vs ++ [t] } wx ∧ Below X.B w wx)
  case first =>
    go_region_law (refine step_append_lies _ rfl (.tmp 26) (.tmp 28) 40 rfl S.H tInt i0 _ 1 8 Tryz.underlying40 hi hz0 hz1 hz2 rfl (by decide) _ σ.vs.length (ints σ.vs) (by simp [Act.eval, Act.put]) HW.out.1 ⟨w.heap.size, 0, none⟩ 1 1 _ (by simp [Act.eval, Act.put]) rfl HW.out.2.1 (by simp [Value.oneCell']) (by decide) (by unfold maxLen; omega) (by omega) (by simp; omega) (w.heap.size + 1) (by simp) ?_; intro g1 cap w2 hown hgrow hgl hlt2; have q3 := (hgrow.cell_far ⟨X.fB, S.fi * 6 + 5, none⟩ (by simp; omega) HW.out.2.2.2).trans ((World.cell?_alloc_past _ _ _ hfl).trans hc5); have r3 := (hgrow.frozen_far ⟨X.fB, S.fi * 6 + 5, none⟩ (by simp; omega) HW.out.2.2.2).trans ((World.frozen?_alloc_past _ _ _ hfl).trans hff); have q5 := (hgrow.cell_far ⟨X.b, 5, none⟩ (by simp; omega) HW.out.2.2.1).trans ((World.cell?_alloc_past _ _ _ hbl).trans c5); have HG := Lib.hid (And.intro hown hgrow); clear hown hgrow)
    all_goals
      go_wp2_with fail
      go_meet
      have hgd : (w.alloc (.cells #[.int .i64 t] tInt)).drew.grownBy w2 (Value.slice A σ.vs.length c).ownBlock := HG.out.2
      have hrr : w2.ownsRow S.H tInt 1 (.slice (some ⟨g1, 0, none⟩) (σ.vs.length + 1) cap) (σ.vs ++ [t]).length (ints (σ.vs ++ [t])) := by simpa [ints] using HG.out.1
      have hrw : (w.alloc (.cells #[.int .i64 t] tInt)).drew.ownsRow S.H tInt 1 (.slice A σ.vs.length c) σ.vs.length (ints σ.vs) := HW.out.1
      have hbx := HBX.out
      refine ⟨_, H1.out.1.drew.vars H1.out.2.2 H1.out.2.1 hrw hgd hrr, ((hb1.mono (by omega)).drew.grown hgd (by simp; omega) ?_).setCell (p := ⟨X.fB, S.fi * 6 + 5, none⟩) (show X.B ≤ X.fB by omega) _⟩
      intro j ej
      rcases hrw.2 with ⟨e, _⟩ | ⟨g, cap, cur, e, h1, _⟩
      · rw [e] at ej; cases ej
      · rw [e] at ej
        obtain rfl : g = j := by simpa [Value.ownBlock] using ej
        omega
  case rest =>
    obtain ⟨v', hC, hbw⟩ := hcut
    obtain ⟨A3, n3, c3, hv3⟩ : ∃ A n c, S.scv = .slice A n c := by
      obtain ⟨A3, c3, e⟩ := own_ex hC.sco
      exact ⟨A3, _, c3, e⟩
    have hc3 : wc.cell? ⟨X.b, 3, none⟩ = some S.scv := hC.c3
    rw [hv3] at hc3
    have hbl3 := hC.chk.lt
    have HD := declare_any hC hk hk2 hl hx ⟨1, σ.vs.length, t⟩
    have HB := Lib.hid hbw
    rw [show ({ S with vls := S.vls.set S.fi v' } : CkS).scv = .slice A3 n3 c3 from hv3] at HD
    unfold mgV at HD
    simp only at HD
    have HDD := Lib.hid HD
    have HV3 := Lib.hid hv3
    clear HD hC hbw hv3 H1 HW hb1
    go_wp2_with fail
    refine HDD.out.mono ?_
    rintro e w5 ⟨rfl, hC5, hb5, -⟩
    have HC5 := Lib.hid (And.intro hC5 hb5)
    clear hC5 hb5 HDD
    go_wp2_with fail
    go_ret
    exact ⟨rfl, v', by rw [HV3.out]; exact HC5.out.1, HB.out.trans HC5.out.2⟩
end Go.Proofs.YtfaoiajhoifalaaGreatDoor
