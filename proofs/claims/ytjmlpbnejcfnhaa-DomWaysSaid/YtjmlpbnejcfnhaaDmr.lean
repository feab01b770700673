/-
  Layer dom: walks of isBack, dominates.
-/
import Derived.Test.YtjmlpbnejcfnhaaDmq
import Derived.Deep.QuietTactic
import Derived.BigQuiet
namespace Go.Proofs.Ytjmlpbnejcfnhaa
open Go Go.RowKit Go.Maps
set_option linter.unusedVariables false
set_option linter.unusedSimpArgs false

/-- The graph of a visit. -/
def gph (T : List (List Nat)) (k : Wk) : Gph := ⟨T, k, placesM T.length k.ord, domsM T k⟩
theorem graphM_eq (es : List Eb) : graphM es = gph (es.map tosN) (walkM (es.map tosN)) := rfl
set_option maxHeartbeats 4000000 in
set_option maxRecDepth 100000 in
theorem back_any {w : World} {a : Array Value} {T : List (List Nat)} {k : Wk} (h : GrO w a T k) {x y : Nat} (hx : x < T.length) (hy : y < T.length) :
    Calls Try.prog 36 #[.agg a, .int .i64 (x : Nat), .int .i64 (y : Nat)] w fun e w' => e = .returned (.bool ((gph T k).back x y)) ∧ Below w.heap.size w w' := by
  obtain ⟨lo, hi, tb, vs, nv, bv, pv, ov, lv, dv, rfl, hp⟩ := h.x
  have hl := hp.l
  have hlen := placesM_len T.length k.ord
  obtain ⟨N, hN⟩ : ∃ N, T.length = N := ⟨_, rfl⟩
  obtain ⟨lA, lc, rfl⟩ : ∃ A c, lv = .slice A N c := by
    obtain ⟨A, c, e, _⟩ := hl
    exact ⟨A, c, by rw [e]; simp only [nz, List.length_map]; rw [hlen, hN]⟩
  obtain ⟨PL, hPL⟩ : ∃ PL, placesM T.length k.ord = PL := ⟨_, rfl⟩
  rw [hPL] at hl hlen
  rw [hN] at hx hy hlen ⊢
  obtain ⟨px, hpx⟩ : ∃ p, PL[x]? = some p := ⟨_, List.getElem?_eq_getElem (by rw [hlen]; exact hx)⟩
  obtain ⟨py, hpy⟩ : ∃ p, PL[y]? = some p := ⟨_, List.getElem?_eq_getElem (by rw [hlen]; exact hy)⟩
  have hR : (gph T k).back x y = decide (py ≤ px) := by
    unfold Gph.back gph
    simp only [hPL]
    rw [getD_some hpx, getD_some hpy]
  rw [hR]
  obtain ⟨w1, hw1⟩ : ∃ x, x = w.alloc (.cells #[.slice (some ⟨tb, 0, none⟩) N N, nv, bv, pv, ov, .slice lA N lc, dv] tGr) := ⟨_, rfl⟩
  have hb1 : Below w.heap.size w w1 := by rw [hw1]; exact (Below.refl _ w).alloc (Nat.le_refl _) _
  have hbx : Blk w1 w.heap.size tGr #[.slice (some ⟨tb, 0, none⟩) N N, nv, bv, pv, ov, .slice lA N lc, dv] := by rw [hw1]; exact Blk.new w tGr _
  have hl1 := hl.on hb1
  obtain ⟨g, o, y1, rfl, hg, hy1, e1⟩ := hl1.at hx
  obtain ⟨g2, o2, y2, e2, hg2, hy2, e2'⟩ := hl1.at hy
  cases e2
  rw [nz_at hpx] at hy1
  rw [nz_at hpy] at hy2
  obtain rfl := Option.some.inj hy1
  obtain rfl := Option.some.inj hy2
  have e5 : w1.cell? ⟨w.heap.size, 5, none⟩ = some (.slice (some ⟨g, o, none⟩) N lc) := hbx.cell 5
  have l5 := hbx.lt
  have hdec : decide ((py : Int) ≤ (px : Int)) = decide (py ≤ px) := by simp
  have HB := Lib.hid (And.intro hb1 hdec)
  have HW := Lib.hid hw1
  clear hl hl1 hp h hbx hw1 hb1 hy1 hy2 hpx hpy hR hPL hN hdec hlen
  go_enter Try.func36, Try.ntmps36
  go_upto_region 1 with (fail)
  rw [← HW.out]
  go_quiet (fail)
  go_wp2_with fail
  go_ret
  exact ⟨by simp, HB.out.1.trans (below_drewN _ _ _)⟩
/-- A block that is reached: its number, and that its dominator stands ahead. -/
theorem FinW.step {N : Nat} {T : List (List Nat)} {k : Wk} (h : FinW N T k) (hT : T.length = N) {y : Nat} (hy : y ∈ k.ord) (hp : 0 < (placesM N k.ord).getD y 0) :
    ∃ c : Nat, (domsM T k)[y]? = some (c : Int) ∧ c ∈ k.ord ∧ (placesM N k.ord).getD c 0 < (placesM N k.ord).getD y 0 := by
  obtain ⟨i, hi⟩ := List.getElem?_of_mem ((h.ord y).1 hy)
  have hi0 : 0 < i := by
    rcases Nat.eq_zero_or_pos i with e | e
    · subst e
      rw [h.zero] at hi
      obtain rfl := Option.some.inj hi
      rw [h.place_zero] at hp
      omega
    · exact e
  obtain ⟨c, j, h1, h2, h3, h4, h5⟩ := h.dom_place hT hi0 hi
  refine ⟨c, ?_, h4, h5⟩
  have hl := (h.doms hT).1
  have hyN : y < N := (h.ok.b i y hi).1
  rw [List.getElem?_eq_getElem (by rw [hl]; exact hyN)]
  rw [List.getD_eq_getElem?_getD, List.getElem?_eq_getElem (by rw [hl]; exact hyN)] at h1
  exact congrArg some h1
theorem FinW.place_lt {N : Nat} {T : List (List Nat)} {k : Wk} (h : FinW N T k) {y : Nat} (hy : y ∈ k.ord) : (placesM N k.ord).getD y 0 < N := by
  obtain ⟨i, hi⟩ := List.getElem?_of_mem hy
  rw [h.place hi]
  have := bound_len N k.ord h.nd fun x hx => by obtain ⟨i, hi⟩ := List.getElem?_of_mem hx; exact h.ordN hi
  have := (List.getElem?_eq_some_iff.1 hi).1
  omega
def yOf (a : Act) : Int := intOf (a.tmps.getD 2 undef)
set_option maxHeartbeats 4000000 in
set_option maxRecDepth 100000 in
theorem dominates_any {w : World} {a : Array Value} {T : List (List Nat)} {k : Wk} (h : GrO w a T k) (hf : FinW T.length T k) {x y : Nat} (hx : x ∈ k.ord) (hy : y ∈ k.ord) :
    Calls Try.prog 37 #[.agg a, .int .i64 (x : Nat), .int .i64 (y : Nat)] w fun e w' => e = .returned (.bool ((gph T k).dom x y)) ∧ Below w.heap.size w w' := by
  obtain ⟨lo, hi, tb, vs, nv, bv, pv, ov, lv, dv, rfl, hp⟩ := h.x
  have hl := hp.l
  have hd := hp.d
  have hlen := placesM_len T.length k.ord
  have hdl := (hf.doms rfl).1
  have hN0 : ∀ z, z ∈ k.ord → z < T.length := fun z hz => by obtain ⟨i, hi⟩ := List.getElem?_of_mem hz; exact hf.ordN hi
  have hplt : ∀ z, z ∈ k.ord → (placesM T.length k.ord).getD z 0 < T.length := fun z hz => hf.place_lt hz
  have hst : ∀ z, z ∈ k.ord → 0 < (placesM T.length k.ord).getD z 0 → ∃ c : Nat, (domsM T k)[z]? = some (c : Int) ∧ c ∈ k.ord ∧ (placesM T.length k.ord).getD c 0 < (placesM T.length k.ord).getD z 0 := fun z hz h0 => hf.step rfl hz h0
  have hgd : gph T k = ⟨T, k, placesM T.length k.ord, domsM T k⟩ := rfl
  obtain ⟨N, hN⟩ : ∃ N, T.length = N := ⟨_, rfl⟩
  obtain ⟨PL, hPL⟩ : ∃ PL, placesM T.length k.ord = PL := ⟨_, rfl⟩
  obtain ⟨DM, hDM⟩ : ∃ DM, domsM T k = DM := ⟨_, rfl⟩
  rw [hPL] at hl hlen hplt hst hgd
  rw [hDM] at hd hdl hst hgd
  rw [hN] at hlen hdl hN0 hplt ⊢
  obtain ⟨lA, lc, rfl⟩ : ∃ A c, lv = .slice A N c := by
    obtain ⟨A, c, e, _⟩ := hl
    exact ⟨A, c, by rw [e]; simp [nz, hlen]⟩
  obtain ⟨dA, dc, rfl⟩ : ∃ A c, dv = .slice A N c := by
    obtain ⟨A, c, e, _⟩ := hd
    exact ⟨A, c, by rw [e, hdl]⟩
  obtain ⟨R, hR⟩ : ∃ R, (gph T k).dom x y = R := ⟨_, rfl⟩
  have hR0 : (gph T k).domF x N y = R := by
    rw [← hR]
    unfold Gph.dom
    rw [hgd]
    simp only [hlen]
  rw [hR]
  obtain ⟨w1, hw1⟩ : ∃ x, x = w.alloc (.cells #[.slice (some ⟨tb, 0, none⟩) N N, nv, bv, pv, ov, .slice lA N lc, .slice dA N dc] tGr) := ⟨_, rfl⟩
  have hb1 : Below w.heap.size w w1 := by rw [hw1]; exact (Below.refl _ w).alloc (Nat.le_refl _) _
  have hbx : Blk w1 w.heap.size tGr #[.slice (some ⟨tb, 0, none⟩) N N, nv, bv, pv, ov, .slice lA N lc, .slice dA N dc] := by rw [hw1]; exact Blk.new w tGr _
  have hl1 := hl.on hb1
  have hd1 := hd.on hb1
  have hxN := hN0 x hx
  obtain ⟨px, hpx⟩ : ∃ p, PL[x]? = some p := ⟨_, List.getElem?_eq_getElem (by rw [hlen]; exact hxN)⟩
  have HW := Lib.hid hw1
  have HF := Lib.hid (And.intro hb1 (And.intro hbx (And.intro hl1 (And.intro hd1 (And.intro hN0 (And.intro hplt (And.intro hst hgd)))))))
  have HX := Lib.hid (And.intro hpx (And.intro hlen (And.intro hdl (And.intro hR0 hy))))
  clear hl hd hl1 hd1 hp h hbx hw1 hb1 hpx hPL hDM hN hlen hdl hf hN0 hplt hst hgd hR hR0 hy hx
  go_enter Try.func37, Try.ntmps37
  go_wp2_with fail
  rw [← HW.out]
  go_loopw [2] (fun v wr => ∃ (F y' : Nat), v = .int .i64 (y' : Nat) ∧ y' ∈ k.ord ∧ (PL.getD y' 0 < F) ∧ (gph T k).domF x F y' = R ∧ ∃ d, wr = w1.drewN d) (fun v _ => PL.getD (intOf v).toNat 0)
  case atStart => exact ⟨N, y, rfl, HX.out.2.2.2.2, HF.out.2.2.2.2.2.1 y HX.out.2.2.2.2, HX.out.2.2.2.1, 0, rfl⟩
  case round =>
    obtain ⟨F, y', rfl, hym, hyF, hdF, d, rfl⟩ := hrel
    obtain ⟨hb1, hbx, hl1, hd1, hN0, hplt, hst, hgd⟩ := HF.out
    have hyN := hN0 y' hym
    obtain ⟨py, hpy⟩ : ∃ p, PL[y']? = some p := ⟨_, List.getElem?_eq_getElem (by rw [HX.out.2.1]; exact hyN)⟩
    obtain ⟨g, o, y1, e0, hg, hy1, e1⟩ := hl1.at hxN
    obtain ⟨g2, o2, y2, e2, hg2, hy2, e2'⟩ := hl1.at hyN
    subst e0
    cases e2
    rw [nz_at HX.out.1] at hy1
    rw [nz_at hpy] at hy2
    obtain rfl := Option.some.inj hy1
    obtain rfl := Option.some.inj hy2
    have e5 : w1.cell? ⟨w.heap.size, 5, none⟩ = some (.slice (some ⟨g, o, none⟩) N lc) := hbx.cell 5
    have e6 : w1.cell? ⟨w.heap.size, 6, none⟩ = some (.slice dA N dc) := hbx.cell 6
    have l5 := hbx.lt
    have gy := getD_some (d := 0) hpy
    have gx := getD_some (d := 0) HX.out.1
    obtain ⟨F2, rfl⟩ : ∃ m, F = m + 1 := ⟨F - 1, by omega⟩
    unfold Gph.domF at hdF
    rw [hgd] at hdF
    simp only [gy, gx] at hdF
    by_cases hlt : px < py
    · rw [if_pos hlt] at hdF
      obtain ⟨c, hc, hcm, hcl⟩ := hst y' hym (by rw [gy]; omega)
      obtain ⟨g3, o3, y3, e3, hg3, hy3, e3'⟩ := hd1.at hyN
      subst e3
      rw [hc] at hy3
      obtain rfl := Option.some.inj hy3
      have hcN := hN0 c hcm
      have hdF2 : (gph T k).domF x F2 c = R := by
        rw [hgd, ← hdF, getD_some hc]
        simp
      have hltI : (px : Int) < (py : Int) := by omega
      have H9 := Lib.hid (And.intro hcm (And.intro hcl (And.intro hdF2 (And.intro gy hyF))))
      clear hb1 hbx hl1 hd1 hN0 hplt hst hgd hym hyF hdF hpy hy1 hy2 gy gx hc hcm hcl hdF2 hy3
      go_upto_region 1 with (fail)
      go_quiet (fail)
      go_wp2_with fail
      go_roundw
      case rel => exact ⟨F2, c, by go_num, H9.out.1, by have := H9.out.2.1; have := H9.out.2.2.2.2; omega, H9.out.2.2.1, _, rfl⟩
      case measure => simp [intOf]; have := H9.out.2.1; exact this
    · rw [if_neg hlt] at hdF
      have hltI : (py : Int) ≤ (px : Int) := by omega
      have H9 := Lib.hid (And.intro hdF hb1)
      clear hb1 hbx hl1 hd1 hN0 hplt hst hgd hym hyF hdF hpy hy1 hy2 gy gx
      go_upto_region 1 with (fail)
      go_quiet (fail)
      go_wp2_with fail
      go_ret
      have heq : ((x : Int) == (y' : Int)) = (x == y') := by rw [Bool.eq_iff_iff, beq_iff_eq, beq_iff_eq]; omega
      exact ⟨by rw [← H9.out.1, ← heq]; rfl, H9.out.2.trans (below_drewN _ _ _)⟩
end Go.Proofs.Ytjmlpbnejcfnhaa
