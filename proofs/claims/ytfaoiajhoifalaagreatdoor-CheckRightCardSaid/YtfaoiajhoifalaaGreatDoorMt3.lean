/-
  Layer check: expressions. Layer check: statements. Layer check: a local variable's statement. Layer check: any expression, any statement; what a visit keeps. Layer check: visits.
-/
import Derived.Test.YtfaoiajhoifalaaGreatDoorMt2
/-! Cki -/
namespace Go.Proofs.YtfaoiajhoifalaaGreatDoor
open Go Go.RowKit Go.Maps
set_option linter.unusedVariables false
set_option linter.unusedSimpArgs false

/-- The same memory but for the scopes' slice and the function's variables. -/
def Sx (S S' : CkS) : Prop := ∃ vls' scv', S' = { S with vls := vls', scv := scv' } ∧ ∀ j, j ≠ S.fi → vls'[j]? = S.vls[j]?
theorem Sx.refl (S : CkS) : Sx S S := ⟨_, _, rfl, fun _ _ => rfl⟩
theorem Sx.trans {a b c : CkS} (h : Sx a b) (k : Sx b c) : Sx a c := by
  obtain ⟨v, s, rfl, hv⟩ := h
  obtain ⟨v', s', rfl, hv'⟩ := k
  exact ⟨v', s', rfl, fun j hj => (hv' j hj).trans (hv j hj)⟩
abbrev PncL (no p : Int) : Ending := .panicked [{ v := .iface tFt (.agg #[.int .i64 no, .int .i64 p]), recovered := false }]
/-- What a visit answers. -/
def VisP (X : CkX) (S : CkS) (r : Ck Cs) (w : World) (e : Ending) (w' : World) : Prop :=
  (∃ τ, r = .ok τ ∧ e = .returned (.tuple #[]) ∧ ∃ S', Sx S S' ∧ CkV X S' τ w' ∧ Below X.B w w') ∨ (∃ no p, r = .er no p ∧ e = .panicked [{ v := .iface tFt (.agg #[.int .i64 no, .int .i64 p]), recovered := false }] ∧ Below X.B w w')
theorem vals_ok {p : Int} {tr : List (Int × Int)} {ks : List Nat} (h : (ks.all fun k => isVal (tyAt tr k)) = true) : valsM p tr ks = .ok () := by
  unfold valsM
  rw [h]
  rfl
theorem vals_er {p : Int} {tr : List (Int × Int)} {ks : List Nat} (h : (ks.all fun k => isVal (tyAt tr k)) = false) : valsM p tr ks = .er 6 p := by
  unfold valsM
  rw [h]
  rfl
/-- What a node must be for the rules. -/
structure NdW (X : CkX) (K : Kn) (σ : Cs) (x : CN) : Prop where
  s : x.h.s.length ≤ 1000000
  ks : ∀ k ∈ x.kids, k < X.ns.length
  kl : x.kids.length ≤ 1000000
  sc : σ.sc.length ≤ 1000000
  fn : ∀ m, lookS σ.sc x.h.s = some m → m.so = 4 → ∃ j : Nat, m.rf = j ∧ j < X.fl.length
  np : K.np = X.fl.map fun f => f.1.ps.length
set_option maxHeartbeats 2000000 in
set_option maxRecDepth 100000 in
theorem ex2_any {X : CkX} {S : CkS} {σ : Cs} {w : World} {K : Kn} (h : CkV X S σ w) {i : Nat} {x : CN} (hx : X.ns[i]? = some x) (hw : NdW X K σ x) (ho : x.h.op = 2) :
    Calls Tryz.prog 129 #[ckp X, ndp X i] w (VisP X S (exprM K x.h x.kids i σ) w) := by
  have hnl := h.nodeLt
  have hil := (List.getElem?_eq_some_iff.1 hx).1
  have hc0 := h.nodeCell hx 0 (by omega)
  simp only [cellT, List.getElem?_cons_succ, List.getElem?_cons_zero, Nat.add_zero] at hc0
  rw [ho] at hc0
  have e : exprM K x.h x.kids i σ = (referM x.h [1, 2] σ.sc).bind fun m => .ok (setTy (setRf σ i m.rf) i m.vl) := by simp [exprM, ho]
  rw [e]
  obtain ⟨R, hR⟩ : ∃ R : Ending → World → Prop, VisP X S ((referM x.h [1, 2] σ.sc).bind fun m => .ok (setTy (setRf σ i m.rf) i m.vl)) w = R := ⟨_, rfl⟩
  rw [hR]
  have hb1 : Below w.heap.size w (w.alloc (.cells #[.int .i64 1, .int .i64 2] tInt)) := (Below.refl _ _).alloc (Nat.le_refl _) _
  have HF := Lib.hid (refer_any (h.on hb1) hx (by unfold maxLen; have := hw.s; omega) hw.sc (so := [1, 2]) (n := 2) (g := w.heap.size) rfl (by omega) (Blk.new w tInt _))
  have HB := Lib.hid (hb1.mono h.Ble)
  have HR := Lib.hid hR
  clear h hR hb1 e
  go_enter Tryz.func129, Tryz.ntmps129
  go_wp2_with fail
  refine HF.out.mono ?_
  clear HF
  rintro e w1 (⟨m, hm, rfl, hC, hb⟩ | ⟨no, p, hm, rfl, hb⟩)
  · have hnl1 := hC.nodeLt
    have hf6 := hC.nod.frozenAt (i * 8 + 6)
    have hc6 := hC.nodeCell hx 6 (by omega)
    simp only [cellT, List.getElem?_cons_succ, List.getElem?_cons_zero] at hc6
    have HE := Lib.hid (show R (.returned (.tuple #[])) (w1.setCell ⟨X.nB, i * 8 + 6, none⟩ (.int .i64 m.vl)) by
      rw [← HR.out]
      exact .inl ⟨_, by rw [hm]; rfl, rfl, S, Sx.refl S, hC.ty hil m.vl, (HB.out.trans hb).setCell (p := ⟨X.nB, i * 8 + 6, none⟩) (show X.B ≤ X.nB from hC.hB.2.1) _⟩)
    clear hC hb hm
    go_wp2_with fail
    go_end0
    exact HE.out
  · have HE := Lib.hid (show R (PncL no p) w1 by
      rw [← HR.out]
      exact .inr ⟨no, p, by rw [hm]; rfl, rfl, HB.out.trans hb⟩)
    clear hb hm
    go_wp2_with fail
    exact pnc_end rfl HE.out
-- EXPR
set_option maxHeartbeats 2000000 in
set_option maxRecDepth 100000 in
theorem ex3_any {X : CkX} {S : CkS} {σ : Cs} {w : World} {K : Kn} (h : CkV X S σ w) {i : Nat} {x : CN} (hx : X.ns[i]? = some x) (hw : NdW X K σ x) (ho : x.h.op = 3) :
    Calls Tryz.prog 129 #[ckp X, ndp X i] w (VisP X S (exprM K x.h x.kids i σ) w) := by
  have hnl := h.nodeLt
  have hil := (List.getElem?_eq_some_iff.1 hx).1
  have hc0 := h.nodeCell hx 0 (by omega)
  simp only [cellT, List.getElem?_cons_succ, List.getElem?_cons_zero, Nat.add_zero] at hc0
  rw [ho] at hc0
  have e : exprM K x.h x.kids i σ = (referM x.h [3] σ.sc).bind fun m => (valsM x.h.p (setTy (setRf σ i m.rf) i m.vl).tr x.kids).bind fun _ => .ok (setTy (setRf σ i m.rf) i m.vl) := by simp [exprM, ho]
  rw [e]
  obtain ⟨R, hR⟩ : ∃ R : Ending → World → Prop, VisP X S ((referM x.h [3] σ.sc).bind fun m => (valsM x.h.p (setTy (setRf σ i m.rf) i m.vl).tr x.kids).bind fun _ => .ok (setTy (setRf σ i m.rf) i m.vl)) w = R := ⟨_, rfl⟩
  rw [hR]
  have HR := Lib.hid hR
  have HN := Lib.hid hw
  have hb1 : Below w.heap.size w (w.alloc (.cells #[.int .i64 3] tInt)) := (Below.refl _ _).alloc (Nat.le_refl _) _
  have HF := Lib.hid (refer_any (h.on hb1) hx (by unfold maxLen; have := hw.s; omega) hw.sc (so := [3]) (n := 1) (g := w.heap.size) rfl (by omega) (Blk.new w tInt _))
  have HB := Lib.hid (hb1.mono h.Ble)
  clear h hR e hb1
  go_enter Tryz.func129, Tryz.ntmps129
  go_wp2_with fail
  refine HF.out.mono ?_
  clear HF
  rintro e w1 (⟨m, hm, rfl, hC, hb⟩ | ⟨no, p, hm, rfl, hb⟩)
  · have hnl1 := hC.nodeLt
    have hf6 := hC.nod.frozenAt (i * 8 + 6)
    have hc6 := hC.nodeCell hx 6 (by omega)
    simp only [cellT, List.getElem?_cons_succ, List.getElem?_cons_zero] at hc6
    have hC2 := hC.ty hil m.vl
    have hb2 := (HB.out.trans hb).setCell (p := ⟨X.nB, i * 8 + 6, none⟩) (show X.B ≤ X.nB from hC.hB.2.1) (.int .i64 m.vl)
    obtain ⟨A, c, hv, hk⟩ := hC2.kids hx
    have hv5 := hC2.nodeCell hx 5 (by omega)
    simp only [cellT, List.getElem?_cons_succ, List.getElem?_cons_zero] at hv5
    rw [hv] at hv5
    have hnl2 := hC2.nodeLt
    have HV := Lib.hid (mbv_any hC2 hx hw.ks (n := x.kids.length) rfl hw.kl hk (A := A) (c := c))
    have HC := Lib.hid (And.intro hC2 hb2)
    have HM := Lib.hid hm
    clear hC hb hm hC2 hb2 hv hk
    go_upto_region 5 with (fail)
    generalize w1.setCell ⟨X.nB, i * 8 + 6, none⟩ (.int .i64 m.vl) = W2 at *
    go_wp2_with fail
    refine HV.out.mono ?_
    clear HV
    rintro e w3 ⟨⟨ha, rfl⟩ | ⟨ha, rfl⟩, rfl⟩
    · have HE := Lib.hid (show R (.returned (.tuple #[])) W2 by
        rw [← HR.out]
        exact .inl ⟨_, by rw [HM.out, Ck.bind_ok, vals_ok ha]; rfl, rfl, S, Sx.refl S, HC.out.1, HC.out.2⟩)
      clear ha
      go_wp2_with fail
      go_end0
      exact HE.out
    · have HE := Lib.hid (show R (PncL 6 x.h.p) W2 by
        rw [← HR.out]
        exact .inr ⟨6, x.h.p, by rw [HM.out, Ck.bind_ok, vals_er ha]; rfl, rfl, HC.out.2⟩)
      clear ha
      go_wp2_with fail
      exact pnc_end rfl HE.out
  · have HE := Lib.hid (show R (PncL no p) w1 by
      rw [← HR.out]
      exact .inr ⟨no, p, by rw [hm]; rfl, rfl, HB.out.trans hb⟩)
    clear hb hm
    go_wp2_with fail
    exact pnc_end rfl HE.out
set_option maxHeartbeats 2000000 in
set_option maxRecDepth 100000 in
theorem ex6_any {X : CkX} {S : CkS} {σ : Cs} {w : World} {K : Kn} (h : CkV X S σ w) {i : Nat} {x : CN} (hx : X.ns[i]? = some x) (hw : NdW X K σ x) (ho : x.h.op = 6) :
    Calls Tryz.prog 129 #[ckp X, ndp X i] w (VisP X S (exprM K x.h x.kids i σ) w) := by
  have hnl := h.nodeLt
  have hil := (List.getElem?_eq_some_iff.1 hx).1
  have hc0 := h.nodeCell hx 0 (by omega)
  simp only [cellT, List.getElem?_cons_succ, List.getElem?_cons_zero, Nat.add_zero] at hc0
  rw [ho] at hc0
  have e : exprM K x.h x.kids i σ = (valsM x.h.p σ.tr x.kids).bind fun _ => .ok (setTy σ i (iol (decide (x.h.to = 2)))) := by simp [exprM, ho]
  rw [e]
  obtain ⟨R, hR⟩ : ∃ R : Ending → World → Prop, VisP X S ((valsM x.h.p σ.tr x.kids).bind fun _ => .ok (setTy σ i (iol (decide (x.h.to = 2))))) w = R := ⟨_, rfl⟩
  rw [hR]
  have HR := Lib.hid hR
  have HN := Lib.hid hw
  obtain ⟨A, c, hv, hk⟩ := h.kids hx
  have hv5 := h.nodeCell hx 5 (by omega)
  simp only [cellT, List.getElem?_cons_succ, List.getElem?_cons_zero] at hv5
  rw [hv] at hv5
  have HV := Lib.hid (mbv_any h hx hw.ks (n := x.kids.length) rfl hw.kl hk (A := A) (c := c))
  have H := Lib.hid h
  have hf6 := h.nod.frozenAt (i * 8 + 6)
  have hc6 := h.nodeCell hx 6 (by omega)
  have hc3 := h.nodeCell hx 3 (by omega)
  have hc4 := h.nodeCell hx 4 (by omega)
  simp only [cellT, List.getElem?_cons_succ, List.getElem?_cons_zero] at hc6 hc3 hc4
  clear h hR e hv hk
  go_enter Tryz.func129, Tryz.ntmps129
  go_wp2_with fail
  refine HV.out.mono ?_
  clear HV
  rintro e w3 ⟨⟨ha, rfl⟩ | ⟨ha, rfl⟩, rfl⟩
  · have hdt : (x.h.to == 2) = decide (x.h.to = 2) := by by_cases h2 : x.h.to = 2 <;> simp [h2]
    have HE := Lib.hid (show R (.returned (.tuple #[])) (w.setCell ⟨X.nB, i * 8 + 6, none⟩ (.int .i64 (iol (decide (x.h.to = 2))))) by
      rw [← HR.out]
      exact .inl ⟨_, by rw [vals_ok ha]; rfl, rfl, S, Sx.refl S, H.out.ty hil _, (Below.refl _ _).setCell (p := ⟨X.nB, i * 8 + 6, none⟩) (show X.B ≤ X.nB from H.out.hB.2.1) _⟩)
    have HI := fun W => iol_any (decide (x.h.to = 2)) W
    rw [← hdt] at HI HE
    have HII := Lib.hid HI
    clear ha HI hdt
    generalize x.h.to = tt at *
    go_wp2_with (go_at_call 93; refine (HII.out _).mono ?_; rintro e w5 ⟨rfl, rfl⟩)
    go_end0
    exact HE.out
  · have HE := Lib.hid (show R (PncL 6 x.h.p) w by
      rw [← HR.out]
      exact .inr ⟨6, x.h.p, by rw [vals_er ha]; rfl, rfl, Below.refl _ _⟩)
    clear ha
    go_wp2_with fail
    exact pnc_end rfl HE.out
set_option maxHeartbeats 2000000 in
set_option maxRecDepth 100000 in
theorem ex4_any {X : CkX} {S : CkS} {σ : Cs} {w : World} {K : Kn} (h : CkV X S σ w) {i : Nat} {x : CN} (hx : X.ns[i]? = some x) (hw : NdW X K σ x) (ho : x.h.op = 4) {k0 : Nat} (hk0 : x.kids = [k0]) :
    Calls Tryz.prog 129 #[ckp X, ndp X i] w (VisP X S (exprM K x.h x.kids i σ) w) := by
  have hnl := h.nodeLt
  have hil := (List.getElem?_eq_some_iff.1 hx).1
  have hc0 := h.nodeCell hx 0 (by omega)
  simp only [cellT, List.getElem?_cons_succ, List.getElem?_cons_zero, Nat.add_zero] at hc0
  rw [ho] at hc0
  have e : exprM K x.h x.kids i σ = (valsM x.h.p σ.tr x.kids).bind fun _ => .ok (setTy σ i (iol (!decide (x.h.s = [33]) && isLong σ.tr (kid x.kids 0)))) := by simp [exprM, ho]
  rw [e]
  obtain ⟨R, hR⟩ : ∃ R : Ending → World → Prop, VisP X S ((valsM x.h.p σ.tr x.kids).bind fun _ => .ok (setTy σ i (iol (!decide (x.h.s = [33]) && isLong σ.tr (kid x.kids 0))))) w = R := ⟨_, rfl⟩
  rw [hR]
  have HR := Lib.hid hR
  have HN := Lib.hid hw
  obtain ⟨A, c, hv, hk⟩ := h.kids hx
  have hv5 := h.nodeCell hx 5 (by omega)
  simp only [cellT, List.getElem?_cons_succ, List.getElem?_cons_zero] at hv5
  rw [hv] at hv5
  have HV := Lib.hid (mbv_any h hx hw.ks (n := x.kids.length) rfl hw.kl hk (A := A) (c := c))
  have H := Lib.hid h
  have hf6 := h.nod.frozenAt (i * 8 + 6)
  have hc6 := h.nodeCell hx 6 (by omega)
  have hc3 := h.nodeCell hx 3 (by omega)
  have hc4 := h.nodeCell hx 4 (by omega)
  simp only [cellT, List.getElem?_cons_succ, List.getElem?_cons_zero] at hc6 hc3 hc4
  have h0 : k0 < X.ns.length := hw.ks k0 (by rw [hk0]; simp)
  have hkk : kid x.kids 0 = k0 := by rw [hk0]; rfl
  obtain ⟨g, o, rfl, hg, hcc⟩ : ∃ g o, A = some ⟨g, o, none⟩ ∧ g < w.heap.size ∧ w.cell? ⟨g, o, none⟩ = some (.int .i64 (k0 : Nat)) := by
    rw [hk0] at hk
    rcases hk with e | ⟨g, o, e, hg, hc⟩
    · cases e
    · exact ⟨g, o, e, hg, hc 0 k0 rfl⟩
  have hkl : x.kids.length = 1 := by rw [hk0]; rfl
  rw [hkl] at hv5 HV
  clear h hR e hv hk
  go_enter Tryz.func129, Tryz.ntmps129
  go_wp2_with fail
  refine HV.out.mono ?_
  clear HV
  rintro e w3 ⟨⟨ha, rfl⟩ | ⟨ha, rfl⟩, rfl⟩
  · rw [hkk] at HR
    have HL := Lib.hid (isLong_any H.out h0)
    by_cases hs : x.h.s = [33]
    · have ef : (!decide (x.h.s = [33]) && isLong σ.tr k0) = false := by simp [hs]
      rw [ef] at HR
      rw [hs] at hc3
      have HE := Lib.hid (show R (.returned (.tuple #[])) (w.setCell ⟨X.nB, i * 8 + 6, none⟩ (.int .i64 (iol false))) by
        rw [← HR.out]
        exact .inl ⟨_, by rw [vals_ok ha]; rfl, rfl, S, Sx.refl S, H.out.ty hil _, (Below.refl _ _).setCell (p := ⟨X.nB, i * 8 + 6, none⟩) (show X.B ≤ X.nB from H.out.hB.2.1) _⟩)
      have HI := Lib.hid fun W => iol_any false W
      clear ha ef hs
      go_wp2_with (go_at_call 93; refine (HI.out _).mono ?_; rintro e w5 ⟨rfl, rfl⟩)
      go_end0
      exact HE.out
    · have ef : (!decide (x.h.s = [33]) && isLong σ.tr k0) = isLong σ.tr k0 := by simp [hs]
      rw [ef] at HR
      have hb33 : (x.h.s == [33]) = false := by simp [hs]
      have hb33' : (x.h.s != [33]) = true := by simp [hs]
      have HE := Lib.hid (show R (.returned (.tuple #[])) (w.setCell ⟨X.nB, i * 8 + 6, none⟩ (.int .i64 (iol (isLong σ.tr k0)))) by
        rw [← HR.out]
        exact .inl ⟨_, by rw [vals_ok ha]; rfl, rfl, S, Sx.refl S, H.out.ty hil _, (Below.refl _ _).setCell (p := ⟨X.nB, i * 8 + 6, none⟩) (show X.B ≤ X.nB from H.out.hB.2.1) _⟩)
      have HI := Lib.hid fun W => iol_any (isLong σ.tr k0) W
      generalize isLong σ.tr k0 = lb at *
      generalize x.h.s = ss at *
      clear ha ef hs
      go_wp2_with (first | (go_at_call 93; refine (HI.out _).mono ?_; rintro e w5 ⟨rfl, rfl⟩) | (go_at_call 154; refine HL.out.mono ?_; rintro e w5 ⟨rfl, rfl⟩))
      go_end0
      exact HE.out
  · have HE := Lib.hid (show R (PncL 6 x.h.p) w by
      rw [← HR.out]
      exact .inr ⟨6, x.h.p, by rw [vals_er ha]; rfl, rfl, Below.refl _ _⟩)
    clear ha
    go_wp2_with fail
    exact pnc_end rfl HE.out
set_option maxHeartbeats 2000000 in
set_option maxRecDepth 100000 in
theorem ex5_any {X : CkX} {S : CkS} {σ : Cs} {w : World} {K : Kn} (h : CkV X S σ w) {i : Nat} {x : CN} (hx : X.ns[i]? = some x) (hw : NdW X K σ x) (ho : x.h.op = 5) {k0 k1 : Nat} (hk0 : x.kids = [k0, k1]) :
    Calls Tryz.prog 129 #[ckp X, ndp X i] w (VisP X S (exprM K x.h x.kids i σ) w) := by
  have hnl := h.nodeLt
  have hil := (List.getElem?_eq_some_iff.1 hx).1
  have hc0 := h.nodeCell hx 0 (by omega)
  simp only [cellT, List.getElem?_cons_succ, List.getElem?_cons_zero, Nat.add_zero] at hc0
  rw [ho] at hc0
  have e : exprM K x.h x.kids i σ = (valsM x.h.p σ.tr x.kids).bind fun _ => .ok (setTy σ i (iol (binLong x.h.s (isLong σ.tr (kid x.kids 0)) (isLong σ.tr (kid x.kids 1))))) := by simp [exprM, ho]
  rw [e]
  obtain ⟨R, hR⟩ : ∃ R : Ending → World → Prop, VisP X S ((valsM x.h.p σ.tr x.kids).bind fun _ => .ok (setTy σ i (iol (binLong x.h.s (isLong σ.tr (kid x.kids 0)) (isLong σ.tr (kid x.kids 1)))))) w = R := ⟨_, rfl⟩
  rw [hR]
  have HR := Lib.hid hR
  have HN := Lib.hid hw
  obtain ⟨A, c, hv, hk⟩ := h.kids hx
  have hv5 := h.nodeCell hx 5 (by omega)
  simp only [cellT, List.getElem?_cons_succ, List.getElem?_cons_zero] at hv5
  rw [hv] at hv5
  have HV := Lib.hid (mbv_any h hx hw.ks (n := x.kids.length) rfl hw.kl hk (A := A) (c := c))
  have H := Lib.hid h
  have hf6 := h.nod.frozenAt (i * 8 + 6)
  have hc6 := h.nodeCell hx 6 (by omega)
  have hc3 := h.nodeCell hx 3 (by omega)
  have hc4 := h.nodeCell hx 4 (by omega)
  simp only [cellT, List.getElem?_cons_succ, List.getElem?_cons_zero] at hc6 hc3 hc4
  have h0 : k0 < X.ns.length := hw.ks k0 (by rw [hk0]; simp)
  have h1 : k1 < X.ns.length := hw.ks k1 (by rw [hk0]; simp)
  have hkk : kid x.kids 0 = k0 := by rw [hk0]; rfl
  have hkk1 : kid x.kids 1 = k1 := by rw [hk0]; rfl
  rw [hkk, hkk1] at HR
  have HL := Lib.hid (ilb_any h hx hk0 h0 h1)
  clear hkk hkk1 hk0
  clear h hR e hv hk
  go_enter Tryz.func129, Tryz.ntmps129
  go_wp2_with fail
  refine HV.out.mono ?_
  clear HV
  rintro e w3 ⟨⟨ha, rfl⟩ | ⟨ha, rfl⟩, rfl⟩
  · skip
    obtain ⟨bl, hbl⟩ : ∃ b, binLong x.h.s (isLong σ.tr k0) (isLong σ.tr k1) = b := ⟨_, rfl⟩
    rw [hbl] at HL HR
    have HI := Lib.hid fun W => iol_any bl W
    have HVO : Hid ((valsM x.h.p σ.tr x.kids) = .ok ()) := Lib.hid (vals_ok ha)
    clear ha hbl
    go_wp2_with fail
    refine HL.out.mono ?_
    clear HL
    rintro e w4 ⟨rfl, hb4⟩
    have hC4 := H.out.on hb4
    have hf64 := hC4.nod.frozenAt (i * 8 + 6)
    have hc64 := hC4.nodeCell hx 6 (by omega)
    simp only [cellT, List.getElem?_cons_succ, List.getElem?_cons_zero] at hc64
    have hnl4 := hC4.nodeLt
    have HE := Lib.hid (show R (.returned (.tuple #[])) (w4.setCell ⟨X.nB, i * 8 + 6, none⟩ (.int .i64 (iol bl))) by
      rw [← HR.out]
      exact .inl ⟨_, by rw [HVO.out]; rfl, rfl, S, Sx.refl S, hC4.ty hil _, (hb4.mono H.out.Ble).setCell (p := ⟨X.nB, i * 8 + 6, none⟩) (show X.B ≤ X.nB from H.out.hB.2.1) _⟩)
    clear hC4 hb4
    go_wp2_with (go_at_call 93; refine (HI.out _).mono ?_; rintro e w5 ⟨rfl, rfl⟩)
    go_end0
    exact HE.out
  · have HE := Lib.hid (show R (PncL 6 x.h.p) w by
      rw [← HR.out]
      exact .inr ⟨6, x.h.p, by rw [vals_er ha]; rfl, rfl, Below.refl _ _⟩)
    clear ha
    go_wp2_with fail
    exact pnc_end rfl HE.out
set_option maxHeartbeats 2000000 in
set_option maxRecDepth 100000 in
theorem ex8_any {X : CkX} {S : CkS} {σ : Cs} {w : World} {K : Kn} (h : CkV X S σ w) {i : Nat} {x : CN} (hx : X.ns[i]? = some x) (hw : NdW X K σ x) (ho : x.h.op = 8) :
    Calls Tryz.prog 129 #[ckp X, ndp X i] w (VisP X S (exprM K x.h x.kids i σ) w) := by
  have hnl := h.nodeLt
  have hil := (List.getElem?_eq_some_iff.1 hx).1
  have hc0 := h.nodeCell hx 0 (by omega)
  simp only [cellT, List.getElem?_cons_succ, List.getElem?_cons_zero, Nat.add_zero] at hc0
  rw [ho] at hc0
  have e : exprM K x.h x.kids i σ = .ok (setTy σ i 2) := by simp [exprM, ho]
  rw [e]
  obtain ⟨R, hR⟩ : ∃ R : Ending → World → Prop, VisP X S (.ok (setTy σ i 2)) w = R := ⟨_, rfl⟩
  rw [hR]
  have HR := Lib.hid hR
  have HN := Lib.hid hw
  have H := Lib.hid h
  have hf6 := h.nod.frozenAt (i * 8 + 6)
  have hc6 := h.nodeCell hx 6 (by omega)
  simp only [cellT, List.getElem?_cons_succ, List.getElem?_cons_zero] at hc6
  clear h hR e 
  go_enter Tryz.func129, Tryz.ntmps129
  have HE := Lib.hid (show R (.returned (.tuple #[])) (w.setCell ⟨X.nB, i * 8 + 6, none⟩ (.int .i64 2)) by
    rw [← HR.out]
    exact .inl ⟨_, rfl, rfl, S, Sx.refl S, H.out.ty hil _, (Below.refl _ _).setCell (p := ⟨X.nB, i * 8 + 6, none⟩) (show X.B ≤ X.nB from H.out.hB.2.1) _⟩)
  go_wp2_with fail
  go_end0
  exact HE.out
theorem bne_nat {a b : Nat} (h : ((a : Int) != (b : Int)) = true) : a ≠ b := by
  intro e
  subst e
  simp at h
theorem beq_nat {a b : Nat} (h : ((a : Int) != (b : Int)) = false) : a = b := by
  have h2 : (a : Int) = b := by simpa using h
  omega
theorem referM_ok {h : Hd} {so : List Int} {sc : List Scp} {m : Mg} (e : referM h so sc = .ok m) : lookS sc h.s = some m ∧ m.so ∈ so := by
  unfold referM at e
  cases hl : lookS sc h.s with
  | none => rw [hl] at e; cases e
  | some q =>
    rw [hl] at e
    simp only at e
    split at e
    · rename_i hq
      cases e
      exact ⟨rfl, hq⟩
    · cases e
theorem setTyRf_at {σ : Cs} {i : Nat} (hi : i < σ.tr.length) (r t : Int) : (setTy (setRf σ i r) i t).tr.getD i (0, 0) = (t, r) := by
  simp [setTy, setRf, hi]
set_option maxHeartbeats 2000000 in
set_option maxRecDepth 100000 in
theorem ex7_any {X : CkX} {S : CkS} {σ : Cs} {w : World} {K : Kn} (h : CkV X S σ w) {i : Nat} {x : CN} (hx : X.ns[i]? = some x) (hw : NdW X K σ x) (ho : x.h.op = 7) :
    Calls Tryz.prog 129 #[ckp X, ndp X i] w (VisP X S (exprM K x.h x.kids i σ) w) := by
  have hnl := h.nodeLt
  have hil := (List.getElem?_eq_some_iff.1 hx).1
  have hc0 := h.nodeCell hx 0 (by omega)
  simp only [cellT, List.getElem?_cons_succ, List.getElem?_cons_zero, Nat.add_zero] at hc0
  rw [ho] at hc0
  have e : exprM K x.h x.kids i σ = (referM x.h [4] σ.sc).bind fun m => (refuse (decide (x.kids.length ≠ K.np.getD m.rf.toNat 0)) 7 x.h.p).bind fun _ => (valsM x.h.p (setTy (setRf σ i m.rf) i m.vl).tr x.kids).bind fun _ => .ok (setTy (setRf σ i m.rf) i m.vl) := by simp [exprM, ho]
  rw [e]
  obtain ⟨R, hR⟩ : ∃ R : Ending → World → Prop, VisP X S ((referM x.h [4] σ.sc).bind fun m => (refuse (decide (x.kids.length ≠ K.np.getD m.rf.toNat 0)) 7 x.h.p).bind fun _ => (valsM x.h.p (setTy (setRf σ i m.rf) i m.vl).tr x.kids).bind fun _ => .ok (setTy (setRf σ i m.rf) i m.vl)) w = R := ⟨_, rfl⟩
  rw [hR]
  have HR := Lib.hid hR
  have HN := Lib.hid hw
  have hb1 : Below w.heap.size w (w.alloc (.cells #[.int .i64 4] tInt)) := (Below.refl _ _).alloc (Nat.le_refl _) _
  have HF := Lib.hid (refer_any (h.on hb1) hx (by unfold maxLen; have := hw.s; omega) hw.sc (so := [4]) (n := 1) (g := w.heap.size) rfl (by omega) (Blk.new w tInt _))
  have HB := Lib.hid (hb1.mono h.Ble)
  clear h hR e hb1
  go_enter Tryz.func129, Tryz.ntmps129
  go_wp2_with fail
  refine HF.out.mono ?_
  clear HF
  rintro e w1 (⟨m, hm, rfl, hC, hb⟩ | ⟨no, p, hm, rfl, hb⟩)
  · have hnl1 := hC.nodeLt
    have hf6 := hC.nod.frozenAt (i * 8 + 6)
    have hc6 := hC.nodeCell hx 6 (by omega)
    simp only [cellT, List.getElem?_cons_succ, List.getElem?_cons_zero] at hc6
    have hC2 := hC.ty hil m.vl
    have hb2 := (HB.out.trans hb).setCell (p := ⟨X.nB, i * 8 + 6, none⟩) (show X.B ≤ X.nB from hC.hB.2.1) (.int .i64 m.vl)
    obtain ⟨A, c, hv, hk⟩ := hC2.kids hx
    have hv5 := hC2.nodeCell hx 5 (by omega)
    simp only [cellT, List.getElem?_cons_succ, List.getElem?_cons_zero] at hv5
    rw [hv] at hv5
    have hnl2 := hC2.nodeLt
    have HC := Lib.hid (And.intro hC2 hb2)
    have HVV := Lib.hid hv
    obtain ⟨hlk, hso⟩ := referM_ok hm
    obtain ⟨j, hj, hjl⟩ := hw.fn m hlk (by simpa using hso)
    obtain ⟨f, hf⟩ : ∃ f, X.fl[j]? = some f := ⟨_, List.getElem?_eq_getElem hjl⟩
    obtain ⟨fv, hfv⟩ : ∃ v, S.vls[j]? = some v := ⟨_, List.getElem?_eq_getElem (by rw [hC2.vll]; exact hjl)⟩
    obtain ⟨pA, pc, hpv⟩ := own_ex (hC2.prm f (List.mem_of_getElem? hf)).1
    have hp2 := hC2.fnCell hf hfv 2 (by omega)
    simp only [fnC, List.getElem?_cons_succ, List.getElem?_cons_zero] at hp2
    rw [hpv] at hp2
    have h7 := hC2.nodeCell hx 7 (by omega)
    rw [setTyRf_at (by have := hC.trl; simp only [setRf, List.length_set] at this; omega)] at h7
    simp only [cellT, List.getElem?_cons_succ, List.getElem?_cons_zero] at h7
    rw [hj] at h7
    have h1p := hC2.nodeCell hx 1 (by omega)
    simp only [cellT, List.getElem?_cons_succ, List.getElem?_cons_zero] at h1p
    have c1 := hC2.c1
    have hbl := hC2.chk.lt
    have hfl := hC2.fnLt
    have hjI : (j : Int) < X.fl.length := by omega
    have hnp : K.np.getD m.rf.toNat 0 = f.1.ps.length := by
      rw [hw.np, hj]
      simp [hf]
    have HNP := Lib.hid hnp
    have HM := Lib.hid hm
    clear hC hb hm hb2 hlk hso hj hnp hpv hf hfv
    go_upto_region 17 with (fail)
    clear hc6 hf6 hc0 hnl1 hnl
    generalize w1.setCell ⟨X.nB, i * 8 + 6, none⟩ (.int .i64 m.vl) = W2 at *
    obtain ⟨pl, hpl⟩ : ∃ n, f.1.ps.length = n := ⟨_, rfl⟩
    rw [hpl] at hp2 HNP
    obtain ⟨kl, hkl⟩ : ∃ n, x.kids.length = n := ⟨_, rfl⟩
    have HKL := Lib.hid hkl
    rw [hkl] at hv5
    have HS : Hid (∀ Wx, Below W2.heap.size W2 Wx → Wx.cell? ⟨X.nB, i * 8 + 5, none⟩ = some (.slice A kl c) ∧ Wx.cell? ⟨X.b, 1, none⟩ = some (.slice (some ⟨X.fB, 0, none⟩) X.fl.length X.fc) ∧ Wx.cell? ⟨X.nB, i * 8 + 7, none⟩ = some (.int .i64 (j : Int)) ∧ Wx.cell? ⟨X.fB, j * 6 + 2, none⟩ = some (.slice pA pl pc) ∧ Wx.cell? ⟨X.nB, i * 8 + 1, none⟩ = some (.int .i64 x.h.p) ∧ X.nB < Wx.heap.size ∧ X.b < Wx.heap.size ∧ X.fB < Wx.heap.size) := Lib.hid fun Wx hW => by
      have hz := hW.size
      exact ⟨(hW.cell (p := ⟨X.nB, i * 8 + 5, none⟩) hnl2).trans hv5, (hW.cell (p := ⟨X.b, 1, none⟩) hbl).trans c1, (hW.cell (p := ⟨X.nB, i * 8 + 7, none⟩) hnl2).trans h7, (hW.cell (p := ⟨X.fB, j * 6 + 2, none⟩) hfl).trans hp2, (hW.cell (p := ⟨X.nB, i * 8 + 1, none⟩) hnl2).trans h1p, by omega, by omega, by omega⟩
    have HRf : Hid (∀ W b, Below W2.heap.size W2 W → Calls Tryz.prog 48 #[.bool b, .int .i64 7, .int .i64 x.h.p] W fun e w' => (b = true ∧ e = .panicked [{ v := .iface tFt (.agg #[.int .i64 7, .int .i64 x.h.p]), recovered := false }] ∨ b = false ∧ e = .returned (.tuple #[])) ∧ Below W2.heap.size W2 w') := Lib.hid fun W b hW =>
      (refuse_or b 7 x.h.p W).mono fun e w' h => ⟨h.1, by rw [← h.2]; exact hW⟩
    have HE7 : Hid (∀ W, Below W2.heap.size W2 W → kl ≠ pl → R (.panicked [{ v := .iface tFt (.agg #[.int .i64 7, .int .i64 x.h.p]), recovered := false }]) W) := Lib.hid fun W hW hne => by
      rw [← HR.out]
      exact .inr ⟨7, x.h.p, by rw [HM.out, Ck.bind_ok, HNP.out, HKL.out]; simp [refuse, hne], rfl, HC.out.2.trans (hW.mono HC.out.1.Ble)⟩
    have J : Below W2.heap.size W2 W2 := Below.refl _ _
    clear hkl hpl hk hC2
    go_region_held2 (fun Wx => Wx.cell? ⟨X.nB, i * 8 + 5, none⟩ = some (.slice A kl c) ∧ Wx.cell? ⟨X.b, 1, none⟩ = some (.slice (some ⟨X.fB, 0, none⟩) X.fl.length X.fc) ∧ Wx.cell? ⟨X.nB, i * 8 + 7, none⟩ = some (.int .i64 (j : Int)) ∧ Wx.cell? ⟨X.fB, j * 6 + 2, none⟩ = some (.slice pA pl pc) ∧ Wx.cell? ⟨X.nB, i * 8 + 1, none⟩ = some (.int .i64 x.h.p) ∧ X.nB < Wx.heap.size ∧ X.b < Wx.heap.size ∧ X.fB < Wx.heap.size)
      (first | exact ⟨hv5, c1, h7, hp2, h1p, hnl2, hbl, hfl⟩ | exact HS.out _ J)
      (first
        | (go_at_call 48; (with_reducible refine Calls.mono (HRf.out _ _ (by first | exact J | exact J.drew)) ?_); rintro e v2 ⟨⟨hm, rfl⟩ | ⟨hm, rfl⟩, J⟩; (refine pnc_end rfl ?_; exact HE7.out _ J (bne_nat hm)); have HMM := Lib.hid hm; clear hm))
    all_goals
      have hkp : kl = pl := beq_nat HMM.out
      have hC3 := HC.out.1.on J
      obtain ⟨A', c', hv', hk'⟩ := hC3.kids hx
      rw [HVV.out] at hv'
      simp only [Value.slice.injEq, true_and] at hv'
      obtain ⟨rfl, rfl⟩ := hv'
      have hnl3 := hC3.nodeLt
      have HV := Lib.hid (mbv_any hC3 hx hw.ks (n := kl) HKL.out (by have := hw.kl; have := HKL.out; omega) hk' (A := A) (c := c))
      have HC3 := Lib.hid (And.intro hC3 (HC.out.2.trans (J.mono HC.out.1.Ble)))
      have HKP := Lib.hid hkp
      clear hC3 J hk' hkp
      go_wp2_with fail
      refine HV.out.mono ?_
      clear HV
      rintro e w3 ⟨⟨ha, rfl⟩ | ⟨ha, rfl⟩, rfl⟩
      · have HE := Lib.hid (show R (.returned (.tuple #[])) v2 by
          rw [← HR.out]
          exact .inl ⟨_, by rw [HM.out, Ck.bind_ok, HNP.out, HKL.out, HKP.out, vals_ok ha]; simp [refuse], rfl, S, Sx.refl S, HC3.out.1, HC3.out.2⟩)
        clear ha
        go_wp2_with fail
        go_end0
        exact HE.out
      · have HE := Lib.hid (show R (PncL 6 x.h.p) v2 by
          rw [← HR.out]
          exact .inr ⟨6, x.h.p, by rw [HM.out, Ck.bind_ok, HNP.out, HKL.out, HKP.out, vals_er ha]; simp [refuse], rfl, HC3.out.2⟩)
        clear ha
        go_wp2_with fail
        exact pnc_end rfl HE.out
  · have HE := Lib.hid (show R (PncL no p) w1 by
      rw [← HR.out]
      exact .inr ⟨no, p, by rw [hm]; rfl, rfl, HB.out.trans hb⟩)
    clear hb hm
    go_wp2_with fail
    exact pnc_end rfl HE.out
end Go.Proofs.YtfaoiajhoifalaaGreatDoor
/-! Ckj -/
namespace Go.Proofs.YtfaoiajhoifalaaGreatDoor
open Go Go.RowKit Go.Maps
set_option linter.unusedVariables false
set_option linter.unusedSimpArgs false

theorem ret_bb {kl : Nat} {ft : Int} {bb r : Bool} (h : (decide (0 < kl) == decide (ft = 0)) = bb) (hm : (decide (0 < kl) == (ft == 0)) = r) : bb = r := by
  have e : (ft == 0) = decide (ft = 0) := by by_cases h2 : ft = 0 <;> simp [h2]
  rw [← h, ← hm, e]
set_option maxHeartbeats 2000000 in
set_option maxRecDepth 100000 in
theorem st13_any {X : CkX} {S : CkS} {σ : Cs} {w : World} {K : Kn} (h : CkV X S σ w) {i : Nat} {x : CN} (hx : X.ns[i]? = some x) (hw : NdW X K σ x) (ho : x.h.op = 13) :
    Calls Tryz.prog 130 #[ckp X, ndp X i] w (VisP X S (stmtM K x.h x.kids i σ) w) := by
  have hnl := h.nodeLt
  have hil := (List.getElem?_eq_some_iff.1 hx).1
  have hc0 := h.nodeCell hx 0 (by omega)
  simp only [cellT, List.getElem?_cons_succ, List.getElem?_cons_zero, Nat.add_zero] at hc0
  rw [ho] at hc0
  have e : stmtM K x.h x.kids i σ = (referM x.h [1, 2] σ.sc).bind fun m => (valsM x.h.p (setRf σ i m.rf).tr x.kids).bind fun _ => .ok (setRf σ i m.rf) := by simp [stmtM, ho]
  rw [e]
  obtain ⟨R, hR⟩ : ∃ R : Ending → World → Prop, VisP X S ((referM x.h [1, 2] σ.sc).bind fun m => (valsM x.h.p (setRf σ i m.rf).tr x.kids).bind fun _ => .ok (setRf σ i m.rf)) w = R := ⟨_, rfl⟩
  rw [hR]
  have HR := Lib.hid hR
  have HN := Lib.hid hw
  have hb1 : Below w.heap.size w (w.alloc (.cells #[.int .i64 1, .int .i64 2] tInt)) := (Below.refl _ _).alloc (Nat.le_refl _) _
  have HF := Lib.hid (refer_any (h.on hb1) hx (by unfold maxLen; have := hw.s; omega) hw.sc (so := [1, 2]) (n := 2) (g := w.heap.size) rfl (by omega) (Blk.new w tInt _))
  have HB := Lib.hid (hb1.mono h.Ble)
  clear h hR e hb1
  go_enter Tryz.func130, Tryz.ntmps130
  go_wp2_with fail
  refine HF.out.mono ?_
  clear HF
  rintro e w1 (⟨m, hm, rfl, hC, hb⟩ | ⟨no, p, hm, rfl, hb⟩)
  · obtain ⟨A, c, hv, hk⟩ := hC.kids hx
    have hv5 := hC.nodeCell hx 5 (by omega)
    simp only [cellT, List.getElem?_cons_succ, List.getElem?_cons_zero] at hv5
    rw [hv] at hv5
    have hnl2 := hC.nodeLt
    have HV := Lib.hid (mbv_any hC hx hw.ks (n := x.kids.length) rfl hw.kl hk (A := A) (c := c))
    have HC := Lib.hid (And.intro hC (HB.out.trans hb))
    have HM := Lib.hid hm
    clear hC hb hm hv hk
    go_wp2_with fail
    refine HV.out.mono ?_
    clear HV
    rintro e w3 ⟨⟨ha, rfl⟩ | ⟨ha, rfl⟩, rfl⟩
    · have HE := Lib.hid (show R (.returned (.tuple #[])) w1 by
        rw [← HR.out]
        exact .inl ⟨_, by rw [HM.out, Ck.bind_ok, vals_ok ha]; rfl, rfl, S, Sx.refl S, HC.out.1, HC.out.2⟩)
      clear ha
      go_wp2_with fail
      go_end0
      exact HE.out
    · have HE := Lib.hid (show R (PncL 6 x.h.p) w1 by
        rw [← HR.out]
        exact .inr ⟨6, x.h.p, by rw [HM.out, Ck.bind_ok, vals_er ha]; rfl, rfl, HC.out.2⟩)
      clear ha
      go_wp2_with fail
      exact pnc_end rfl HE.out
  · have HE := Lib.hid (show R (PncL no p) w1 by
      rw [← HR.out]
      exact .inr ⟨no, p, by rw [hm]; rfl, rfl, HB.out.trans hb⟩)
    clear hb hm
    go_wp2_with fail
    exact pnc_end rfl HE.out
set_option maxHeartbeats 2000000 in
set_option maxRecDepth 100000 in
theorem st14_any {X : CkX} {S : CkS} {σ : Cs} {w : World} {K : Kn} (h : CkV X S σ w) {i : Nat} {x : CN} (hx : X.ns[i]? = some x) (hw : NdW X K σ x) (ho : x.h.op = 14) :
    Calls Tryz.prog 130 #[ckp X, ndp X i] w (VisP X S (stmtM K x.h x.kids i σ) w) := by
  have hnl := h.nodeLt
  have hil := (List.getElem?_eq_some_iff.1 hx).1
  have hc0 := h.nodeCell hx 0 (by omega)
  simp only [cellT, List.getElem?_cons_succ, List.getElem?_cons_zero, Nat.add_zero] at hc0
  rw [ho] at hc0
  have e : stmtM K x.h x.kids i σ = (referM x.h [3] σ.sc).bind fun m => (valsM x.h.p (setRf σ i m.rf).tr x.kids).bind fun _ => .ok (setRf σ i m.rf) := by simp [stmtM, ho]
  rw [e]
  obtain ⟨R, hR⟩ : ∃ R : Ending → World → Prop, VisP X S ((referM x.h [3] σ.sc).bind fun m => (valsM x.h.p (setRf σ i m.rf).tr x.kids).bind fun _ => .ok (setRf σ i m.rf)) w = R := ⟨_, rfl⟩
  rw [hR]
  have HR := Lib.hid hR
  have HN := Lib.hid hw
  have hb1 : Below w.heap.size w (w.alloc (.cells #[.int .i64 3] tInt)) := (Below.refl _ _).alloc (Nat.le_refl _) _
  have HF := Lib.hid (refer_any (h.on hb1) hx (by unfold maxLen; have := hw.s; omega) hw.sc (so := [3]) (n := 1) (g := w.heap.size) rfl (by omega) (Blk.new w tInt _))
  have HB := Lib.hid (hb1.mono h.Ble)
  clear h hR e hb1
  go_enter Tryz.func130, Tryz.ntmps130
  go_wp2_with fail
  refine HF.out.mono ?_
  clear HF
  rintro e w1 (⟨m, hm, rfl, hC, hb⟩ | ⟨no, p, hm, rfl, hb⟩)
  · obtain ⟨A, c, hv, hk⟩ := hC.kids hx
    have hv5 := hC.nodeCell hx 5 (by omega)
    simp only [cellT, List.getElem?_cons_succ, List.getElem?_cons_zero] at hv5
    rw [hv] at hv5
    have hnl2 := hC.nodeLt
    have HV := Lib.hid (mbv_any hC hx hw.ks (n := x.kids.length) rfl hw.kl hk (A := A) (c := c))
    have HC := Lib.hid (And.intro hC (HB.out.trans hb))
    have HM := Lib.hid hm
    clear hC hb hm hv hk
    go_wp2_with fail
    refine HV.out.mono ?_
    clear HV
    rintro e w3 ⟨⟨ha, rfl⟩ | ⟨ha, rfl⟩, rfl⟩
    · have HE := Lib.hid (show R (.returned (.tuple #[])) w1 by
        rw [← HR.out]
        exact .inl ⟨_, by rw [HM.out, Ck.bind_ok, vals_ok ha]; rfl, rfl, S, Sx.refl S, HC.out.1, HC.out.2⟩)
      clear ha
      go_wp2_with fail
      go_end0
      exact HE.out
    · have HE := Lib.hid (show R (PncL 6 x.h.p) w1 by
        rw [← HR.out]
        exact .inr ⟨6, x.h.p, by rw [HM.out, Ck.bind_ok, vals_er ha]; rfl, rfl, HC.out.2⟩)
      clear ha
      go_wp2_with fail
      exact pnc_end rfl HE.out
  · have HE := Lib.hid (show R (PncL no p) w1 by
      rw [← HR.out]
      exact .inr ⟨no, p, by rw [hm]; rfl, rfl, HB.out.trans hb⟩)
    clear hb hm
    go_wp2_with fail
    exact pnc_end rfl HE.out
set_option maxHeartbeats 2000000 in
set_option maxRecDepth 100000 in
theorem st20_any {X : CkX} {S : CkS} {σ : Cs} {w : World} {K : Kn} (h : CkV X S σ w) {i : Nat} {x : CN} (hx : X.ns[i]? = some x) (hw : NdW X K σ x) (ho : x.h.op = 20) :
    Calls Tryz.prog 130 #[ckp X, ndp X i] w (VisP X S (stmtM K x.h x.kids i σ) w) := by
  have hnl := h.nodeLt
  have hil := (List.getElem?_eq_some_iff.1 hx).1
  have hc0 := h.nodeCell hx 0 (by omega)
  simp only [cellT, List.getElem?_cons_succ, List.getElem?_cons_zero, Nat.add_zero] at hc0
  rw [ho] at hc0
  have e : stmtM K x.h x.kids i σ = (valsM x.h.p σ.tr x.kids).bind fun _ => .ok σ := by simp [stmtM, ho]
  rw [e]
  obtain ⟨R, hR⟩ : ∃ R : Ending → World → Prop, VisP X S ((valsM x.h.p σ.tr x.kids).bind fun _ => .ok σ) w = R := ⟨_, rfl⟩
  rw [hR]
  have HR := Lib.hid hR
  have HN := Lib.hid hw
  obtain ⟨A, c, hv, hk⟩ := h.kids hx
  have hv5 := h.nodeCell hx 5 (by omega)
  simp only [cellT, List.getElem?_cons_succ, List.getElem?_cons_zero] at hv5
  rw [hv] at hv5
  have HV := Lib.hid (mbv_any h hx hw.ks (n := x.kids.length) rfl hw.kl hk (A := A) (c := c))
  have H := Lib.hid h
  clear h hR e hv hk
  go_enter Tryz.func130, Tryz.ntmps130
  go_wp2_with fail
  refine HV.out.mono ?_
  clear HV
  rintro e w3 ⟨⟨ha, rfl⟩ | ⟨ha, rfl⟩, rfl⟩
  · have HE := Lib.hid (show R (.returned (.tuple #[])) w by
      rw [← HR.out]
      exact .inl ⟨_, by rw [vals_ok ha]; rfl, rfl, S, Sx.refl S, H.out, Below.refl _ _⟩)
    clear ha
    go_wp2_with fail
    go_end0
    exact HE.out
  · have HE := Lib.hid (show R (PncL 6 x.h.p) w by
      rw [← HR.out]
      exact .inr ⟨6, x.h.p, by rw [vals_er ha]; rfl, rfl, Below.refl _ _⟩)
    clear ha
    go_wp2_with fail
    exact pnc_end rfl HE.out
set_option maxHeartbeats 2000000 in
set_option maxRecDepth 100000 in
theorem st15_any {X : CkX} {S : CkS} {σ : Cs} {w : World} {K : Kn} (h : CkV X S σ w) {i : Nat} {x : CN} (hx : X.ns[i]? = some x) (hw : NdW X K σ x) (ho : x.h.op = 15) {k0 : Nat} {kr : List Nat} (hk0 : x.kids = k0 :: kr) :
    Calls Tryz.prog 130 #[ckp X, ndp X i] w (VisP X S (stmtM K x.h x.kids i σ) w) := by
  have hnl := h.nodeLt
  have hil := (List.getElem?_eq_some_iff.1 hx).1
  have hc0 := h.nodeCell hx 0 (by omega)
  simp only [cellT, List.getElem?_cons_succ, List.getElem?_cons_zero, Nat.add_zero] at hc0
  rw [ho] at hc0
  have e : stmtM K x.h x.kids i σ = (valsM x.h.p σ.tr [kid x.kids 0]).bind fun _ => .ok σ := by simp [stmtM, ho]
  rw [e]
  obtain ⟨R, hR⟩ : ∃ R : Ending → World → Prop, VisP X S ((valsM x.h.p σ.tr [kid x.kids 0]).bind fun _ => .ok σ) w = R := ⟨_, rfl⟩
  rw [hR]
  have HR := Lib.hid hR
  have HN := Lib.hid hw
  obtain ⟨A, c, hv, hk⟩ := h.kids hx
  have hv5 := h.nodeCell hx 5 (by omega)
  simp only [cellT, List.getElem?_cons_succ, List.getElem?_cons_zero] at hv5
  rw [hv] at hv5
  have h0 : k0 < X.ns.length := hw.ks k0 (by rw [hk0]; simp)
  have hkk : kid x.kids 0 = k0 := by rw [hk0]; rfl
  rw [hkk] at HR
  obtain ⟨g, o, rfl, hg, hcc⟩ : ∃ g o, A = some ⟨g, o, none⟩ ∧ g < w.heap.size ∧ w.cell? ⟨g, o, none⟩ = some (.int .i64 (k0 : Nat)) := by
    rw [hk0] at hk
    rcases hk with e | ⟨g, o, e, hg, hc⟩
    · cases e
    · exact ⟨g, o, e, hg, hc 0 k0 rfl⟩
  obtain ⟨kl, hkl⟩ : ∃ n, x.kids.length = n := ⟨_, rfl⟩
  have hkp : 0 < kl := by rw [← hkl, hk0]; simp
  rw [hkl] at hv5
  have hb1 : Below w.heap.size w (w.alloc (.cells #[.int .i64 (k0 : Nat)] tInt)) := (Below.refl _ _).alloc (Nat.le_refl _) _
  have H := Lib.hid (And.intro (h.on hb1) (hb1.mono h.Ble))
  have HV := Lib.hid (mbv_any (h.on hb1) hx (ks := [k0]) (by intro k hk; simp at hk; rw [hk]; exact h0) (n := 1) rfl (by omega) (.inr ⟨w.heap.size, 0, rfl, by simp, fun j k hj => by
    have := (Blk.new w tInt #[.int .i64 (k0 : Nat)]).cell j
    rw [Nat.zero_add, this]
    cases j with
    | zero => simp at hj; rw [hj]; rfl
    | succ j => simp at hj⟩) (A := some ⟨w.heap.size, 0, none⟩) (c := 1))
  clear h hR e hv hk hk0 hkk hkl hb1
  go_enter Tryz.func130, Tryz.ntmps130
  go_wp2_with fail
  refine HV.out.mono ?_
  clear HV
  rintro e w3 ⟨⟨ha, rfl⟩ | ⟨ha, rfl⟩, rfl⟩
  · have HE := Lib.hid (show R (.returned (.tuple #[])) (w.alloc (.cells #[.int .i64 (k0 : Nat)] tInt)) by
      rw [← HR.out]
      exact .inl ⟨_, by rw [vals_ok ha]; rfl, rfl, S, Sx.refl S, H.out.1, H.out.2⟩)
    clear ha
    go_wp2_with fail
    go_end0
    exact HE.out
  · have HE := Lib.hid (show R (PncL 6 x.h.p) (w.alloc (.cells #[.int .i64 (k0 : Nat)] tInt)) by
      rw [← HR.out]
      exact .inr ⟨6, x.h.p, by rw [vals_er ha]; rfl, rfl, H.out.2⟩)
    clear ha
    go_wp2_with fail
    exact pnc_end rfl HE.out
set_option maxHeartbeats 2000000 in
set_option maxRecDepth 100000 in
theorem st16_any {X : CkX} {S : CkS} {σ : Cs} {w : World} {K : Kn} (h : CkV X S σ w) {i : Nat} {x : CN} (hx : X.ns[i]? = some x) (hw : NdW X K σ x) (ho : x.h.op = 16) {k0 : Nat} {kr : List Nat} (hk0 : x.kids = k0 :: kr) :
    Calls Tryz.prog 130 #[ckp X, ndp X i] w (VisP X S (stmtM K x.h x.kids i σ) w) := by
  have hnl := h.nodeLt
  have hil := (List.getElem?_eq_some_iff.1 hx).1
  have hc0 := h.nodeCell hx 0 (by omega)
  simp only [cellT, List.getElem?_cons_succ, List.getElem?_cons_zero, Nat.add_zero] at hc0
  rw [ho] at hc0
  have e : stmtM K x.h x.kids i σ = (valsM x.h.p σ.tr [kid x.kids 0]).bind fun _ => .ok σ := by simp [stmtM, ho]
  rw [e]
  obtain ⟨R, hR⟩ : ∃ R : Ending → World → Prop, VisP X S ((valsM x.h.p σ.tr [kid x.kids 0]).bind fun _ => .ok σ) w = R := ⟨_, rfl⟩
  rw [hR]
  have HR := Lib.hid hR
  have HN := Lib.hid hw
  obtain ⟨A, c, hv, hk⟩ := h.kids hx
  have hv5 := h.nodeCell hx 5 (by omega)
  simp only [cellT, List.getElem?_cons_succ, List.getElem?_cons_zero] at hv5
  rw [hv] at hv5
  have h0 : k0 < X.ns.length := hw.ks k0 (by rw [hk0]; simp)
  have hkk : kid x.kids 0 = k0 := by rw [hk0]; rfl
  rw [hkk] at HR
  obtain ⟨g, o, rfl, hg, hcc⟩ : ∃ g o, A = some ⟨g, o, none⟩ ∧ g < w.heap.size ∧ w.cell? ⟨g, o, none⟩ = some (.int .i64 (k0 : Nat)) := by
    rw [hk0] at hk
    rcases hk with e | ⟨g, o, e, hg, hc⟩
    · cases e
    · exact ⟨g, o, e, hg, hc 0 k0 rfl⟩
  obtain ⟨kl, hkl⟩ : ∃ n, x.kids.length = n := ⟨_, rfl⟩
  have hkp : 0 < kl := by rw [← hkl, hk0]; simp
  rw [hkl] at hv5
  have hb1 : Below w.heap.size w (w.alloc (.cells #[.int .i64 (k0 : Nat)] tInt)) := (Below.refl _ _).alloc (Nat.le_refl _) _
  have H := Lib.hid (And.intro (h.on hb1) (hb1.mono h.Ble))
  have HV := Lib.hid (mbv_any (h.on hb1) hx (ks := [k0]) (by intro k hk; simp at hk; rw [hk]; exact h0) (n := 1) rfl (by omega) (.inr ⟨w.heap.size, 0, rfl, by simp, fun j k hj => by
    have := (Blk.new w tInt #[.int .i64 (k0 : Nat)]).cell j
    rw [Nat.zero_add, this]
    cases j with
    | zero => simp at hj; rw [hj]; rfl
    | succ j => simp at hj⟩) (A := some ⟨w.heap.size, 0, none⟩) (c := 1))
  clear h hR e hv hk hk0 hkk hkl hb1
  go_enter Tryz.func130, Tryz.ntmps130
  go_wp2_with fail
  refine HV.out.mono ?_
  clear HV
  rintro e w3 ⟨⟨ha, rfl⟩ | ⟨ha, rfl⟩, rfl⟩
  · have HE := Lib.hid (show R (.returned (.tuple #[])) (w.alloc (.cells #[.int .i64 (k0 : Nat)] tInt)) by
      rw [← HR.out]
      exact .inl ⟨_, by rw [vals_ok ha]; rfl, rfl, S, Sx.refl S, H.out.1, H.out.2⟩)
    clear ha
    go_wp2_with fail
    go_end0
    exact HE.out
  · have HE := Lib.hid (show R (PncL 6 x.h.p) (w.alloc (.cells #[.int .i64 (k0 : Nat)] tInt)) by
      rw [← HR.out]
      exact .inr ⟨6, x.h.p, by rw [vals_er ha]; rfl, rfl, H.out.2⟩)
    clear ha
    go_wp2_with fail
    exact pnc_end rfl HE.out
set_option maxHeartbeats 2000000 in
set_option maxRecDepth 100000 in
theorem st17_any {X : CkX} {S : CkS} {σ : Cs} {w : World} {K : Kn} (h : CkV X S σ w) {i : Nat} {x : CN} (hx : X.ns[i]? = some x) (hw : NdW X K σ x) (ho : x.h.op = 17) (on : S.on = true) (hlb : (look S.lb x.h.s).isSome = decide (x.h.s ∈ K.lb)) :
    Calls Tryz.prog 130 #[ckp X, ndp X i] w (VisP X S (stmtM K x.h x.kids i σ) w) := by
  have hnl := h.nodeLt
  have hil := (List.getElem?_eq_some_iff.1 hx).1
  have hc0 := h.nodeCell hx 0 (by omega)
  simp only [cellT, List.getElem?_cons_succ, List.getElem?_cons_zero, Nat.add_zero] at hc0
  rw [ho] at hc0
  have e : stmtM K x.h x.kids i σ = (refuse (!decide (x.h.s ∈ K.lb)) 8 x.h.p).bind fun _ => .ok σ := by simp [stmtM, ho]
  rw [e]
  obtain ⟨R, hR⟩ : ∃ R : Ending → World → Prop, VisP X S ((refuse (!decide (x.h.s ∈ K.lb)) 8 x.h.p).bind fun _ => .ok σ) w = R := ⟨_, rfl⟩
  rw [hR]
  have HR := Lib.hid hR
  have HN := Lib.hid hw
  have c6 := h.c6
  rw [(h.lab on).2.2] at c6
  have hbl := h.chk.lt
  have hc1 := h.nodeCell hx 1 (by omega)
  have hc3 := h.nodeCell hx 3 (by omega)
  simp only [cellT, List.getElem?_cons_succ, List.getElem?_cons_zero] at hc1 hc3
  obtain ⟨bb, hbb⟩ : ∃ b, decide (x.h.s ∈ K.lb) = b := ⟨_, rfl⟩
  obtain ⟨n0, hn0⟩ : ∃ n, (look S.lb x.h.s).getD 0 = n := ⟨_, rfl⟩
  have hlk : (Instr.lookup tLm (.map (some S.lbB)) (.string (str x.h.s)) true).run Tryz.prog w.drew = .ok (.tuple #[.int .i64 n0, .bool bb]) w.drew := by
    have := (h.drew.lab on).2.1.get (x := x.h.s) (by unfold maxLen; have := hw.s; omega)
    rw [hlb, hbb, hn0] at this
    exact this
  rw [hbb] at HR
  have H := Lib.hid h
  clear h hR e hbb hn0 hlb
  go_enter Tryz.func130, Tryz.ntmps130
  go_upto_region 16 with (fail)
  go_region
  cases bb
  · have HE := Lib.hid (show R (PncL 8 x.h.p) w.drew by
      rw [← HR.out]
      exact .inr ⟨8, x.h.p, rfl, rfl, (Below.refl _ _).drew⟩)
    go_wp2_with fail
    refine (refuse_yes _ _ _).mono ?_
    rintro e w9 ⟨rfl, rfl⟩
    go_wp2_with fail
    exact pnc_end rfl HE.out
  · have HE := Lib.hid (show R (.returned (.tuple #[])) w.drew by
      rw [← HR.out]
      exact .inl ⟨_, rfl, rfl, S, Sx.refl S, H.out.drew, (Below.refl _ _).drew⟩)
    go_wp2_with fail
    refine (refuse_no _ _ _).mono ?_
    rintro e w9 ⟨rfl, rfl⟩
    go_wp2_with fail
    go_end0
    exact HE.out
set_option maxHeartbeats 2000000 in
set_option maxRecDepth 100000 in
theorem st19_any {X : CkX} {S : CkS} {σ : Cs} {w : World} {K : Kn} (h : CkV X S σ w) {i : Nat} {x : CN} (hx : X.ns[i]? = some x) (hw : NdW X K σ x) (ho : x.h.op = 19) (on : S.on = true) {f : Fn' × Value} (hf : X.fl[S.fi]? = some f) (hft : K.ft = f.1.ty) :
    Calls Tryz.prog 130 #[ckp X, ndp X i] w (VisP X S (stmtM K x.h x.kids i σ) w) := by
  have hnl := h.nodeLt
  have hil := (List.getElem?_eq_some_iff.1 hx).1
  have hc0 := h.nodeCell hx 0 (by omega)
  simp only [cellT, List.getElem?_cons_succ, List.getElem?_cons_zero, Nat.add_zero] at hc0
  rw [ho] at hc0
  have e : stmtM K x.h x.kids i σ = (refuse (decide (0 < x.kids.length) == decide (K.ft = 0)) 6 x.h.p).bind fun _ => (valsM x.h.p σ.tr x.kids).bind fun _ => .ok σ := by simp [stmtM, ho]
  rw [e]
  obtain ⟨R, hR⟩ : ∃ R : Ending → World → Prop, VisP X S ((refuse (decide (0 < x.kids.length) == decide (K.ft = 0)) 6 x.h.p).bind fun _ => (valsM x.h.p σ.tr x.kids).bind fun _ => .ok σ) w = R := ⟨_, rfl⟩
  rw [hR]
  have HR := Lib.hid hR
  have HN := Lib.hid hw
  obtain ⟨A, c, hv, hk⟩ := h.kids hx
  have hv5 := h.nodeCell hx 5 (by omega)
  have hc1 := h.nodeCell hx 1 (by omega)
  simp only [cellT, List.getElem?_cons_succ, List.getElem?_cons_zero] at hv5 hc1
  rw [hv] at hv5
  obtain ⟨fv, hfv, -⟩ := h.var on
  have hp1 := h.fnCell hf hfv 1 (by omega)
  simp only [fnC, List.getElem?_cons_succ, List.getElem?_cons_zero] at hp1
  rw [← hft] at hp1
  have c5 := h.c5
  rw [(h.fil on).2] at c5
  have hbl := h.chk.lt
  have hfl := h.fnLt
  obtain ⟨kl, hkl⟩ : ∃ n, x.kids.length = n := ⟨_, rfl⟩
  rw [hkl] at hv5 HR
  have HKL := Lib.hid hkl
  have HKK := Lib.hid (And.intro hv hw)
  have H := Lib.hid h
  obtain ⟨bb, hbb⟩ : ∃ b, (decide (0 < kl) == decide (K.ft = 0)) = b := ⟨_, rfl⟩
  have HBB := Lib.hid hbb
  rw [hbb] at HR
  have HS : Hid (∀ Wx, Below w.heap.size w Wx → Wx.cell? ⟨X.nB, i * 8 + 5, none⟩ = some (.slice A kl c) ∧ Wx.cell? ⟨X.b, 5, none⟩ = some (.pointer (some ⟨X.fB, S.fi * 6, none⟩)) ∧ Wx.cell? ⟨X.fB, S.fi * 6 + 1, none⟩ = some (.int .i64 K.ft) ∧ Wx.cell? ⟨X.nB, i * 8 + 1, none⟩ = some (.int .i64 x.h.p) ∧ X.nB < Wx.heap.size ∧ X.b < Wx.heap.size ∧ X.fB < Wx.heap.size) := Lib.hid fun Wx hW => by
    have hz := hW.size
    exact ⟨(hW.cell (p := ⟨X.nB, i * 8 + 5, none⟩) hnl).trans hv5, (hW.cell (p := ⟨X.b, 5, none⟩) hbl).trans c5, (hW.cell (p := ⟨X.fB, S.fi * 6 + 1, none⟩) hfl).trans hp1, (hW.cell (p := ⟨X.nB, i * 8 + 1, none⟩) hnl).trans hc1, by omega, by omega, by omega⟩
  have HRf : Hid (∀ W b, Below w.heap.size w W → Calls Tryz.prog 48 #[.bool b, .int .i64 6, .int .i64 x.h.p] W fun e w' => (b = true ∧ e = .panicked [{ v := .iface tFt (.agg #[.int .i64 6, .int .i64 x.h.p]), recovered := false }] ∨ b = false ∧ e = .returned (.tuple #[])) ∧ Below w.heap.size w w') := Lib.hid fun W b hW =>
    (refuse_or b 6 x.h.p W).mono fun e w' h => ⟨h.1, by rw [← h.2]; exact hW⟩
  have HE7 : Hid (∀ W, Below w.heap.size w W → bb = true → R (.panicked [{ v := .iface tFt (.agg #[.int .i64 6, .int .i64 x.h.p]), recovered := false }]) W) := Lib.hid fun W hW hne => by
    rw [← HR.out]
    exact .inr ⟨6, x.h.p, by rw [hne]; rfl, rfl, hW.mono h.Ble⟩
  have J : Below w.heap.size w w := Below.refl _ _
  clear h hR e hv hk hft hfv hkl hbb
  go_enter Tryz.func130, Tryz.ntmps130
  go_upto_region 19 with (fail)
  go_region_held2 (fun Wx => Wx.cell? ⟨X.nB, i * 8 + 5, none⟩ = some (.slice A kl c) ∧ Wx.cell? ⟨X.b, 5, none⟩ = some (.pointer (some ⟨X.fB, S.fi * 6, none⟩)) ∧ Wx.cell? ⟨X.fB, S.fi * 6 + 1, none⟩ = some (.int .i64 K.ft) ∧ Wx.cell? ⟨X.nB, i * 8 + 1, none⟩ = some (.int .i64 x.h.p) ∧ X.nB < Wx.heap.size ∧ X.b < Wx.heap.size ∧ X.fB < Wx.heap.size)
    (first | exact ⟨hv5, c5, hp1, hc1, hnl, hbl, hfl⟩ | exact HS.out _ J)
    (first
      | (go_at_call 48; (with_reducible refine Calls.mono (HRf.out _ _ (by first | exact J | exact J.drew)) ?_); rintro e v2 ⟨⟨hm, rfl⟩ | ⟨hm, rfl⟩, J⟩; (refine pnc_end rfl ?_; exact HE7.out _ J (ret_bb HBB.out hm)); have HMM := Lib.hid hm; clear hm))
  all_goals
    have hbf : bb = false := ret_bb HBB.out HMM.out
    have hC3 := H.out.on J
    obtain ⟨A', c', hv', hk'⟩ := hC3.kids hx
    rw [HKK.out.1] at hv'
    simp only [Value.slice.injEq, true_and] at hv'
    obtain ⟨rfl, rfl⟩ := hv'
    have hnl3 := hC3.nodeLt
    have HV := Lib.hid (mbv_any hC3 hx hw.ks (n := kl) HKL.out (by have := hw.kl; have := HKL.out; omega) hk' (A := A) (c := c))
    have HC3 := Lib.hid (And.intro hC3 (J.mono H.out.Ble))
    have HBF := Lib.hid hbf
    clear hC3 J hk' hbf
    go_wp2_with fail
    refine HV.out.mono ?_
    clear HV
    rintro e w3 ⟨⟨ha, rfl⟩ | ⟨ha, rfl⟩, rfl⟩
    · have HE := Lib.hid (show R (.returned (.tuple #[])) v2 by
        rw [← HR.out]
        exact .inl ⟨_, by rw [HBF.out, vals_ok ha]; rfl, rfl, S, Sx.refl S, HC3.out.1, HC3.out.2⟩)
      clear ha
      go_wp2_with fail
      go_end0
      exact HE.out
    · have HE := Lib.hid (show R (PncL 6 x.h.p) v2 by
        rw [← HR.out]
        exact .inr ⟨6, x.h.p, by rw [HBF.out, vals_er ha]; rfl, rfl, HC3.out.2⟩)
      clear ha
      go_wp2_with fail
      exact pnc_end rfl HE.out
end Go.Proofs.YtfaoiajhoifalaaGreatDoor
/-! Ckj2 -/
namespace Go.Proofs.YtfaoiajhoifalaaGreatDoor
open Go Go.RowKit Go.Maps
set_option linter.unusedVariables false
set_option linter.unusedSimpArgs false

theorem ge_of_dec {n : Nat} (h : decide ((64 : Int) ≤ (n : Int)) = true) : 64 ≤ n := by
  have := of_decide_eq_true h
  omega
theorem lt_of_dec {n : Nat} (h : decide ((64 : Int) ≤ (n : Int)) = false) : n < 64 := by
  have := of_decide_eq_false h
  omega
set_option maxHeartbeats 2000000 in
set_option maxRecDepth 100000 in
theorem st12_any {X : CkX} {S : CkS} {σ : Cs} {w : World} {K : Kn} (h : CkV X S σ w) {i : Nat} {x : CN} (hx : X.ns[i]? = some x) (hw : NdW X K σ x) (ho : x.h.op = 12) (on : S.on = true) {k : Nat} (hk1 : σ.sc.length = k + 1) (hl : (σ.sc.getLast?.getD []).length ≤ 2000000) (hvl : σ.vs.length ≤ 1000000) :
    Calls Tryz.prog 130 #[ckp X, ndp X i] w (VisP X S (stmtM K x.h x.kids i σ) w) := by
  have hnl := h.nodeLt
  have hil := (List.getElem?_eq_some_iff.1 hx).1
  have hc0 := h.nodeCell hx 0 (by omega)
  simp only [cellT, List.getElem?_cons_succ, List.getElem?_cons_zero, Nat.add_zero] at hc0
  rw [ho] at hc0
  have e : stmtM K x.h x.kids i σ = (valsM x.h.p σ.tr x.kids).bind fun _ => (refuse (look (σ.sc.getLast?.getD []) x.h.s).isSome 5 x.h.p).bind fun _ => (refuse (decide (64 ≤ σ.vs.length)) 9 x.h.p).bind fun _ => .ok { (setRf σ i σ.vs.length) with sc := decl σ.sc x.h.s ⟨1, σ.vs.length, x.h.to⟩, vs := σ.vs ++ [x.h.to] } := by simp [stmtM, ho]
  rw [e]
  obtain ⟨R, hR⟩ : ∃ R : Ending → World → Prop, VisP X S ((valsM x.h.p σ.tr x.kids).bind fun _ => (refuse (look (σ.sc.getLast?.getD []) x.h.s).isSome 5 x.h.p).bind fun _ => (refuse (decide (64 ≤ σ.vs.length)) 9 x.h.p).bind fun _ => .ok { (setRf σ i σ.vs.length) with sc := decl σ.sc x.h.s ⟨1, σ.vs.length, x.h.to⟩, vs := σ.vs ++ [x.h.to] }) w = R := ⟨_, rfl⟩
  rw [hR]
  have HR := Lib.hid hR
  have HN := Lib.hid hw
  obtain ⟨A, c, hv, hk⟩ := h.kids hx
  have hv5 := h.nodeCell hx 5 (by omega)
  simp only [cellT, List.getElem?_cons_succ, List.getElem?_cons_zero] at hv5
  rw [hv] at hv5
  have HV := Lib.hid (mbv_any h hx hw.ks (n := x.kids.length) rfl hw.kl hk (A := A) (c := c))
  have H := Lib.hid h
  have hsl : x.h.s.length ≤ maxLen := by unfold maxLen; have := hw.s; omega
  have hk2 : k ≤ 1000000 := by have := hw.sc; omega
  obtain ⟨A3, n3, c3, hv3⟩ : ∃ A n c, S.scv = .slice A n c := by
    obtain ⟨A3, c3, e⟩ := own_ex h.sco
    exact ⟨A3, _, c3, e⟩
  have hcs := h.c3
  rw [hv3] at hcs
  have hbl := h.chk.lt
  have hc1 := h.nodeCell hx 1 (by omega)
  have hc3 := h.nodeCell hx 3 (by omega)
  simp only [cellT, List.getElem?_cons_succ, List.getElem?_cons_zero] at hc1 hc3
  obtain ⟨bh, hbh⟩ : ∃ b, (look (σ.sc.getLast?.getD []) x.h.s).isSome = b := ⟨_, rfl⟩
  have HHas : Hid (∀ W, Below w.heap.size w W → Calls Tryz.prog 49 #[.slice A3 n3 c3, .string (str x.h.s)] W fun e w' => e = .returned (.bool bh) ∧ Below w.heap.size w w') := Lib.hid fun W hW => by
    have hsv := (h.on hW).scs
    rw [hv3] at hsv
    rw [← hbh]
    exact (has_any hsv hk1 hk2 hsl).mono fun e w' h => ⟨h.1, hW.trans (h.2.mono hW.size)⟩
  have HS : Hid (∀ Wx, Below w.heap.size w Wx → Wx.cell? ⟨X.b, 3, none⟩ = some (.slice A3 n3 c3) ∧ Wx.cell? ⟨X.nB, i * 8 + 3, none⟩ = some (.string (str x.h.s)) ∧ Wx.cell? ⟨X.nB, i * 8 + 1, none⟩ = some (.int .i64 x.h.p) ∧ X.nB < Wx.heap.size ∧ X.b < Wx.heap.size) := Lib.hid fun Wx hW => by
    have hz := hW.size
    exact ⟨(hW.cell (p := ⟨X.b, 3, none⟩) hbl).trans hcs, (hW.cell (p := ⟨X.nB, i * 8 + 3, none⟩) hnl).trans hc3, (hW.cell (p := ⟨X.nB, i * 8 + 1, none⟩) hnl).trans hc1, by omega, by omega⟩
  have HRf : Hid (∀ W b, Below w.heap.size w W → Calls Tryz.prog 48 #[.bool b, .int .i64 5, .int .i64 x.h.p] W fun e w' => (b = true ∧ e = .panicked [{ v := .iface tFt (.agg #[.int .i64 5, .int .i64 x.h.p]), recovered := false }] ∨ b = false ∧ e = .returned (.tuple #[])) ∧ Below w.heap.size w w') := Lib.hid fun W b hW =>
    (refuse_or b 5 x.h.p W).mono fun e w' h => ⟨h.1, by rw [← h.2]; exact hW⟩
  rw [hbh] at HR
  have HE5 : Hid ((x.kids.all fun k => isVal (tyAt σ.tr k)) = true → ∀ W, Below w.heap.size w W → bh = true → R (.panicked [{ v := .iface tFt (.agg #[.int .i64 5, .int .i64 x.h.p]), recovered := false }]) W) := Lib.hid fun ha W hW hne => by
    rw [← HR.out]
    exact .inr ⟨5, x.h.p, by rw [vals_ok ha, hne]; rfl, rfl, hW.mono h.Ble⟩
  have J : Below w.heap.size w w := Below.refl _ _
  have HK := Lib.hid (And.intro hk1 (And.intro hl hvl))
  clear h hR e hv hk hbh hv3 hl hk1
  go_enter Tryz.func130, Tryz.ntmps130
  go_wp2_with fail
  refine HV.out.mono ?_
  clear HV
  rintro e w3 ⟨⟨ha, rfl⟩ | ⟨ha, rfl⟩, rfl⟩
  · have HA := Lib.hid ha
    clear ha
    go_upto_region 3 with (fail)
    go_cut [] (fun wx => bh = false ∧ Below w.heap.size w wx)
    case first =>
      go_region_held2 (fun Wx => Wx.cell? ⟨X.b, 3, none⟩ = some (.slice A3 n3 c3) ∧ Wx.cell? ⟨X.nB, i * 8 + 3, none⟩ = some (.string (str x.h.s)) ∧ Wx.cell? ⟨X.nB, i * 8 + 1, none⟩ = some (.int .i64 x.h.p) ∧ X.nB < Wx.heap.size ∧ X.b < Wx.heap.size)
        (first | exact ⟨hcs, hc3, hc1, hnl, hbl⟩ | exact HS.out _ J)
        (first
          | (go_at_call 49; (with_reducible refine Calls.mono (HHas.out _ (by first | exact J | exact J.drew)) ?_); rintro e v1 ⟨rfl, J⟩)
          | (go_at_call 48; (with_reducible refine Calls.mono (HRf.out _ _ (by first | exact J | exact J.drew)) ?_); rintro e v2 ⟨⟨hm, rfl⟩ | ⟨hm, rfl⟩, J⟩; (refine pnc_end rfl ?_; exact HE5.out HA.out _ J hm); have HMM := Lib.hid hm; clear hm))
      all_goals
        go_wp2_with fail
        go_meet
        exact ⟨HMM.out, J⟩
    case rest =>
      obtain ⟨hbf, hw3⟩ := hcut
      have hC3 := H.out.on hw3
      obtain ⟨VV, hVV, hVr⟩ := hC3.var on
      obtain ⟨VA, vc, rfl⟩ := own_ex hVr
      obtain ⟨f, hf⟩ : ∃ x, X.fl[S.fi]? = some x := ⟨_, List.getElem?_eq_getElem (hC3.fil on).1⟩
      have v5 := hC3.fnCell hf hVV 5 (by omega)
      simp only [fnC, List.getElem?_cons_succ, List.getElem?_cons_zero] at v5
      have c5 := hC3.c5
      rw [(hC3.fil on).2] at c5
      have hfl := hC3.fnLt
      have hbl3 := hC3.chk.lt
      have hnl3 := hC3.nodeLt
      have hp3 := hC3.nodeCell hx 1 (by omega)
      simp only [cellT, List.getElem?_cons_succ, List.getElem?_cons_zero] at hp3
      obtain ⟨vl, hvl2⟩ : ∃ n, σ.vs.length = n := ⟨_, rfl⟩
      have HVL := Lib.hid hvl2
      rw [hvl2] at v5
      have HS4 : Hid (∀ Wx, Below wc.heap.size wc Wx → Wx.cell? ⟨X.b, 5, none⟩ = some (.pointer (some ⟨X.fB, S.fi * 6, none⟩)) ∧ Wx.cell? ⟨X.fB, S.fi * 6 + 5, none⟩ = some (.slice VA vl vc) ∧ Wx.cell? ⟨X.nB, i * 8 + 1, none⟩ = some (.int .i64 x.h.p) ∧ X.nB < Wx.heap.size ∧ X.b < Wx.heap.size ∧ X.fB < Wx.heap.size) := Lib.hid fun Wx hW => by
        have hz := hW.size
        exact ⟨(hW.cell (p := ⟨X.b, 5, none⟩) hbl3).trans c5, (hW.cell (p := ⟨X.fB, S.fi * 6 + 5, none⟩) hfl).trans v5, (hW.cell (p := ⟨X.nB, i * 8 + 1, none⟩) hnl3).trans hp3, by omega, by omega, by omega⟩
      have HRf9 : Hid (∀ W b, Below wc.heap.size wc W → Calls Tryz.prog 48 #[.bool b, .int .i64 9, .int .i64 x.h.p] W fun e w' => (b = true ∧ e = .panicked [{ v := .iface tFt (.agg #[.int .i64 9, .int .i64 x.h.p]), recovered := false }] ∨ b = false ∧ e = .returned (.tuple #[])) ∧ Below wc.heap.size wc w') := Lib.hid fun W b hW =>
        (refuse_or b 9 x.h.p W).mono fun e w' h => ⟨h.1, by rw [← h.2]; exact hW⟩
      have HE9 : Hid (∀ W, Below wc.heap.size wc W → 64 ≤ vl → R (.panicked [{ v := .iface tFt (.agg #[.int .i64 9, .int .i64 x.h.p]), recovered := false }]) W) := Lib.hid fun W hW hne => by
        rw [← HR.out]
        exact .inr ⟨9, x.h.p, by rw [vals_ok HA.out, hbf, HVL.out]; simp [refuse, hne], rfl, (hw3.trans (hW.mono hw3.size)).mono H.out.Ble⟩
      have J : Below wc.heap.size wc wc := Below.refl _ _
      have HC3 := Lib.hid (And.intro hC3 (And.intro (hw3.mono H.out.Ble) hbf))
      clear hvl2 hVr hVV hf hC3 HS HRf HE5 HHas hcs hc1 hc3 hnl hw3 hbf
      go_upto_region 4 with (fail)
      go_cut [] (fun wx => vl < 64 ∧ Below wc.heap.size wc wx)
      case first =>
        go_region_held2 (fun Wx => Wx.cell? ⟨X.b, 5, none⟩ = some (.pointer (some ⟨X.fB, S.fi * 6, none⟩)) ∧ Wx.cell? ⟨X.fB, S.fi * 6 + 5, none⟩ = some (.slice VA vl vc) ∧ Wx.cell? ⟨X.nB, i * 8 + 1, none⟩ = some (.int .i64 x.h.p) ∧ X.nB < Wx.heap.size ∧ X.b < Wx.heap.size ∧ X.fB < Wx.heap.size)
          (first | exact ⟨c5, v5, hp3, hnl3, hbl3, hfl⟩ | exact HS4.out _ J)
          (first
            | (go_at_call 48; (with_reducible refine Calls.mono (HRf9.out _ _ (by first | exact J | exact J.drew)) ?_); rintro e v2 ⟨⟨hm, rfl⟩ | ⟨hm, rfl⟩, J⟩; (refine pnc_end rfl ?_; exact HE9.out _ J (ge_of_dec hm)); have HMM := Lib.hid hm; clear hm))
        all_goals
          go_wp2_with fail
          go_meet
          exact ⟨lt_of_dec HMM.out, J⟩
      case rest =>
        obtain ⟨h64, hw4⟩ := hcut
        have hC4 := HC3.out.1.on hw4
        have hB4 := HC3.out.2.1.trans (hw4.mono HC3.out.1.Ble)
        have q3 := hC4.nodeCell hx 3 (by omega)
        have q4 := hC4.nodeCell hx 4 (by omega)
        simp only [cellT, List.getElem?_cons_succ, List.getElem?_cons_zero] at q3 q4
        have ql := hC4.nodeLt
        have HAV := Lib.hid (addVar_any hC4 on HK.out.1 hk2 HK.out.2.1 HK.out.2.2 hsl x.h.to)
        have HAD : Hid (∀ W, W = wc ∨ W = wc.drew → Calls Tryz.prog 56 #[ckp X, .string (str x.h.s), .int .i64 x.h.to] W fun e w' => e = .returned (.int .i64 (σ.vs.length : Nat)) ∧ ∃ v', CkV X { S with vls := S.vls.set S.fi v' } { σ with sc := decl σ.sc x.h.s ⟨1, σ.vs.length, x.h.to⟩, vs := σ.vs ++ [x.h.to] } w' ∧ Below X.B wc w') := Lib.hid fun W hW => by
          rcases hW with rfl | rfl
          · exact HAV.out
          · exact (addVar_any hC4.drew on HK.out.1 hk2 HK.out.2.1 HK.out.2.2 hsl x.h.to).mono fun e w' ⟨h1, v', h2, h3⟩ => ⟨h1, v', h2, (Below.refl _ _).drew.trans h3⟩
        have HC4 := Lib.hid (And.intro hC4 (And.intro hB4 h64))
        clear HAV hC4 hB4 hw4 hp3 v5 c5
        go_upto_region 5 with (fail)
        go_region_held2 (fun Wx => Wx.cell? ⟨X.nB, i * 8 + 3, none⟩ = some (.string (str x.h.s)) ∧ Wx.cell? ⟨X.nB, i * 8 + 4, none⟩ = some (.int .i64 x.h.to) ∧ X.nB < Wx.heap.size)
          (first | exact ⟨q3, q4, ql⟩ | exact HX.out | exact HX2.out)
          (first
            | (go_at_call 56; (with_reducible refine Calls.mono (HAD.out _ (by first | exact .inl rfl | exact .inr rfl)) ?_); rintro e w5 ⟨rfl, v', hC5, hb5⟩; have hf7 := hC5.nod.frozenAt (i * 8 + 7); have hc7 := hC5.nodeCell hx 7 (by omega); simp only [cellT, List.getElem?_cons_succ, List.getElem?_cons_zero] at hc7; have hl5 := hC5.nodeLt; have HX := Lib.hid (And.intro (show w5.cell? ⟨X.nB, i * 8 + 3, none⟩ = some (.string (str x.h.s)) from hC5.nodeCell hx 3 (by omega)) (And.intro (show w5.cell? ⟨X.nB, i * 8 + 4, none⟩ = some (.int .i64 x.h.to) from hC5.nodeCell hx 4 (by omega)) hl5)); have hC6 := hC5.rf hil (σ.vs.length : Nat); have HX2 := Lib.hid (And.intro (show (w5.setCell ⟨X.nB, i * 8 + 7, none⟩ (.int .i64 (σ.vs.length : Nat))).cell? ⟨X.nB, i * 8 + 3, none⟩ = some (.string (str x.h.s)) from hC6.nodeCell hx 3 (by omega)) (And.intro (show (w5.setCell ⟨X.nB, i * 8 + 7, none⟩ (.int .i64 (σ.vs.length : Nat))).cell? ⟨X.nB, i * 8 + 4, none⟩ = some (.int .i64 x.h.to) from hC6.nodeCell hx 4 (by omega)) hC6.nodeLt)); have HC5 := Lib.hid (And.intro hC6 hb5); clear hC5 hb5 hC6))
        all_goals
          have HE := Lib.hid (show R (.returned (.tuple #[])) (w5.setCell ⟨X.nB, i * 8 + 7, none⟩ (.int .i64 (σ.vs.length : Nat))) by
            rw [← HR.out]
            have h64' : ¬ 64 ≤ σ.vs.length := by have := HVL.out; have := HC4.out.2.2; omega
            refine .inl ⟨_, by rw [vals_ok HA.out, HC3.out.2.2]; simp only [Ck.bind_ok, refuse, decide_eq_false h64']; rfl, rfl, _, ⟨_, _, rfl, fun j hj => List.getElem?_set_ne (fun e => hj e.symm)⟩, HC5.out.1, ?_⟩
            exact (HC4.out.2.1.trans HC5.out.2).setCell (p := ⟨X.nB, i * 8 + 7, none⟩) (show X.B ≤ X.nB from H.out.hB.2.1) _)
          go_wp2_with fail
          go_end0
          exact HE.out
  · have HE := Lib.hid (show R (PncL 6 x.h.p) w by
      rw [← HR.out]
      exact .inr ⟨6, x.h.p, by rw [vals_er ha]; rfl, rfl, Below.refl _ _⟩)
    clear ha
    go_wp2_with fail
    exact pnc_end rfl HE.out
end Go.Proofs.YtfaoiajhoifalaaGreatDoor
/-! Ckk -/
namespace Go.Proofs.YtfaoiajhoifalaaGreatDoor
open Go Go.RowKit Go.Maps
set_option linter.unusedVariables false
set_option linter.unusedSimpArgs false

set_option maxHeartbeats 2000000 in
set_option maxRecDepth 100000 in
theorem exo_any {X : CkX} {S : CkS} {σ : Cs} {w : World} {K : Kn} (h : CkV X S σ w) {i : Nat} {x : CN} (hx : X.ns[i]? = some x) (h2 : x.h.op ≠ 2) (h3 : x.h.op ≠ 3) (h4 : x.h.op ≠ 4) (h5 : x.h.op ≠ 5) (h6 : x.h.op ≠ 6) (h7 : x.h.op ≠ 7) (h8 : x.h.op ≠ 8) :
    Calls Tryz.prog 129 #[ckp X, ndp X i] w (VisP X S (exprM K x.h x.kids i σ) w) := by
  have hnl := h.nodeLt
  have hc0 := h.nodeCell hx 0 (by omega)
  simp only [cellT, List.getElem?_cons_succ, List.getElem?_cons_zero, Nat.add_zero] at hc0
  have e : exprM K x.h x.kids i σ = .ok σ := by simp [exprM, h2, h3, h4, h5, h6, h7, h8]
  rw [e]
  have HE : Hid (VisP X S (.ok σ) w (.returned (.tuple #[])) w) := Lib.hid (.inl ⟨σ, rfl, rfl, S, Sx.refl S, h, Below.refl _ _⟩)
  obtain ⟨R, hR⟩ : ∃ R : Ending → World → Prop, VisP X S (.ok σ) w = R := ⟨_, rfl⟩
  rw [hR] at HE ⊢
  generalize x.h.op = op at *
  have b2 : (op == 2) = false := by simp [h2]
  have b3 : (op == 3) = false := by simp [h3]
  have b4 : (op == 4) = false := by simp [h4]
  have b5 : (op == 5) = false := by simp [h5]
  have b6 : (op == 6) = false := by simp [h6]
  have b7 : (op == 7) = false := by simp [h7]
  have b8 : (op == 8) = false := by simp [h8]
  clear h hR e h2 h3 h4 h5 h6 h7 h8
  go_enter Tryz.func129, Tryz.ntmps129
  go_wp2_with fail
  go_end0
  exact HE.out
set_option maxHeartbeats 2000000 in
set_option maxRecDepth 100000 in
theorem sto_any {X : CkX} {S : CkS} {σ : Cs} {w : World} {K : Kn} (h : CkV X S σ w) {i : Nat} {x : CN} (hx : X.ns[i]? = some x) (h2 : x.h.op ≠ 12) (h3 : x.h.op ≠ 13) (h4 : x.h.op ≠ 14) (h5 : x.h.op ≠ 15) (h6 : x.h.op ≠ 16) (h7 : x.h.op ≠ 17) (h8 : x.h.op ≠ 19) (h9 : x.h.op ≠ 20) :
    Calls Tryz.prog 130 #[ckp X, ndp X i] w (VisP X S (stmtM K x.h x.kids i σ) w) := by
  have hnl := h.nodeLt
  have hc0 := h.nodeCell hx 0 (by omega)
  simp only [cellT, List.getElem?_cons_succ, List.getElem?_cons_zero, Nat.add_zero] at hc0
  have e : stmtM K x.h x.kids i σ = .ok σ := by simp [stmtM, h2, h3, h4, h5, h6, h7, h8, h9]
  rw [e]
  have HE : Hid (VisP X S (.ok σ) w (.returned (.tuple #[])) w) := Lib.hid (.inl ⟨σ, rfl, rfl, S, Sx.refl S, h, Below.refl _ _⟩)
  obtain ⟨R, hR⟩ : ∃ R : Ending → World → Prop, VisP X S (.ok σ) w = R := ⟨_, rfl⟩
  rw [hR] at HE ⊢
  generalize x.h.op = op at *
  have b2 : (op == 12) = false := by simp [h2]
  have b3 : (op == 13) = false := by simp [h3]
  have b4 : (op == 14) = false := by simp [h4]
  have b5 : (op == 15) = false := by simp [h5]
  have b6 : (op == 16) = false := by simp [h6]
  have b7 : (op == 17) = false := by simp [h7]
  have b8 : (op == 19) = false := by simp [h8]
  have b9 : (op == 20) = false := by simp [h9]
  clear h hR e h2 h3 h4 h5 h6 h7 h8 h9
  go_enter Tryz.func130, Tryz.ntmps130
  go_wp2_with fail
  go_end0
  exact HE.out
/-- How many kids a node must have, for the rules. -/
structure ArW (h : Hd) (ks : List Nat) : Prop where
  one : h.op = 4 → ∃ k, ks = [k]
  two : h.op = 5 → ∃ k l, ks = [k, l]
  some_ : h.op = 15 ∨ h.op = 16 → ∃ k l, ks = k :: l
/-- What is known of the function whose body it is. -/
structure KnW (X : CkX) (S : CkS) (K : Kn) : Prop where
  on : S.on = true
  ft : ∃ f, X.fl[S.fi]? = some f ∧ K.ft = f.1.ty
  lb : ∀ s, (look S.lb s).isSome = decide (s ∈ K.lb)
  np : K.np = X.fl.map fun f => f.1.ps.length
theorem KnW.sx {X : CkX} {S S' : CkS} {K : Kn} (h : KnW X S K) (hs : Sx S S') : KnW X S' K := by
  obtain ⟨v, s, rfl, _⟩ := hs
  exact ⟨h.on, h.ft, h.lb, h.np⟩
theorem expr_all {X : CkX} {S : CkS} {σ : Cs} {w : World} {K : Kn} (h : CkV X S σ w) {i : Nat} {x : CN} (hx : X.ns[i]? = some x) (hw : NdW X K σ x) (ha : ArW x.h x.kids) :
    Calls Tryz.prog 129 #[ckp X, ndp X i] w (VisP X S (exprM K x.h x.kids i σ) w) := by
  by_cases h2 : x.h.op = 2
  · exact ex2_any h hx hw h2
  by_cases h3 : x.h.op = 3
  · exact ex3_any h hx hw h3
  by_cases h4 : x.h.op = 4
  · obtain ⟨k, hk⟩ := ha.one h4
    exact ex4_any h hx hw h4 hk
  by_cases h5 : x.h.op = 5
  · obtain ⟨k, l, hk⟩ := ha.two h5
    exact ex5_any h hx hw h5 hk
  by_cases h6 : x.h.op = 6
  · exact ex6_any h hx hw h6
  by_cases h7 : x.h.op = 7
  · exact ex7_any h hx hw h7
  by_cases h8 : x.h.op = 8
  · exact ex8_any h hx hw h8
  exact exo_any h hx h2 h3 h4 h5 h6 h7 h8
/-- What is kept of the scopes while bodies are visited. -/
structure WfS (X : CkX) (σ : Cs) : Prop where
  one : 1 ≤ σ.sc.length
  vs : σ.vs.length ≤ 64
  ln : ∀ s ∈ σ.sc, s.length ≤ 1000000 + σ.vs.length
  fn : ∀ s ∈ σ.sc, ∀ p ∈ s, p.2.so = 4 → ∃ j : Nat, p.2.rf = j ∧ j < X.fl.length
theorem look_mem {α : Type} {l : List (Nm' × α)} {x : Nm'} {m : α} (h : look l x = some m) : ∃ p ∈ l, p.2 = m := by
  unfold look at h
  cases hf : l.find? fun y => decide (y.1 = x) with
  | none => rw [hf] at h; cases h
  | some p =>
    rw [hf] at h
    exact ⟨p, List.mem_of_find?_eq_some hf, Option.some.inj h⟩
theorem lookS_mem {l : List Scp} {x : Nm'} {m : Mg} (h : lookS l x = some m) : ∃ s ∈ l, ∃ p ∈ s, p.2 = m := by
  unfold lookS at h
  obtain ⟨s, hs, hl⟩ := List.exists_of_findSome?_eq_some h
  exact ⟨s, by simpa using hs, look_mem hl⟩
theorem WfS.last {X : CkX} {σ : Cs} (h : WfS X σ) : (σ.sc.getLast?.getD []).length ≤ 2000000 := by
  cases hl : σ.sc.getLast? with
  | none => simp
  | some s =>
    have := h.ln s (List.mem_of_getLast? hl)
    have := h.vs
    simp only [Option.getD_some]
    omega
theorem stmt_all {X : CkX} {S : CkS} {σ : Cs} {w : World} {K : Kn} (h : CkV X S σ w) {i : Nat} {x : CN} (hx : X.ns[i]? = some x) (hw : NdW X K σ x) (ha : ArW x.h x.kids) (hk : KnW X S K) (hs : WfS X σ) :
    Calls Tryz.prog 130 #[ckp X, ndp X i] w (VisP X S (stmtM K x.h x.kids i σ) w) := by
  by_cases h2 : x.h.op = 12
  · exact st12_any h hx hw h2 hk.on (k := σ.sc.length - 1) (by have := hs.one; omega) hs.last (by have := hs.vs; omega)
  by_cases h3 : x.h.op = 13
  · exact st13_any h hx hw h3
  by_cases h4 : x.h.op = 14
  · exact st14_any h hx hw h4
  by_cases h5 : x.h.op = 15
  · obtain ⟨k, l, hkl⟩ := ha.some_ (.inl h5)
    exact st15_any h hx hw h5 hkl
  by_cases h6 : x.h.op = 16
  · obtain ⟨k, l, hkl⟩ := ha.some_ (.inr h6)
    exact st16_any h hx hw h6 hkl
  by_cases h7 : x.h.op = 17
  · exact st17_any h hx hw h7 hk.on (hk.lb _)
  by_cases h8 : x.h.op = 19
  · obtain ⟨f, hf, hft⟩ := hk.ft
    exact st19_any h hx hw h8 hk.on hf hft
  by_cases h9 : x.h.op = 20
  · exact st20_any h hx hw h9
  exact sto_any h hx h2 h3 h4 h5 h6 h7 h8 h9
/-! what the rules keep -/
theorem bind_ok_iff {α β : Type} {r : Ck α} {f : α → Ck β} {b : β} (h : r.bind f = .ok b) : ∃ a, r = .ok a ∧ f a = .ok b := by
  cases r with
  | ok a => exact ⟨a, rfl, h⟩
  | er n p => cases h
theorem refuse_ok_iff {b : Bool} {n p : Int} {u : Unit} (h : refuse b n p = .ok u) : b = false := by
  cases b
  · rfl
  · cases h
/-- Only Types and Refs have changed. -/
def OnlyT (σ τ : Cs) : Prop := τ.sc = σ.sc ∧ τ.vs = σ.vs
theorem onlyT_ty (σ : Cs) (i : Nat) (t : Int) : OnlyT σ (setTy σ i t) := ⟨rfl, rfl⟩
theorem onlyT_tr {σ τ : Cs} (h : OnlyT σ τ) {X : CkX} (hw : WfS X σ) : WfS X τ ∧ τ.sc.length = σ.sc.length := by
  obtain ⟨h1, h2⟩ := h
  exact ⟨⟨by rw [h1]; exact hw.one, by rw [h2]; exact hw.vs, by rw [h1, h2]; exact hw.ln, by rw [h1]; exact hw.fn⟩, by rw [h1]⟩
theorem expr_only {K : Kn} {h : Hd} {ks : List Nat} {i : Nat} {σ τ : Cs} (e : exprM K h ks i σ = .ok τ) : OnlyT σ τ := by
  unfold exprM at e
  split at e
  · obtain ⟨m, -, e⟩ := bind_ok_iff e; cases e; exact ⟨rfl, rfl⟩
  split at e
  · obtain ⟨m, -, e⟩ := bind_ok_iff e; obtain ⟨_, -, e⟩ := bind_ok_iff e; cases e; exact ⟨rfl, rfl⟩
  split at e
  · obtain ⟨m, -, e⟩ := bind_ok_iff e; cases e; exact ⟨rfl, rfl⟩
  split at e
  · obtain ⟨m, -, e⟩ := bind_ok_iff e; cases e; exact ⟨rfl, rfl⟩
  split at e
  · obtain ⟨m, -, e⟩ := bind_ok_iff e; cases e; exact ⟨rfl, rfl⟩
  split at e
  · obtain ⟨m, -, e⟩ := bind_ok_iff e; obtain ⟨_, -, e⟩ := bind_ok_iff e; obtain ⟨_, -, e⟩ := bind_ok_iff e; cases e; exact ⟨rfl, rfl⟩
  split at e
  · cases e; exact ⟨rfl, rfl⟩
  · cases e; exact ⟨rfl, rfl⟩
theorem rule_wf {X : CkX} {K : Kn} {h : Hd} {ks : List Nat} {i : Nat} {σ τ : Cs} (e : ruleM K h ks i σ = .ok τ) (hw : WfS X σ) : WfS X τ ∧ τ.sc.length = σ.sc.length := by
  unfold ruleM at e
  split at e
  · exact onlyT_tr (expr_only e) hw
  unfold stmtM at e
  split at e
  · obtain ⟨_, -, e⟩ := bind_ok_iff e
    obtain ⟨_, -, e⟩ := bind_ok_iff e
    obtain ⟨_, h64, e⟩ := bind_ok_iff e
    have h64 := refuse_ok_iff h64
    simp only [decide_eq_false_iff_not] at h64
    cases e
    have hone := hw.one
    have hk : σ.sc.length = (σ.sc.length - 1) + 1 := by omega
    have hd := decl_set hk h.s ⟨1, σ.vs.length, h.to⟩
    refine ⟨⟨?_, ?_, ?_, ?_⟩, ?_⟩
    · simp only [hd, List.length_set]; exact hone
    · simp only [List.length_append, List.length_cons, List.length_nil]; omega
    · intro s hs
      simp only [hd] at hs
      simp only [List.length_append, List.length_cons, List.length_nil]
      rcases List.mem_or_eq_of_mem_set hs with h1 | rfl
      · have := hw.ln s h1; omega
      · have := hw.ln _ (List.getElem_mem (show σ.sc.length - 1 < σ.sc.length by omega))
        simp only [List.length_cons]
        omega
    · intro s hs p hp h4
      simp only [hd] at hs
      rcases List.mem_or_eq_of_mem_set hs with h1 | rfl
      · exact hw.fn s h1 p hp h4
      · rcases List.mem_cons.1 hp with rfl | hp
        · simp at h4
        · exact hw.fn _ (List.getElem_mem (show σ.sc.length - 1 < σ.sc.length by omega)) p hp h4
    · simp only [hd, List.length_set]
  split at e
  · obtain ⟨m, -, e⟩ := bind_ok_iff e; obtain ⟨_, -, e⟩ := bind_ok_iff e; cases e; refine onlyT_tr (σ := σ) ?_ hw; exact ⟨rfl, rfl⟩
  split at e
  · obtain ⟨m, -, e⟩ := bind_ok_iff e; obtain ⟨_, -, e⟩ := bind_ok_iff e; cases e; refine onlyT_tr (σ := σ) ?_ hw; exact ⟨rfl, rfl⟩
  split at e
  · obtain ⟨m, -, e⟩ := bind_ok_iff e; cases e; refine onlyT_tr (σ := σ) ?_ hw; exact ⟨rfl, rfl⟩
  split at e
  · obtain ⟨m, -, e⟩ := bind_ok_iff e; cases e; refine onlyT_tr (σ := σ) ?_ hw; exact ⟨rfl, rfl⟩
  split at e
  · obtain ⟨m, -, e⟩ := bind_ok_iff e; obtain ⟨_, -, e⟩ := bind_ok_iff e; cases e; refine onlyT_tr (σ := σ) ?_ hw; exact ⟨rfl, rfl⟩
  split at e
  · obtain ⟨m, -, e⟩ := bind_ok_iff e; cases e; refine onlyT_tr (σ := σ) ?_ hw; exact ⟨rfl, rfl⟩
  · cases e; refine onlyT_tr (σ := σ) ?_ hw; exact ⟨rfl, rfl⟩
end Go.Proofs.YtfaoiajhoifalaaGreatDoor
/-! Ckl -/
namespace Go.Proofs.YtfaoiajhoifalaaGreatDoor
open Go Go.RowKit Go.Maps
set_option linter.unusedVariables false
set_option linter.unusedSimpArgs false

/-- What a visit answers, and keeps. -/
def VisQ (X : CkX) (S : CkS) (n : Nat) (r : Ck Cs) (w : World) (e : Ending) (w' : World) : Prop :=
  (∃ τ, r = .ok τ ∧ e = .returned (.tuple #[]) ∧ (WfS X τ ∧ τ.sc.length = n) ∧ ∃ S', Sx S S' ∧ CkV X S' τ w' ∧ Below X.B w w') ∨ (∃ no p, r = .er no p ∧ e = .panicked [{ v := .iface tFt (.agg #[.int .i64 no, .int .i64 p]), recovered := false }] ∧ Below X.B w w')
/-- The trees that can be visited: names are short, nodes have the kids that they must have. -/
def TrW : Fo → Prop
  | .nil => True
  | .cons h k r => (h.s.length ≤ 1000000 ∧ (h.op = 4 → k.len = 1) ∧ (h.op = 5 → k.len = 2) ∧ (h.op = 15 ∨ h.op = 16 → 1 ≤ k.len)) ∧ TrW k ∧ TrW r
theorem roots_lt (F : Fo) : ∀ (c r : Nat), r ∈ F.roots c → r < c + F.size := by
  induction F with
  | nil => intro c r h; simp [Fo.roots] at h
  | cons h k r _ ih =>
    intro c x hx
    simp only [Fo.roots, List.mem_cons] at hx
    simp only [Fo.size]
    rcases hx with rfl | hx
    · omega
    · have := ih _ _ hx; omega
theorem len_roots (F : Fo) (c : Nat) : (F.roots c).length = F.len := Fo.roots_length F c
theorem len_size (F : Fo) : F.len ≤ F.size := by
  induction F with
  | nil => exact Nat.le_refl _
  | cons h k r _ ih => simp only [Fo.len, Fo.size]; omega
/-- What a visit of trees from place c on asks. -/
structure Vq (X : CkX) (K : Kn) (F : Fo) (c : Nat) (σ : Cs) (S : CkS) (w : World) (d : Nat) : Prop where
  v : CkV X S σ w
  kn : KnW X S K
  wf : WfS X σ
  hld : Hld (X.ns.map CN.nd) F c
  tr : TrW F
  sz : σ.sc.length + F.size ≤ 1000000
  dp : d + F.size ≤ 60000
def VTree (X : CkX) (K : Kn) (h : Hd) (k : Fo) : Prop :=
  ∀ (c : Nat) (σ : Cs) (S : CkS) (w : World) (d : Nat), Vq X K (.cons h k .nil) c σ S w d → Calls Tryz.prog 97 #[ckp X, .int .i64 ((c + k.size : Nat) : Int), .int .i64 (d : Int)] w (VisQ X S σ.sc.length (visM K (.cons h k .nil) c σ) w)
def AllT (X : CkX) (K : Kn) : Fo → Prop
  | .nil => True
  | .cons h k r => VTree X K h k ∧ AllT X K r
def VKids (X : CkX) (K : Kn) (F : Fo) : Prop :=
  ∀ (c : Nat) (σ : Cs) (S : CkS) (w : World) (d i : Nat) (x : CN), Vq X K F c σ S w (d + 1) → X.ns[i]? = some x → x.kids = F.roots c → Calls Tryz.prog 57 #[ckp X, .int .i64 (i : Int), .int .i64 (d : Int)] w (VisQ X S σ.sc.length (visM K F c σ) w)
theorem vis_cons (K : Kn) (h : Hd) (k r : Fo) (c : Nat) (σ : Cs) : visM K (.cons h k r) c σ = (visM K (.cons h k .nil) c σ).bind fun τ => visM K r (c + k.size + 1) τ := by
  simp only [visM, Ck.bind_assoc, Ck.bind_ok]
theorem nd_at {X : CkX} {h : Hd} {k r : Fo} {c : Nat} (hh : Hld (X.ns.map CN.nd) (.cons h k r) c) : ∃ x : CN, X.ns[c + k.size]? = some x ∧ x.h = h ∧ x.kids = k.roots c := by
  have := hh.2.1
  rw [List.getElem?_map] at this
  cases hx : X.ns[c + k.size]? with
  | none => rw [hx] at this; cases this
  | some x =>
    rw [hx] at this
    simp only [Option.map_some, Option.some.injEq, CN.nd, Nd.mk.injEq] at this
    exact ⟨x, rfl, this.1, this.2⟩
set_option maxHeartbeats 2000000 in
set_option maxRecDepth 100000 in
theorem kids_of {X : CkX} {K : Kn} {F : Fo} (hT : AllT X K F) : VKids X K F := by
  intro c σ S w d i x q hx hk
  obtain ⟨R, hR⟩ : ∃ R : Ending → World → Prop, VisQ X S σ.sc.length (visM K F c σ) w = R := ⟨_, rfl⟩
  rw [hR]
  have HR := Lib.hid hR
  obtain ⟨A, cc, hv, hr⟩ := q.v.kids hx
  have c2 := q.v.c2
  have hbl := q.v.chk.lt
  have hnl := q.v.nodeLt
  have h5 := q.v.nodeCell hx 5 (by omega)
  simp only [cellT, List.getElem?_cons_succ, List.getElem?_cons_zero] at h5
  rw [hv] at h5
  have hil := (List.getElem?_eq_some_iff.1 hx).1
  have hiI : (i : Int) < X.ns.length := by omega
  obtain ⟨n, hn⟩ : ∃ n, x.kids.length = n := ⟨_, rfl⟩
  have hn2 : n ≤ 60000 := by
    have h1 := len_roots F c
    have h2 := len_size F
    have h3 := q.dp
    rw [← hk] at h1
    omega
  rw [hn] at h5
  have HRK := Lib.hid (And.intro hv (And.intro hk hn))
  have HQ := Lib.hid (And.intro hT q)
  have hd2 : d ≤ 60000 := by have := q.dp; omega
  clear hR hT q hr hk hn hv
  go_enter Tryz.func57, Tryz.ntmps57
  go_wp2_with fail
  go_loopw [18] (fun v wr => ∃ (j : Nat) (F' : Fo) (c' : Nat) (σ' : Cs) (S' : CkS), j + F'.len = n ∧ v = .int .i64 j ∧ F'.roots c' = (F.roots c).drop j ∧ visM K F c σ = visM K F' c' σ' ∧ AllT X K F' ∧ Vq X K F' c' σ' S' wr (d + 1) ∧ σ'.sc.length = σ.sc.length ∧ Sx S S' ∧ Below X.B w wr) (fun v _ => n - (intOf v).toNat)
  case atStart => exact ⟨0, F, c, σ, S, by rw [← len_roots F c, ← HRK.out.2.1, HRK.out.2.2]; omega, rfl, rfl, rfl, HQ.out.1, HQ.out.2, rfl, Sx.refl S, Below.refl _ _⟩
  case round =>
    obtain ⟨j, F', c', σ', S', hjn, rfl, hro, hvis, hT', q', hsl, hsx, hbw⟩ := hrel
    cases F' with
    | nil =>
      simp only [Fo.len, Nat.add_zero] at hjn
      subst hjn
      have HE := Lib.hid (show R (.returned (.tuple #[])) wr by
        rw [← HR.out]
        exact .inl ⟨σ', hvis, rfl, ⟨q'.wf, hsl⟩, S', hsx, q'.v, hbw⟩)
      clear hro hvis hT' q' hsl hsx hbw
      go_wp2_with fail
      go_end0
      exact HE.out
    | cons h k r =>
      have hlt : j < n := by simp only [Fo.len] at hjn; omega
      have hltI : (j : Int) < n := by omega
      have hkj : x.kids[j]? = some (c' + k.size) := by
        have h1 : (Fo.roots c' (.cons h k r))[0]? = some (c' + k.size) := rfl
        rw [hro, List.getElem?_drop, Nat.add_zero] at h1
        rw [HRK.out.2.1]
        exact h1
      obtain ⟨A', cc', hv', hr'⟩ := q'.v.kids hx
      rw [HRK.out.1] at hv'
      simp only [Value.slice.injEq, true_and] at hv'
      obtain ⟨rfl, rfl⟩ := hv'
      obtain ⟨g, o, rfl, hg, hcj⟩ : ∃ g o, A = some ⟨g, o, none⟩ ∧ g < wr.heap.size ∧ wr.cell? ⟨g, o + j, none⟩ = some (.int .i64 ((c' + k.size : Nat) : Int)) := by
        rcases hr' with h0 | ⟨g, o, e, hg, hc⟩
        · rw [h0] at hkj; simp at hkj
        · exact ⟨g, o, e, hg, hc j _ hkj⟩
      have q1 : Vq X K (.cons h k .nil) c' σ' S' wr (d + 1) := ⟨q'.v, q'.kn, q'.wf, ⟨q'.hld.1, q'.hld.2.1, trivial⟩, ⟨q'.tr.1, q'.tr.2.1, trivial⟩, by have := q'.sz; simp only [Fo.size] at this ⊢; omega, by have := q'.dp; simp only [Fo.size] at this ⊢; omega⟩
      have hcon := hT'.1 c' σ' S' wr (d + 1) q1
      rw [show (((d + 1 : Nat)) : Int) = (d : Int) + 1 by omega] at hcon
      have HC := Lib.hid hcon
      have HI := Lib.hid (And.intro hvis (And.intro hT' (And.intro q' (And.intro hsl (And.intro hsx (And.intro hbw (And.intro hro hjn)))))))
      clear hcon hvis hT' q' hsl hsx hbw hro hjn hr' q1 hkj
      generalize c' + k.size = kk at *
      go_wp2_with fail
      refine HC.out.mono ?_
      clear HC
      rintro e w1 (⟨τ, hτ, rfl, ⟨hwf, hln⟩, S2, hs2, hC2, hb2⟩ | ⟨no, p, hτ, rfl, hb2⟩)
      · have hsz := HI.out.2.2.1.v.Ble
        have HJ := Lib.hid (show j + 1 + r.len = n ∧ Fo.roots (c' + k.size + 1) r = (Fo.roots c F).drop (j + 1) ∧ visM K F c σ = visM K r (c' + k.size + 1) τ ∧ AllT X K r ∧ Vq X K r (c' + k.size + 1) τ S2 w1 (d + 1) ∧ τ.sc.length = σ.sc.length ∧ Sx S S2 ∧ Below X.B w w1 by
          obtain ⟨hvis, hT', q', hsl, hsx, hbw, hro, hjn⟩ := HI.out
          refine ⟨by simp only [Fo.len] at hjn; omega, ?_, by rw [hvis, vis_cons, hτ]; rfl, hT'.2, ⟨hC2, q'.kn.sx hs2, hwf, q'.hld.2.2, q'.tr.2.2, ?_, ?_⟩, by rw [hln, hsl], hsx.trans hs2, hbw.trans hb2⟩
          · have := congrArg List.tail hro
            simpa [Fo.roots, List.tail_drop] using this
          · have := q'.sz; simp only [Fo.size] at this; omega
          · have := q'.dp; simp only [Fo.size] at this; omega)
        clear hτ hwf hln hs2 hC2 hb2 HI
        go_wp2_with fail
        go_roundw
        case rel => exact ⟨j + 1, r, c' + k.size + 1, τ, S2, HJ.out.1, by go_num, HJ.out.2.1, HJ.out.2.2.1, HJ.out.2.2.2.1, HJ.out.2.2.2.2.1, HJ.out.2.2.2.2.2.1, HJ.out.2.2.2.2.2.2.1, HJ.out.2.2.2.2.2.2.2⟩
        case measure => simp [intOf]; omega
      · have HE := Lib.hid (show R (PncL no p) w1 by
          rw [← HR.out]
          obtain ⟨hvis, hT', q', hsl, hsx, hbw, hro, hjn⟩ := HI.out
          exact .inr ⟨no, p, by rw [hvis, vis_cons, hτ]; rfl, rfl, hbw.trans hb2⟩)
        clear hτ hb2 HI
        go_wp2_with fail
        exact pnc_end rfl HE.out
theorem WfS.push {X : CkX} {σ : Cs} (h : WfS X σ) : WfS X { σ with sc := σ.sc ++ [[]] } := by
  refine ⟨by simp, h.vs, ?_, ?_⟩
  · intro s hs
    rcases List.mem_append.1 hs with hs | hs
    · exact h.ln s hs
    · simp only [List.mem_singleton] at hs; subst hs; simp
  · intro s hs
    rcases List.mem_append.1 hs with hs | hs
    · exact h.fn s hs
    · simp only [List.mem_singleton] at hs; subst hs; intro p hp; cases hp
theorem WfS.pop {X : CkX} {τ : Cs} (h : WfS X τ) {n : Nat} (hn : τ.sc.length = n + 1) (h1 : 1 ≤ n) : WfS X { τ with sc := τ.sc.dropLast } :=
  ⟨by simp [hn]; exact h1, h.vs, fun s hs => h.ln s (List.dropLast_subset _ hs), fun s hs => h.fn s (List.dropLast_subset _ hs)⟩
theorem ndW_of {X : CkX} {K : Kn} {σ : Cs} {x : CN} {h : Hd} {k : Fo} {c : Nat} (hh : x.h = h) (hk : x.kids = k.roots c) (ht : TrW (.cons h k .nil)) (hl : c + k.size < X.ns.length) (hw : WfS X σ) (hs : σ.sc.length ≤ 1000000) (hz : k.size ≤ 60000) (hnp : K.np = X.fl.map fun f => f.1.ps.length) : NdW X K σ x where
  s := by rw [hh]; exact ht.1.1
  ks := fun r hr => by rw [hk] at hr; have := roots_lt k c r hr; omega
  kl := by rw [hk, len_roots]; have := len_size k; omega
  sc := hs
  fn := fun m hm h4 => by
    obtain ⟨s, hs, p, hp, rfl⟩ := lookS_mem hm
    exact hw.fn s hs p hp h4
  np := hnp
theorem arW_of {h : Hd} {k : Fo} {c : Nat} (ht : TrW (.cons h k .nil)) : ArW h (k.roots c) where
  one := fun h4 => by
    have := ht.1.2.1 h4
    rw [← len_roots k c] at this
    exact List.length_eq_one_iff.1 this
  two := fun h5 => by
    have := ht.1.2.2.1 h5
    rw [← len_roots k c] at this
    match k.roots c, this with
    | [a, b], _ => exact ⟨a, b, rfl⟩
  some_ := fun h6 => by
    have := ht.1.2.2.2 h6
    rw [← len_roots k c] at this
    cases e : k.roots c with
    | nil => rw [e] at this; simp at this
    | cons a l => exact ⟨a, l, rfl⟩
set_option maxHeartbeats 2000000 in
set_option maxRecDepth 100000 in
theorem visit_block {X : CkX} {K : Kn} {h : Hd} {k : Fo} (hK : VKids X K k) (ho : h.op = 11) : VTree X K h k := by
  intro c σ S w d q
  have e : visM K (.cons h k .nil) c σ = (visM K k c { σ with sc := σ.sc ++ [[]] }).bind fun τ => .ok { τ with sc := τ.sc.dropLast } := by
    simp only [visM, if_pos ho, Ck.bind_assoc, Ck.bind_ok]
  rw [e]
  obtain ⟨x, hx, hxh, hxk⟩ := nd_at q.hld
  obtain ⟨R, hR⟩ : ∃ R : Ending → World → Prop, VisQ X S σ.sc.length ((visM K k c { σ with sc := σ.sc ++ [[]] }).bind fun τ => .ok { τ with sc := τ.sc.dropLast }) w = R := ⟨_, rfl⟩
  rw [hR]
  have HR := Lib.hid hR
  have hil := (List.getElem?_eq_some_iff.1 hx).1
  have c2 := q.v.c2
  have hbl := q.v.chk.lt
  have hnl := q.v.nodeLt
  have h0 := q.v.nodeCell hx 0 (by omega)
  simp only [cellT, List.getElem?_cons_succ, List.getElem?_cons_zero, Nat.add_zero] at h0
  rw [hxh, ho] at h0
  have hsz := q.sz
  have hdp := q.dp
  simp only [Fo.size] at hsz hdp
  have HO := Lib.hid (open_any q.v (by omega))
  have hd2 : (d : Int) ≤ 60000 := by omega
  have HQ := Lib.hid q
  have HX := Lib.hid (And.intro hx hxk)
  obtain ⟨ii, hii⟩ : ∃ n, c + k.size = n := ⟨_, rfl⟩
  have HII := Lib.hid hii
  rw [hii] at hil h0 ⊢
  have hiI : (ii : Int) < X.ns.length := by omega
  clear hR e q hx hxk hii
  go_enter Tryz.func97, Tryz.ntmps97
  go_wp2_with fail
  refine HO.out.mono ?_
  clear HO
  rintro e w1 ⟨rfl, v1, m1, hC1, hb1⟩
  have HKC := Lib.hid (show Calls Tryz.prog 57 #[ckp X, .int .i64 (ii : Int), .int .i64 (d : Int)] w1 (VisQ X (S.push v1 m1) (σ.sc.length + 1) (visM K k c { σ with sc := σ.sc ++ [[]] }) w1) by
    have q := HQ.out
    have := hK c { σ with sc := σ.sc ++ [[]] } (S.push v1 m1) w1 d ii x ⟨hC1, ⟨q.kn.on, q.kn.ft, q.kn.lb, q.kn.np⟩, q.wf.push, q.hld.1, q.tr.2.1, by simp; omega, by omega⟩ (by rw [← HII.out]; exact HX.out.1) HX.out.2
    simpa using this)
  have HB1 := Lib.hid hb1
  clear hC1 hb1
  go_wp2_with fail
  refine HKC.out.mono ?_
  clear HKC
  rintro e w2 (⟨τ, hτ, rfl, ⟨hwf, hln⟩, S2, hs2, hC2, hb2⟩ | ⟨no, p, hτ, rfl, hb2⟩)
  · have HCL := Lib.hid (close_any hC2 (k := σ.sc.length) hln (by omega))
    have hbl2 := hC2.chk.lt
    have HT := Lib.hid (And.intro hτ (And.intro hwf (And.intro hln (And.intro hs2 (And.intro hC2 hb2)))))
    clear hτ hwf hln hs2 hC2 hb2
    go_wp2_with fail
    refine HCL.out.mono ?_
    clear HCL
    rintro e w3 ⟨rfl, v3, hC3, hb3⟩
    have HE := Lib.hid (show R (.returned (.tuple #[])) w3 by
      rw [← HR.out]
      obtain ⟨hτ, hwf, hln, ⟨v2, s2, rfl, hv2⟩, -, hb2⟩ := HT.out
      refine .inl ⟨{ τ with sc := τ.sc.dropLast }, by rw [hτ]; rfl, rfl, ⟨hwf.pop hln HQ.out.wf.one, by simp [hln]⟩, { S with vls := v2, scv := v3 }, ⟨v2, v3, rfl, hv2⟩, ?_, (HB1.out.trans hb2).trans hb3⟩
      have e9 : (CkS.pop { S.push v1 m1 with vls := v2, scv := s2 } v3) = { S with vls := v2, scv := v3 } := by simp [CkS.pop, CkS.push]
      rw [← e9]
      exact hC3)
    clear hC3 hb3
    go_wp2_with fail
    go_end0
    exact HE.out
  · have HE := Lib.hid (show R (PncL no p) w2 by
      rw [← HR.out]
      exact .inr ⟨no, p, by rw [hτ]; rfl, rfl, HB1.out.trans hb2⟩)
    clear hτ hb2
    go_wp2_with fail
    exact pnc_end rfl HE.out
set_option maxHeartbeats 2000000 in
set_option maxRecDepth 100000 in
theorem visit_rule {X : CkX} {K : Kn} {h : Hd} {k : Fo} (hK : VKids X K k) (ho : h.op ≠ 11) : VTree X K h k := by
  intro c σ S w d q
  have e : visM K (.cons h k .nil) c σ = (visM K k c σ).bind fun τ => ruleM K h (k.roots c) (c + k.size) τ := by
    simp only [visM, if_neg ho, Ck.bind_assoc]
    congr 1
    funext τ
    cases ruleM K h (k.roots c) (c + k.size) τ <;> rfl
  rw [e]
  obtain ⟨x, hx, hxh, hxk⟩ := nd_at q.hld
  obtain ⟨R, hR⟩ : ∃ R : Ending → World → Prop, VisQ X S σ.sc.length ((visM K k c σ).bind fun τ => ruleM K h (k.roots c) (c + k.size) τ) w = R := ⟨_, rfl⟩
  rw [hR]
  have HR := Lib.hid hR
  have hil := (List.getElem?_eq_some_iff.1 hx).1
  have c2 := q.v.c2
  have hbl := q.v.chk.lt
  have hnl := q.v.nodeLt
  have h0 := q.v.nodeCell hx 0 (by omega)
  simp only [cellT, List.getElem?_cons_succ, List.getElem?_cons_zero, Nat.add_zero] at h0
  rw [hxh] at h0
  have hsz := q.sz
  have hdp := q.dp
  simp only [Fo.size] at hsz hdp
  have hd2 : (d : Int) ≤ 60000 := by omega
  have HQ := Lib.hid q
  have HX := Lib.hid (And.intro hx (And.intro hxh hxk))
  have hpl : c + k.size < X.ns.length := hil
  have HPL := Lib.hid hpl
  obtain ⟨ii, hii⟩ : ∃ n, c + k.size = n := ⟨_, rfl⟩
  have HII := Lib.hid hii
  rw [hii] at hil h0 ⊢
  have hiI : (ii : Int) < X.ns.length := by omega
  have HKC := Lib.hid (show Calls Tryz.prog 57 #[ckp X, .int .i64 (ii : Int), .int .i64 (d : Int)] w (VisQ X S σ.sc.length (visM K k c σ) w) from
    hK c σ S w d ii x ⟨q.v, q.kn, q.wf, q.hld.1, q.tr.2.1, by omega, by omega⟩ (by rw [← hii]; exact hx) hxk)
  have HO := Lib.hid ho
  have hob : (h.op == 11) = false := by simp [ho]
  clear hR e q hx hxh hxk hii hpl ho
  go_enter Tryz.func97, Tryz.ntmps97
  go_wp2_with fail
  refine HKC.out.mono ?_
  clear HKC
  rintro e w2 (⟨τ, hτ, rfl, ⟨hwf, hln⟩, S2, hs2, hC2, hb2⟩ | ⟨no, p, hτ, rfl, hb2⟩)
  · have hx := HX.out.1
    rw [HII.out] at hx
    have h02 := hC2.nodeCell hx 0 (by omega)
    simp only [cellT, List.getElem?_cons_succ, List.getElem?_cons_zero, Nat.add_zero] at h02
    rw [HX.out.2.1] at h02
    have hnl2 := hC2.nodeLt
    have hnw : NdW X K τ x := ndW_of HX.out.2.1 HX.out.2.2 HQ.out.tr HPL.out hwf (by omega) (by omega) HQ.out.kn.np
    have har : ArW x.h x.kids := by rw [HX.out.2.1, HX.out.2.2]; exact arW_of HQ.out.tr
    have HKN := Lib.hid (HQ.out.kn.sx hs2)
    have HFIN : Hid (∀ e w', VisP X S2 (ruleM K h (k.roots c) (c + k.size) τ) w2 e w' → R e w') := Lib.hid fun e w' hP => by
      rw [← HR.out, hτ, Ck.bind_ok]
      rcases hP with ⟨ρ, hρ, rfl, S3, hs3, hC3, hb3⟩ | ⟨no, p, hρ, rfl, hb3⟩
      · have hw3 := rule_wf hρ hwf
        exact .inl ⟨ρ, hρ, rfl, ⟨hw3.1, by rw [hw3.2, hln]⟩, S3, hs2.trans hs3, hC3, hb2.trans hb3⟩
      · exact .inr ⟨no, p, hρ, rfl, hb2.trans hb3⟩
    by_cases hlt : h.op < 11
    · have hE := expr_all hC2 hx hnw har
      rw [HX.out.2.1, HX.out.2.2] at hE
      have hru : ruleM K h (k.roots c) (c + k.size) τ = exprM K h (k.roots c) ii τ := by unfold ruleM; rw [if_pos hlt, HII.out]
      have HE2 := Lib.hid hE
      have HRU := Lib.hid hru
      have hlb : decide (h.op < 11) = true := by simp [hlt]
      clear hE hτ hwf hln hs2 hC2 hb2 hnw har hx hru hlt
      generalize h.op = op at *
      go_wp2_with fail
      refine HE2.out.mono ?_
      clear HE2
      rintro e w3 hP
      have hRR := HFIN.out e w3 (by rw [HRU.out]; exact hP)
      rcases hP with ⟨ρ, -, rfl, -⟩ | ⟨no, p, -, rfl, -⟩
      · have HE := Lib.hid hRR
        clear hRR
        go_wp2_with fail
        go_end0
        exact HE.out
      · have HE := Lib.hid hRR
        clear hRR
        go_wp2_with fail
        exact pnc_end rfl HE.out
    · have hE := stmt_all hC2 hx hnw har HKN.out hwf
      rw [HX.out.2.1, HX.out.2.2] at hE
      have hru : ruleM K h (k.roots c) (c + k.size) τ = stmtM K h (k.roots c) ii τ := by unfold ruleM; rw [if_neg hlt, HII.out]
      have HE2 := Lib.hid hE
      have HRU := Lib.hid hru
      have hlb : decide (h.op < 11) = false := by simp [hlt]
      clear hE hτ hwf hln hs2 hC2 hb2 hnw har hx hru hlt
      generalize h.op = op at *
      go_wp2_with fail
      refine HE2.out.mono ?_
      clear HE2
      rintro e w3 hP
      have hRR := HFIN.out e w3 (by rw [HRU.out]; exact hP)
      rcases hP with ⟨ρ, -, rfl, -⟩ | ⟨no, p, -, rfl, -⟩
      · have HE := Lib.hid hRR
        clear hRR
        go_wp2_with fail
        go_end0
        exact HE.out
      · have HE := Lib.hid hRR
        clear hRR
        go_wp2_with fail
        exact pnc_end rfl HE.out
  · have HE := Lib.hid (show R (PncL no p) w2 by
      rw [← HR.out]
      exact .inr ⟨no, p, by rw [hτ]; rfl, rfl, hb2⟩)
    clear hτ hb2
    go_wp2_with fail
    exact pnc_end rfl HE.out
theorem allT (X : CkX) (K : Kn) (F : Fo) : AllT X K F := by
  induction F with
  | nil => trivial
  | cons h k r ih1 ih2 =>
    refine ⟨?_, ih2⟩
    by_cases ho : h.op = 11
    · exact visit_block (kids_of ih1) ho
    · exact visit_rule (kids_of ih1) ho
/-- visitKids, of any trees. -/
theorem vkids_any (X : CkX) (K : Kn) (F : Fo) : VKids X K F := kids_of (allT X K F)
end Go.Proofs.YtfaoiajhoifalaaGreatDoor
