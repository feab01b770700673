/-
  Layer parse, printing: globals, functions. Layer parse, printing: functions. Layer parse, printing: the text that a writer holds. Layer parse: Print's deferred function where nothing panics. Layer parse: Print. Layer parse: a program in memory as Print reads it.
-/
import Derived.Test.YtlbjjpfhkgagiaaGreatDoorMb
import Derived.Test.YtlbjjpfhkgagiaaGreatDoorMa
import Derived.Test.YtlbjjpfhkgagiaaGreatDoorPrc
import Derived.Lib.UnsafeStr
import Derived.Defers
import Derived.Recover
import Derived.Deep.RegionHeld3
/-! Prk -/
namespace Go.Proofs.YtlbjjpfhkgagiaaGreatDoor
open Go.RowKit Go.Shelf
set_option linter.unusedVariables false
set_option linter.unusedSimpArgs false

/-- The tokens of a global's line; of a function's. -/
def glT (g : Gl) : Tx := [typeW g.ty, g.s] ++ (if g.n = 0 then [] else [[91], Lib.itoa g.n, [93]]) ++ [[59]]
def pmT : List Pm → Tx
  | [] => []
  | p :: l => [typeW p.ty, p.s] ++ l.flatMap fun p => [[44], typeW p.ty, p.s]
def fnT (f : Fn') (t : Tx) : Tx := [typeW f.ty, f.s, [40]] ++ pmT f.ps ++ [[41]] ++ t
structure GlOk (g : Gl) : Prop where
  ty : 0 ≤ g.ty ∧ g.ty ≤ 3
  sl : g.s.length ≤ 24
  n : 0 ≤ g.n ∧ g.n ≤ 1024
theorem bgn_ne (bg : Bool) {xs : Tx} (h : xs ≠ []) : bgn bg xs = true := by
  cases xs with
  | nil => exact absurd rfl h
  | cons a b => simp [bgn]

set_option maxHeartbeats 4000000 in
set_option maxRecDepth 100000 in
theorem wglobal_any {B b : Nat} {w : World} {l : List UInt8} {nv sv v : Value} (hW : Wb B b w l false nv sv v) (hE : EnvW B w) (x : Gl) (hx : GlOk x) (hlen : l.length ≤ 900000000) :
    Calls Tryz.prog 30 #[.pointer (some ⟨b, 0, none⟩), .agg #[.string (str x.s), .int .i64 x.ty, .int .i64 x.n, .int .i64 x.p]] w fun e w' => e = .returned (.tuple #[]) ∧ ∃ v', Wb B b w' (l ++ (wl false (glT x) ++ [10])) false nv sv v' ∧ Kw B [b] w w' := by
  have hB : B ≤ w.heap.size := by have := hW.lt; have := hW.base; omega
  have hbw := hW.lt
  have hsl := hx.sl
  obtain ⟨kt, hkt⟩ : ∃ kt : Nat, x.ty = kt := ⟨x.ty.toNat, by have := hx.ty.1; omega⟩
  have hkt4 : kt < 4 := by have := hx.ty.2; omega
  have htw := (typeW_len kt).2
  have hN := Blk.new w tG #[.string (str x.s), .int .i64 kt, .int .i64 x.n, .int .i64 x.p]
  have HN := Lib.hid hN
  have HW0 := Lib.hid (hW.alloc (.cells #[.string (str x.s), .int .i64 kt, .int .i64 x.n, .int .i64 x.p] tG))
  have HK0 := Lib.hid ((Kw.refl B [b] w).alloc hB (.cells #[.string (str x.s), .int .i64 kt, .int .i64 x.n, .int .i64 x.p] tG))
  have HE := Lib.hid (hE.below HK0.out.low)
  have HE0 := Lib.hid hE
  have HB0 := Lib.hid hB
  have hT : glT x = [typeW kt, x.s] ++ (if x.n = 0 then [] else [[91], Lib.itoa x.n, [93]]) ++ [[59]] := by unfold glT; rw [hkt]
  have hn := hx.n
  rw [hkt]
  obtain ⟨tc, tl⟩ := HE.out.typeCell hkt4
  obtain ⟨n0, n1, n2, n3, nl⟩ : _ ∧ _ ∧ _ ∧ _ ∧ _ := ⟨HN.out.cell 0, HN.out.cell 1, HN.out.cell 2, HN.out.cell 3, HN.out.lt⟩
  simp only [List.getElem?_toArray, List.getElem?_cons_zero, List.getElem?_cons_succ] at n0 n1 n2 n3
  have HT := Lib.hid hT
  clear hT hN hW hE hx hkt
  go_enter Tryz.func30, Tryz.ntmps30
  go_upto_region 1 with (fail)
  obtain ⟨W0, hW0⟩ : ∃ W0, w.alloc (.cells #[.string (str x.s), .int .i64 kt, .int .i64 x.n, .int .i64 x.p] tG) = W0 := ⟨_, rfl⟩
  obtain ⟨q, hq⟩ : ∃ q, w.heap.size = q := ⟨_, rfl⟩
  rw [hW0] at n0 n1 n2 n3 tc tl nl HN HW0 HK0 HE ⊢
  rw [hq] at n0 n1 n2 n3 nl HN hB hbw ⊢
  clear hW0 hq
  have hk4i : (kt : Int) < 4 := by omega
  have hl1 : l.length + (wl false [typeW kt, x.s]).length ≤ 1000000000 := by
    have := wl_len [typeW kt, x.s] (fun y hy => by simp at hy; rcases hy with rfl | rfl; exact htw; omega) false
    simp at this ⊢
    omega
  have HL1 := Lib.hid hl1
  clear hl1
  go_region_law (go_simp; go_at_call 58; refine (tok1 (H := W0.heap.size) (HW0.out.below (bd1 _)) rfl [typeW kt, x.s] 2 rfl (by omega) HL1.out).mono ?_; rintro e w1 ⟨rfl, v1, hW1, hK1⟩; have HW1 := Lib.hid hW1; have HK1 := Lib.hid ((HK0.out.drew).trans hK1); have HN1 := Lib.hid (hK1.blk (show Blk W0.drew q tG _ from HN.out) (by simp; omega) (by decide)); clear hW1 hK1)
  all_goals
    clear n0 n1 n2 n3 nl tc tl HW0 HN
    obtain ⟨n2, nl⟩ : _ ∧ _ := ⟨HN1.out.cell 2, HN1.out.lt⟩
    simp only [List.getElem?_toArray, List.getElem?_cons_zero, List.getElem?_cons_succ] at n2
    have hl2 : ∀ z : Tx, z.length ≤ 3 → (∀ y ∈ z, y.length ≤ 45) → ∀ z2 : Tx, z2.length ≤ 3 → (∀ y ∈ z2, y.length ≤ 45) → (l ++ wl false [typeW kt, x.s] ++ wl true z).length + (wl true z2).length ≤ 900000500 := fun z hz hy z2 hz2 hy2 => by
      have h1 := wl_len [typeW kt, x.s] (fun y hy => by simp at hy; rcases hy with rfl | rfl; exact htw; omega) false
      have h2 := wl_len z hy true
      have h3 := wl_len z2 hy2 true
      simp only [List.length_append]
      simp only [List.length_cons, List.length_nil] at h1
      omega
    have HL2 := Lib.hid hl2
    clear hl2
    by_cases hz : x.n = 0
    · have dz : (x.n != 0) = false := by simpa using hz
      have HZ := Lib.hid hz
      clear hz
      go_wp2_with fail
      refine (tok1 HW1.out rfl [[59]] 1 rfl (by omega) (by have := HL2.out [] (by simp) (by simp) [[59]] (by simp) (by simp); simp only [wl, List.append_nil] at this ⊢; simp [bgn] at this ⊢; omega)).mono ?_
      rintro e w2 ⟨rfl, v2, hW2, hK2⟩
      have HW2 := Lib.hid hW2
      have HK2 := Lib.hid (HK1.out.trans hK2)
      clear hW2 hK2
      go_wp2_with fail
      refine (endLine_any HW2.out (by have := HL2.out [] (by simp) (by simp) [[59]] (by simp) (by simp); simp only [wl, List.append_nil] at this ⊢; simp [bgn] at this ⊢; omega)).mono ?_
      rintro e w3 ⟨rfl, v3, hW3, hK3⟩
      have HW3 := Lib.hid hW3
      have HK3 := Lib.hid (HK2.out.trans hK3)
      clear hW3 hK3
      go_wp2_with fail
      go_end0
      refine ⟨rfl, v3, ?_, HK3.out⟩
      have e1 : wl false (glT x) = wl false [typeW kt, x.s] ++ wl (bgn false [typeW kt, x.s]) [[59]] := by rw [HT.out, if_pos HZ.out, List.append_nil, wl_append]
      rw [e1, ← List.append_assoc, ← List.append_assoc]
      exact HW3.out
    · have dz : (x.n != 0) = true := by simpa using hz
      have HZ := Lib.hid hz
      clear hz
      go_wp2_with fail
      refine (itoa_any x.n (by omega) (by omega) w1 ((HE0.out.below (Kw.low (HK1.out))).en)).mono ?_
      rintro e w2 ⟨rfl, hb2⟩
      have HW2 := Lib.hid (HW1.out.below hb2)
      have HK2 := Lib.hid (HK1.out.trans (.of hb2 (Nat.le_trans HB0.out HK1.out.low.size)))
      have hit := Lib.itoa_length_le x.n (by omega) (by omega)
      have HIT := Lib.hid hit
      clear hb2 n2 nl hit
      go_wp2_with fail
      refine (tok1 HW2.out rfl [[91], Lib.itoa x.n, [93]] 3 rfl (by omega) (by have := HL2.out [] (by simp) (by simp) [[91], Lib.itoa x.n, [93]] (by simp) (fun y hy => by have := HIT.out; simp at hy; rcases hy with rfl | rfl | rfl <;> simp <;> omega); simp only [wl, List.append_nil] at this ⊢; simp [bgn] at this ⊢; omega)).mono ?_
      rintro e w3 ⟨rfl, v3, hW3, hK3⟩
      have HW3 := Lib.hid hW3
      have HK3 := Lib.hid (HK2.out.trans hK3)
      clear hW3 hK3
      go_wp2_with fail
      refine (tok1 HW3.out rfl [[59]] 1 rfl (by omega) (by have := HL2.out [[91], Lib.itoa x.n, [93]] (by simp) (fun y hy => by have := HIT.out; simp at hy; rcases hy with rfl | rfl | rfl <;> simp <;> omega) [[59]] (by simp) (by simp); simp only [wl, List.append_nil] at this ⊢; simp [bgn] at this ⊢; omega)).mono ?_
      rintro e w4 ⟨rfl, v4, hW4, hK4⟩
      have HW4 := Lib.hid hW4
      have HK4 := Lib.hid (HK3.out.trans hK4)
      clear hW4 hK4
      go_wp2_with fail
      refine (endLine_any HW4.out (by have := HL2.out [[91], Lib.itoa x.n, [93]] (by simp) (fun y hy => by have := HIT.out; simp at hy; rcases hy with rfl | rfl | rfl <;> simp <;> omega) [[59]] (by simp) (by simp); simp only [wl, List.append_nil] at this ⊢; simp [bgn] at this ⊢; omega)).mono ?_
      rintro e w5 ⟨rfl, v5, hW5, hK5⟩
      have HW5 := Lib.hid hW5
      have HK5 := Lib.hid (HK4.out.trans hK5)
      clear hW5 hK5
      go_wp2_with fail
      go_end0
      refine ⟨rfl, v5, ?_, HK5.out⟩
      have e1 : wl false (glT x) = wl false [typeW kt, x.s] ++ wl (bgn false [typeW kt, x.s]) [[91], Lib.itoa x.n, [93]] ++ wl (bgn (bgn false [typeW kt, x.s]) [[91], Lib.itoa x.n, [93]]) [[59]] := by rw [HT.out, if_neg HZ.out, wl_append, wl_append, bgn_append]
      rw [e1, ← List.append_assoc, ← List.append_assoc, ← List.append_assoc]
      exact HW5.out

/-- Parameters that can be read. -/
def PmI (w : World) (B : Nat) (pv : Value) (ps : List Pm) : Prop :=
  ∃ A c, pv = .slice A ps.length c ∧ (ps = [] ∨ ∃ g o, A = some ⟨g, o, none⟩ ∧ g < B ∧ ∀ i p, ps[i]? = some p → w.cell? ⟨g, o + i * 2, none⟩ = some (.string (str p.s)) ∧ w.cell? ⟨g, o + i * 2 + 1, none⟩ = some (.int .i64 p.ty))
theorem PmI.below {w w' : World} {B : Nat} {pv : Value} {ps : List Pm} (h : PmI w B pv ps) (hb : Below B w w') : PmI w' B pv ps := by
  obtain ⟨A, c, h1, h2⟩ := h
  refine ⟨A, c, h1, h2.imp id ?_⟩
  rintro ⟨g, o, h3, h4, h5⟩
  exact ⟨g, o, h3, h4, fun i p hp => ⟨(hb.cell (p := ⟨g, o + i * 2, none⟩) h4).trans (h5 i p hp).1, (hb.cell (p := ⟨g, o + i * 2 + 1, none⟩) h4).trans (h5 i p hp).2⟩⟩
theorem pmCells_at (l : List Pm) (i : Nat) (p : Pm) (h : l[i]? = some p) : (pmCells l)[i * 2]? = some (.string (str p.s)) ∧ (pmCells l)[i * 2 + 1]? = some (.int .i64 p.ty) := by
  induction l generalizing i with
  | nil => simp at h
  | cons a l ih =>
    have e : pmCells (a :: l) = pmC a ++ pmCells l := by simp [pmCells]
    rw [e]
    cases i with
    | zero => simp at h; subst h; exact ⟨rfl, rfl⟩
    | succ i =>
      simp at h
      obtain ⟨h1, h2⟩ := ih i h
      constructor
      · rw [List.getElem?_append_right (by simp [pmC]; omega)]
        rw [show (i + 1) * 2 - (pmC a).length = i * 2 by simp [pmC]; omega]
        exact h1
      · rw [List.getElem?_append_right (by simp [pmC]; omega)]
        rw [show (i + 1) * 2 + 1 - (pmC a).length = i * 2 + 1 by simp [pmC]; omega]
        exact h2
theorem pmCells_len (l : List Pm) : (pmCells l).length = l.length * 2 := by
  induction l with
  | nil => rfl
  | cons a l ih => simp only [pmCells, List.flatMap_cons, List.length_append, List.length_cons] at *; rw [ih]; simp [pmC]; omega
theorem PmI.of_own {w : World} {base n : Nat} {pv : Value} {ps : List Pm} (h : w.ownsRow base tP 2 pv n (pmCells ps)) : PmI w w.heap.size pv ps := by
  have hn : n = ps.length := by have := h.1; rw [pmCells_len] at this; omega
  rcases h.2 with ⟨hv, h0⟩ | ⟨g, cap, cur, hv, _, hh, hnc, hcm, hsz, hcur⟩
  · exact ⟨none, 0, by rw [hv, ← hn, h0], .inl (List.eq_nil_of_length_eq_zero (by omega))⟩
  · refine ⟨some ⟨g, 0, none⟩, cap, by rw [hv, hn], .inr ⟨g, 0, rfl, (Array.getElem?_eq_some_iff.1 hh).1, fun i p hp => ?_⟩⟩
    have hi : i < ps.length := (List.getElem?_eq_some_iff.1 hp).1
    obtain ⟨e1, e2⟩ := pmCells_at ps i p hp
    constructor
    · rw [cell_of_row w g _ cur tP (0, 0) hh, ← e1, ← hcur, List.getElem?_take_of_lt (by omega), Array.getElem?_toList, Nat.zero_add]
    · rw [cell_of_row w g _ cur tP (0, 0) hh, ← e2, ← hcur, List.getElem?_take_of_lt (by omega), Array.getElem?_toList, Nat.zero_add]
end Go.Proofs.YtlbjjpfhkgagiaaGreatDoor
/-! Prl -/
namespace Go.Proofs.YtlbjjpfhkgagiaaGreatDoor
open Go.RowKit Go.Shelf
set_option linter.unusedVariables false
set_option linter.unusedSimpArgs false

theorem pmT_snoc (l : List Pm) (p : Pm) : pmT (l ++ [p]) = pmT l ++ (if l = [] then [typeW p.ty, p.s] else [[44], typeW p.ty, p.s]) := by
  cases l with
  | nil => simp [pmT]
  | cons a l => simp [pmT]
theorem wl_more (l : List UInt8) {X : Tx} (hX : X ≠ []) (Y : Tx) : l ++ wl false X ++ wl true Y = l ++ wl false (X ++ Y) := by
  rw [wl_append, bgn_ne false hX, List.append_assoc]
theorem wl_pre (bg : Bool) {X Y Z : Tx} (h : X ++ Y = Z) : (wl bg X).length ≤ (wl bg Z).length := by
  rw [← h, wl_append, List.length_append]; omega
theorem pmT_pre (l : List Pm) (n : Nat) : pmT (l.take n) <+: pmT l := by
  cases l with
  | nil => simp
  | cons a l =>
    cases n with
    | zero => exact ⟨pmT (a :: l), rfl⟩
    | succ n =>
      simp only [List.take_succ_cons, pmT]
      refine ⟨(l.drop n).flatMap fun p => [[44], typeW p.ty, p.s], ?_⟩
      rw [List.append_assoc, ← List.flatMap_append, List.take_append_drop]
structure FnOk (f : Fn') : Prop where
  ty : 0 ≤ f.ty ∧ f.ty ≤ 3
  ps : ∀ p ∈ f.ps, 0 ≤ p.ty ∧ p.ty ≤ 3
  np : f.ps.length ≤ 2000000

set_option maxHeartbeats 4000000 in
set_option maxRecDepth 100000 in
theorem wfunction_any {B b gs N : Nat} {w : World} {l : List UInt8} {nv v : Value} {ns : List NV} {S : List Bool} (hW : Wb B b w l false nv (.slice (some ⟨gs, 0, none⟩) N N) v) (hE : EnvW B w) (hN : Nds w B nv ns) (hS : Blk w gs tBo (seenC S)) (hSl : S.length = N) (hNl : ns.length = N) (hgs : B ≤ gs) (hgb : gs ≠ b)
    (f : Fn') (hf : FnOk f) (pv : Value) (hP : PmI w B pv f.ps)
    (h : Hd) (k : Fo) (c : Nat) (hfb : f.b = c + k.size) (hok : (Pz.nd h k c).ok) (hh : (Pz.nd h k c).held (ns.map NV.nd)) (hun : ∀ i, c ≤ i → i < c + (k.size + 1) → S[i]? = some false) (hlen : l.length + (wl false (fnT f (nodeT h k.tk))).length ≤ 900000000) (hG : (nodeT h k.tk).length + (k.size + 1) ≤ 1000000) :
    Calls Tryz.prog 31 #[.pointer (some ⟨b, 0, none⟩), .agg #[.string (str f.s), .int .i64 f.ty, pv, .int .i64 (f.b : Nat), .int .i64 f.p, .slice none 0 0]] w fun e w' => e = .returned (.tuple #[]) ∧ ∃ v' S', Wb B b w' (l ++ (wl false (fnT f (nodeT h k.tk)) ++ [10])) false nv (.slice (some ⟨gs, 0, none⟩) N N) v' ∧ Blk w' gs tBo (seenC S') ∧ S'.length = N ∧ (∀ i, ¬ (c ≤ i ∧ i < c + (k.size + 1)) → S'[i]? = S[i]?) ∧ Kw B [b, gs] w w' := by
  have hB : B ≤ w.heap.size := by have := hW.lt; have := hW.base; omega
  have hbw := hW.lt
  have hgw := hS.lt
  obtain ⟨A, pc, hpv, hprd⟩ := hP
  subst hpv
  obtain ⟨kt, hkt⟩ : ∃ kt : Nat, f.ty = kt := ⟨f.ty.toNat, by have := hf.ty.1; omega⟩
  have hkt4 : kt < 4 := by have := hf.ty.2; omega
  have hk4i : (kt : Int) < 4 := by omega
  obtain ⟨np, hnp⟩ : ∃ np, f.ps.length = np := ⟨_, rfl⟩
  rw [hnp, hkt]
  have hnp2 : np ≤ 2000000 := by have := hf.np; omega
  have hFT : fnT f (nodeT h k.tk) = ([typeW kt, f.s, [40]] ++ pmT f.ps ++ [[41]]) ++ nodeT h k.tk := by unfold fnT; rw [hkt]
  have HF := Lib.hid hf
  have HNP := Lib.hid hnp
  have HPR := Lib.hid hprd
  have HFT := Lib.hid hFT
  have HLEN := Lib.hid hlen
  have HE0 := Lib.hid hE
  have HN := Lib.hid hN
  have HB0 := Lib.hid hB
  have HTR := Lib.hid (And.intro hok (And.intro hh (And.intro hun (And.intro hG hfb))))
  have HSN := Lib.hid (And.intro hSl hNl)
  have HN0 := Lib.hid (Blk.new w tFn #[.string (str f.s), .int .i64 kt, .slice A np pc, .int .i64 (f.b : Nat), .int .i64 f.p, .slice none 0 0])
  have HW0 := Lib.hid (hW.alloc (.cells #[.string (str f.s), .int .i64 kt, .slice A np pc, .int .i64 (f.b : Nat), .int .i64 f.p, .slice none 0 0] tFn))
  have HK0 := Lib.hid ((Kw.refl B [b] w).alloc hB (.cells #[.string (str f.s), .int .i64 kt, .slice A np pc, .int .i64 (f.b : Nat), .int .i64 f.p, .slice none 0 0] tFn))
  have HS0 := Lib.hid hS
  obtain ⟨tc, tl⟩ := (hE.below HK0.out.low).typeCell hkt4
  obtain ⟨n0, n1, n2, n3, nl⟩ : _ ∧ _ ∧ _ ∧ _ ∧ _ := ⟨HN0.out.cell 0, HN0.out.cell 1, HN0.out.cell 2, HN0.out.cell 3, HN0.out.lt⟩
  simp only [List.getElem?_toArray, List.getElem?_cons_zero, List.getElem?_cons_succ] at n0 n1 n2 n3
  have hl1 : l.length + (wl false [typeW kt, f.s, [40]]).length ≤ 1000000000 := by
    have := wl_pre false (X := [typeW kt, f.s, [40]]) (Y := pmT f.ps ++ [[41]] ++ nodeT h k.tk) (Z := fnT f (nodeT h k.tk)) (by rw [hFT]; simp)
    omega
  have HL1 := Lib.hid hl1
  clear hFT hlen hN hok hh hun hW hE hf hnp hprd hkt hl1 hSl hNl hfb hG hS
  go_enter Tryz.func31, Tryz.ntmps31
  go_upto_region 1 with (fail)
  obtain ⟨W0, hW0⟩ : ∃ W0, w.alloc (.cells #[.string (str f.s), .int .i64 kt, .slice A np pc, .int .i64 (f.b : Nat), .int .i64 f.p, .slice none 0 0] tFn) = W0 := ⟨_, rfl⟩
  obtain ⟨q, hq⟩ : ∃ q, w.heap.size = q := ⟨_, rfl⟩
  rw [hW0] at n0 n1 n2 n3 tc tl nl HN0 HW0 HK0 ⊢
  rw [hq] at n0 n1 n2 n3 nl HN0 hB hbw hgw ⊢
  have HQ := Lib.hid hq
  clear hW0 hq
  go_region_law (go_simp; go_at_call 58; refine (tok1 (H := W0.heap.size) (HW0.out.below (bd1 _)) rfl [typeW kt, f.s, [40]] 3 rfl (by omega) HL1.out).mono ?_; rintro e w1 ⟨rfl, v1, hW1, hK1⟩; have HW1 := Lib.hid hW1; have HK1 := Lib.hid ((HK0.out.drew).trans hK1); have HN1 := Lib.hid (hK1.blk (show Blk W0.drew q tFn _ from HN0.out) (by simp; omega) (by decide)); clear hW1 hK1)
  all_goals
    clear n0 n1 n2 n3 nl tc tl HW0 HN0 HK0
    obtain ⟨n2, nl⟩ : _ ∧ _ := ⟨HN1.out.cell 2, HN1.out.lt⟩
    simp only [List.getElem?_toArray, List.getElem?_cons_zero, List.getElem?_cons_succ] at n2
    go_wp2_with fail
    go_loopw [18] (fun x wr => ∃ (i : Nat) (v' : Value), i ≤ np ∧ x = .int .i64 i ∧ Wb B b wr (l ++ wl false ([typeW kt, f.s, [40]] ++ pmT (f.ps.take i))) true nv (.slice (some ⟨gs, 0, none⟩) N N) v' ∧ Kw B [b] w1 wr) (fun x _ => np - (intOf x).toNat)
    case atStart => exact ⟨0, v1, by omega, rfl, by simpa [pmT, bgn] using HW1.out, Kw.refl _ _ _⟩
    case round =>
      obtain ⟨i, v', hi, rfl, hW, hK⟩ := hrel
      have HW := Lib.hid hW
      have HK := Lib.hid hK
      have HKW := Lib.hid (HK1.out.trans hK)
      have hwr := hW.lt
      clear hW hK
      by_cases hlt : i < np
      · have hil : i < f.ps.length := by rw [HNP.out]; exact hlt
        have hpi := List.getElem?_eq_getElem hil
        have hpm := List.getElem_mem hil
        obtain ⟨g, o, rfl, hg, hcs⟩ : ∃ g o, A = some ⟨g, o, none⟩ ∧ g < B ∧ ∀ i p, f.ps[i]? = some p → w.cell? ⟨g, o + i * 2, none⟩ = some (.string (str p.s)) ∧ w.cell? ⟨g, o + i * 2 + 1, none⟩ = some (.int .i64 p.ty) := by
          rcases HPR.out with h9 | h9
          · rw [h9] at hil; simp at hil
          · exact h9
        have z0 : wr.cell? ⟨g, o + i * 2, none⟩ = _ := (HKW.out.low.cell (p := ⟨g, o + i * 2, none⟩) hg).trans (hcs i _ hpi).1
        have z1 : wr.cell? ⟨g, o + i * 2 + 1, none⟩ = _ := (HKW.out.low.cell (p := ⟨g, o + i * 2 + 1, none⟩) hg).trans (hcs i _ hpi).2
        have hgl : g < wr.heap.size := by have := HKW.out.low.size; have := HB0.out; omega
        have hpt := HF.out.ps _ hpm
        have hts : f.ps.take (i + 1) = f.ps.take i ++ [f.ps[i]] := List.take_succ_eq_append_getElem hil
        generalize f.ps[i] = p at *
        obtain ⟨pt, hpte⟩ : ∃ pt : Nat, p.ty = pt := ⟨p.ty.toNat, by omega⟩
        have hpt4 : pt < 4 := by omega
        have hp4i : (pt : Int) < 4 := by omega
        rw [hpte] at z1
        have hsn : pmT (f.ps.take (i + 1)) = pmT (f.ps.take i) ++ (if f.ps.take i = [] then [typeW pt, p.s] else [[44], typeW pt, p.s]) := by rw [hts, pmT_snoc, hpte]
        have hnil : f.ps.take i = [] ↔ i = 0 := by
          constructor
          · intro h9
            have := congrArg List.length h9
            rw [List.length_take, HNP.out] at this
            simp at this
            omega
          · intro h9; rw [h9]; rfl
        have hpre : ∀ Y, ([typeW kt, f.s, [40]] ++ pmT (f.ps.take i)) ++ Y = [typeW kt, f.s, [40]] ++ pmT (f.ps.take (i + 1)) → l.length + (wl false ([typeW kt, f.s, [40]] ++ pmT (f.ps.take i))).length + (wl true Y).length ≤ 900000000 := fun Y hY => by
          have h1 := HLEN.out
          have h2 := pmT_pre f.ps (i + 1)
          obtain ⟨R, hR⟩ := h2
          have h3 := wl_pre false (X := ([typeW kt, f.s, [40]] ++ pmT (f.ps.take i)) ++ Y) (Y := R ++ [[41]] ++ nodeT h k.tk) (Z := fnT f (nodeT h k.tk)) (by rw [HFT.out, hY, ← hR]; simp)
          rw [wl_append, bgn_ne false (by simp), List.length_append] at h3
          omega
        have HPRE := Lib.hid hpre
        have HSNN := Lib.hid (And.intro hsn hnil)
        have hM := Blk.new wr tP #[.string (str p.s), .int .i64 pt]
        have HM := Lib.hid hM
        have HWA := Lib.hid (HW.out.alloc (.cells #[.string (str p.s), .int .i64 pt] tP))
        have HKA := Lib.hid (HK.out.alloc (by have := HKW.out.low.size; have := HB0.out; omega) (.cells #[.string (str p.s), .int .i64 pt] tP))
        have HEA := Lib.hid (HE0.out.below ((HKW.out.low).alloc (by have := HKW.out.low.size; have := HB0.out; omega) (.cells #[.string (str p.s), .int .i64 pt] tP)))
        clear hcs hil hpi hpm hpt hts hpte hsn hnil hpre hM
        by_cases hi0 : i = 0
        · subst hi0
          have HI := Lib.hid (rfl : (0 : Nat) = 0)
          rw [Nat.zero_mul, Nat.add_zero] at z0 z1
          go_upto_region 7 with (fail)
          obtain ⟨W2, hW2⟩ : ∃ W2, wr.alloc (.cells #[.string (str p.s), .int .i64 pt] tP) = W2 := ⟨_, rfl⟩
          obtain ⟨qq, hqq⟩ : ∃ qq, wr.heap.size = qq := ⟨_, rfl⟩
          rw [hW2] at HWA HKA HEA HM ⊢
          rw [hqq] at HM hwr ⊢
          clear hW2 hqq z0 z1
          obtain ⟨m0, m1, ml⟩ : _ ∧ _ ∧ _ := ⟨HM.out.cell 0, HM.out.cell 1, HM.out.lt⟩
          simp only [List.getElem?_toArray, List.getElem?_cons_zero, List.getElem?_cons_succ] at m0 m1
          obtain ⟨tc, tl⟩ := HEA.out.typeCell hpt4
          have hY : pmT (f.ps.take (0 + 1)) = pmT (f.ps.take 0) ++ [typeW pt, p.s] := by rw [HSNN.out.1, if_pos (HSNN.out.2.2 HI.out)]
          have HY := Lib.hid hY
          have hlY := HPRE.out [typeW pt, p.s] (by rw [hY]; simp)
          have HLY := Lib.hid (show (l ++ wl false ([typeW kt, f.s, [40]] ++ pmT (f.ps.take 0))).length + (wl true [typeW pt, p.s]).length ≤ 1000000000 by rw [List.length_append]; omega)
          clear hY hlY
          go_region_law (go_simp; go_at_call 58; refine (tok1 (H := W2.heap.size) (HWA.out.below (bd1 _)) rfl [typeW pt, p.s] 2 rfl (by omega) HLY.out).mono ?_; rintro e w5 ⟨rfl, v5, hW5, hK5⟩; have HW5 := Lib.hid hW5; have HK5 := Lib.hid ((HKA.out.drew).trans hK5); clear hW5 hK5)
          all_goals
            clear m0 m1 ml tc tl
            go_wp2_with fail
            go_roundw
            case rel => exact ⟨0 + 1, v5, by omega, by go_num, by rw [HY.out, ← List.append_assoc, ← wl_more l (by simp)]; exact HW5.out, HK5.out⟩
            case measure => simp [intOf]; omega
        · have dk : decide (0 < i) = true := by simp; omega
          have hY : pmT (f.ps.take (i + 1)) = pmT (f.ps.take i) ++ ([[44]] ++ [typeW pt, p.s]) := by rw [HSNN.out.1, if_neg (fun h9 => hi0 (HSNN.out.2.1 h9))]; rfl
          have HY := Lib.hid hY
          have hlY := HPRE.out ([[44]] ++ [typeW pt, p.s]) (by rw [hY]; simp)
          rw [wl_append [[44]] [typeW pt, p.s] true, List.length_append] at hlY
          have HLY := Lib.hid (show (l ++ wl false ([typeW kt, f.s, [40]] ++ pmT (f.ps.take i))).length + (wl true [[44]]).length ≤ 1000000000 by rw [List.length_append]; omega)
          have HLZ := Lib.hid (show (l ++ wl false ([typeW kt, f.s, [40]] ++ pmT (f.ps.take i)) ++ wl true [[44]]).length + (wl (bgn true [[44]]) [typeW pt, p.s]).length ≤ 1000000000 by rw [List.length_append, List.length_append]; omega)
          clear hY hlY hi0
          have hMs := HM.out.lt
          go_wp2_with fail
          refine (tok1 HWA.out (by simp) [[44]] 1 rfl (by omega) HLY.out).mono ?_
          rintro e w4 ⟨rfl, v4, hW4, hK4⟩
          have HW4 := Lib.hid hW4
          have HK4 := Lib.hid (HKA.out.trans hK4)
          have HM4 := Lib.hid (hK4.blk HM.out (by simp; omega) (by decide))
          have HE4 := Lib.hid (HEA.out.below hK4.low)
          clear hW4 hK4 z0 z1
          obtain ⟨m0, m1, ml⟩ : _ ∧ _ ∧ _ := ⟨HM4.out.cell 0, HM4.out.cell 1, HM4.out.lt⟩
          simp only [List.getElem?_toArray, List.getElem?_cons_zero, List.getElem?_cons_succ] at m0 m1
          obtain ⟨tc, tl⟩ := HE4.out.typeCell hpt4
          clear hMs
          go_upto_region 7 with (fail)
          go_region_law (go_simp; go_at_call 58; refine (tok1 (H := w4.heap.size) (HW4.out.below (bd1 _)) rfl [typeW pt, p.s] 2 rfl (by omega) HLZ.out).mono ?_; rintro e w5 ⟨rfl, v5, hW5, hK5⟩; have HW5 := Lib.hid hW5; have HK5 := Lib.hid ((HK4.out.drew).trans hK5); clear hW5 hK5)
          all_goals
            clear m0 m1 ml tc tl
            go_wp2_with fail
            go_roundw
            case rel => exact ⟨i + 1, v5, by omega, by go_num, by rw [HY.out, ← List.append_assoc, ← List.append_assoc, ← wl_more l (by simp), ← wl_more l (by simp)]; exact HW5.out, HK5.out⟩
            case measure => simp [intOf]; omega
      · obtain rfl : i = np := by omega
        have hfin : f.ps.take i = f.ps := by rw [← HNP.out, List.take_length]
        have HFI := Lib.hid hfin
        have hbN : Blk wr q tFn #[.string (str f.s), .int .i64 kt, .slice A i pc, .int .i64 (f.b : Nat), .int .i64 f.p, .slice none 0 0] := HK.out.blk HN1.out (by simp; omega) (by decide)
        have HBN := Lib.hid hbN
        clear hfin hbN
        have hlen4 : (l ++ wl false ([typeW kt, f.s, [40]] ++ pmT (f.ps.take i))).length + (wl true [[41]]).length ≤ 1000000000 := by
          have h1 := HLEN.out
          have h3 := wl_pre false (X := ([typeW kt, f.s, [40]] ++ pmT f.ps) ++ [[41]]) (Y := nodeT h k.tk) (Z := fnT f (nodeT h k.tk)) (by rw [HFT.out])
          rw [wl_append _ [[41]] false, bgn_ne false (by simp), List.length_append] at h3
          rw [HFI.out, List.length_append]
          omega
        have HL4 := Lib.hid hlen4
        clear hlen4
        go_wp2_with fail
        refine (tok1 HW.out rfl [[41]] 1 rfl (by omega) HL4.out).mono ?_
        rintro e w4 ⟨rfl, v4, hW4, hK4⟩
        have HW4 := Lib.hid hW4
        have HK4 := Lib.hid (HKW.out.trans hK4)
        have HB4 := Lib.hid (hK4.blk HBN.out (by simp; omega) (by decide))
        clear hW4 hK4
        obtain ⟨b3, bl⟩ : _ ∧ _ := ⟨HB4.out.cell 3, HB4.out.lt⟩
        simp only [List.getElem?_toArray, List.getElem?_cons_zero, List.getElem?_cons_succ] at b3
        rw [HTR.out.2.2.2.2] at b3
        go_wp2_with fail
        have hS4 : Blk w4 gs tBo (seenC S) := HK4.out.blk HS0.out (by simpa using hgb) (by decide)
        have hl5 : (l ++ wl false ([typeW kt, f.s, [40]] ++ pmT (f.ps.take i)) ++ wl true [[41]]).length + (wl (bgn true [[41]]) (nodeT h k.tk)).length ≤ 1000000000 := by
          have h1 := HLEN.out
          rw [HFT.out, wl_append, wl_append _ [[41]] false, bgn_ne false (by simp), bgn_ne false (by simp), List.length_append, List.length_append] at h1
          rw [HFI.out, bgn_ne true (by simp), List.length_append, List.length_append]
          omega
        refine (tree_any HW4.out (HE0.out.below HK4.out.low) (HN.out.below HK4.out.low) hS4 HSN.out.1 HSN.out.2 hgs hgb h k c HTR.out.1 HTR.out.2.1 HTR.out.2.2.1 hl5 HTR.out.2.2.2.1).mono ?_
        rintro e w5 ⟨rfl, v5, S5, hW5, hS5, hSl5, hSo5, hK5⟩
        have HW5 := Lib.hid hW5
        have HS5 := Lib.hid (And.intro hS5 (And.intro hSl5 hSo5))
        have HK5 := Lib.hid ((HK4.out.more (bs' := [b, gs]) (fun i hi => by simp at hi; subst hi; simp)).trans hK5)
        have hl6 : (l ++ wl false ([typeW kt, f.s, [40]] ++ pmT (f.ps.take i)) ++ wl true [[41]] ++ wl (bgn true [[41]]) (nodeT h k.tk)).length + 1 ≤ 1000000000 := by
          have h1 := HLEN.out
          rw [HFT.out, wl_append, wl_append _ [[41]] false, bgn_ne false (by simp), bgn_ne false (by simp), List.length_append, List.length_append] at h1
          rw [HFI.out, bgn_ne true (by simp), List.length_append, List.length_append, List.length_append]
          omega
        have HL6 := Lib.hid hl6
        clear hW5 hS5 hSl5 hSo5 hK5 hl5 hl6 hS4 b3 bl
        go_wp2_with fail
        refine (endLine_any HW5.out HL6.out).mono ?_
        rintro e w6 ⟨rfl, v6, hW6, hK6⟩
        have HW6 := Lib.hid hW6
        have HK6 := Lib.hid (HK5.out.trans (hK6.more (bs' := [b, gs]) (fun i hi => by simp at hi; subst hi; simp)))
        have HS6 := Lib.hid (hK6.blk HS5.out.1 (by simpa using hgb) (by decide))
        clear hW6 hK6
        go_wp2_with fail
        go_end0
        refine ⟨rfl, v6, S5, ?_, HS6.out, HS5.out.2.1, HS5.out.2.2, HK6.out⟩
        have e1 : l ++ (wl false (fnT f (nodeT h k.tk)) ++ [10]) = l ++ wl false ([typeW kt, f.s, [40]] ++ pmT (f.ps.take i)) ++ wl true [[41]] ++ wl (bgn true [[41]]) (nodeT h k.tk) ++ [10] := by
          rw [HFT.out, HFI.out, wl_append, wl_append _ [[41]] false, bgn_ne false (by simp), bgn_ne false (by simp), bgn_ne true (by simp)]
          simp
        rw [e1]
        exact HW6.out
end Go.Proofs.YtlbjjpfhkgagiaaGreatDoor
/-! Prm -/
namespace Go.Proofs.YtlbjjpfhkgagiaaGreatDoor
open Go.RowKit Go.Shelf
set_option linter.unusedVariables false
set_option linter.unusedSimpArgs false

theorem uCells : Tryz.prog.cellsOf tU = 1 := by kernel_rfl

set_option maxHeartbeats 2000000 in
set_option maxRecDepth 100000 in
/-- (*strings.Builder).String at the head of a writer. -/
theorem str_any {B b : Nat} {w : World} {l : List UInt8} {bg : Bool} {nv sv v : Value} (h : Wb B b w l bg nv sv v) :
    Calls Tryz.prog 32 #[.pointer (some ⟨b, 0, none⟩)] w fun e w' => e = .returned (.string (str l)) ∧ Kw B [] w w' := by
  obtain ⟨p, hp, hbk⟩ := h.blk
  have hBw : B ≤ w.heap.size := by have := h.lt; have := h.base; omega
  have hrow := h.row
  have hbl := h.lt
  have HBK := Lib.hid hbk
  have mixed : Tryz.prog.follows .mixedOrders = true := by kernel_rfl
  have hUN : ∀ (W : World) (q : Option Addr), (Builtin.unsafeString_ #[108, 3] 9 #[.pointer q, .int .i64 0]).run Tryz.prog W = .ok (.string .empty) W := fun W q => Lib.run_unsafeString_none W _ _ _ q
  rcases hrow.2 with ⟨rfl, h0⟩ | ⟨g, cap, cur, fz, rfl, hbg, hg, hfz, hnc, hcm, hcs, htake⟩
  · have hl : l = [] := List.eq_nil_of_length_eq_zero h0
    subst hl
    have c1 : w.drew.cell? ⟨b, 1, none⟩ = some (.slice none 0 0) := HBK.out.cell 1
    have hSD : (Builtin.unsafeSliceData_ #[73] 108 #[.slice none 0 0]).run Tryz.prog w.drew = .ok (.pointer none) w.drew := rfl
    clear hbk hp h hrow h0
    go_enter Tryz.func32, Tryz.ntmps32
    go_wp2
    go_region_o
    all_goals (go_wp2; go_ret; exact ⟨rfl, (Kw.refl B [] w).drew⟩)
  · by_cases hl : l = []
    · subst hl
      by_cases hc0 : cap = 0
      · subst hc0
        have hSD : (Builtin.unsafeSliceData_ #[73] 108 #[.slice (some ⟨g, 0, none⟩) 0 0]).run Tryz.prog w.drew = .ok (.pointer (some ⟨w.drew.heap.size, 0, none⟩)) (w.drew.alloc (.view ⟨g, 0, none⟩ tU)) :=
          Lib.run_unsafeSliceData_zero w.drew _ _ tU Tryz.underlying108 ⟨g, 0, none⟩ 0 (tU, cur.size) (by have hg' : w.drew.heap[g]? = some (.cells cur tU fz) := hg; simp [World.shape?, hg'])
        have c1 : w.drew.cell? ⟨b, 1, none⟩ = some (.slice (some ⟨g, 0, none⟩) 0 0) := HBK.out.cell 1
        have c2 : (w.drew.alloc (.view ⟨g, 0, none⟩ tU)).cell? ⟨b, 1, none⟩ = some (.slice (some ⟨g, 0, none⟩) 0 0) := ((show Blk w.drew b tW _ from HBK.out).alloc _).cell 1
        have c3 : (w.alloc (.view ⟨g, 0, none⟩ tU)).drew.cell? ⟨b, 1, none⟩ = some (.slice (some ⟨g, 0, none⟩) 0 0) := c2
        have c0 : w.cell? ⟨b, 1, none⟩ = some (.slice (some ⟨g, 0, none⟩) 0 0) := c1
        clear hbk hp h hrow hg
        go_enter Tryz.func32, Tryz.ntmps32
        go_wp2
        go_region_o
        all_goals (go_wp2; go_ret; exact ⟨rfl, (Kw.refl B [] w).drew.alloc hBw _⟩)
      · have c1 : w.drew.cell? ⟨b, 1, none⟩ = some (.slice (some ⟨g, 0, none⟩) 0 cap) := HBK.out.cell 1
        have hSD : (Builtin.unsafeSliceData_ #[73] 108 #[.slice (some ⟨g, 0, none⟩) 0 cap]).run Tryz.prog w.drew = .ok (.pointer (some ⟨g, 0, none⟩)) w.drew :=
          Lib.run_unsafeSliceData_row _ _ _ _ _ _ hc0
        clear hbk hp h hrow hg hc0
        go_enter Tryz.func32, Tryz.ntmps32
        go_wp2
        go_region_o
        all_goals (go_wp2; go_ret; exact ⟨rfl, (Kw.refl B [] w).drew⟩)
    · have hl0 : l.length ≠ 0 := by simpa using hl
      have c1 : w.drew.cell? ⟨b, 1, none⟩ = some (.slice (some ⟨g, 0, none⟩) l.length cap) := HBK.out.cell 1
      have hSD : (Builtin.unsafeSliceData_ #[73] 108 #[.slice (some ⟨g, 0, none⟩) l.length cap]).run Tryz.prog w.drew = .ok (.pointer (some ⟨g, 0, none⟩)) w.drew :=
        Lib.run_unsafeSliceData_row _ _ _ _ _ _ (by omega)
      have hUS : (Builtin.unsafeString_ #[108, 3] 9 #[.pointer (some ⟨g, 0, none⟩), .int .i64 l.length]).run Tryz.prog w.drew = .ok (.string (str l)) (w.drew.freeze ⟨g, 0, none⟩ l.length) := by
        refine Lib.run_unsafeString_row w.drew 108 3 9 tU Tryz.underlying108 uCells g cur.size (by have hg' : w.drew.heap[g]? = some (.cells cur tU fz) := hg; simp [World.shape?, hg']) l hl (by omega) (by unfold maxLen at hcm; omega) ?_
        intro j x hx
        exact hrow.cells (g := g) rfl j (.int .u8 x.toNat) (by simp [Lib.byteCells, hx])
      have HG := Lib.hid (show ∃ c fz, w.drew.heap[g]? = some (.cells c tU fz) from ⟨cur, fz, hg⟩)
      clear hbk hp h hrow hg hl hUN
      go_enter Tryz.func32, Tryz.ntmps32
      go_wp2
      go_region_o
      all_goals (go_wp2; go_ret; exact ⟨rfl, (Kw.refl B [] w).drew.freeze ⟨g, 0, none⟩ _ hbg HG.out⟩)
end Go.Proofs.YtlbjjpfhkgagiaaGreatDoor
/-! Prn -/
namespace Go.Proofs.YtlbjjpfhkgagiaaGreatDoor
open Go.RowKit Go.Shelf
set_option linter.unusedVariables false
set_option linter.unusedSimpArgs false

set_option maxHeartbeats 2000000 in
theorem print_catch (b : Nat) (w : World) :
    CallsD Tryz.prog 29 #[.pointer (some ⟨b, 0, none⟩)] .returning w fun e u' w' => e = .returned (.tuple #[]) ∧ u' = .returning ∧ w' = w := by
  refine callsD_of_wpS Tryz.func29 rfl fun c₀ cs hu => ?_
  apply wpS_seq
  apply wpS_region
  simp [wpOpsS, go_sem, recoverD, hu, Tryz.ntmps29, Exit.thenS]
  refine wpS_of_wp ?_
  go_wp2
  cases c₀
  simp_all [bodyPostS, results, Tryz.results29]
end Go.Proofs.YtlbjjpfhkgagiaaGreatDoor
/-! Pro -/
namespace Go.Proofs.YtlbjjpfhkgagiaaGreatDoor
open Go.RowKit Go.Shelf
set_option linter.unusedVariables false
set_option linter.unusedSimpArgs false

/-- A program's parts as they are read. -/
def GlI (w : World) (B : Nat) (gv : Value) (gs : List Gl) : Prop :=
  ∃ A c, gv = .slice A gs.length c ∧ (gs = [] ∨ ∃ g o, A = some ⟨g, o, none⟩ ∧ g < B ∧ ∀ i x, gs[i]? = some x → ∀ j, j < 4 → w.cell? ⟨g, o + i * 4 + j, none⟩ = (glA x)[j]?)
theorem GlI.below {w w' : World} {B : Nat} {gv : Value} {gs : List Gl} (h : GlI w B gv gs) (hb : Below B w w') : GlI w' B gv gs := by
  obtain ⟨A, c, h1, h2⟩ := h
  refine ⟨A, c, h1, h2.imp id ?_⟩
  rintro ⟨g, o, h3, h4, h5⟩
  exact ⟨g, o, h3, h4, fun i x hx j hj => (hb.cell (p := ⟨g, o + i * 4 + j, none⟩) h4).trans (h5 i x hx j hj)⟩
def FnI (w : World) (B : Nat) (fv : Value) (fl : List (Fn' × Value)) : Prop :=
  ∃ A c, fv = .slice A fl.length c ∧ (fl = [] ∨ ∃ g o, A = some ⟨g, o, none⟩ ∧ g < B ∧ ∀ i x, fl[i]? = some x → ∀ j, j < 6 → w.cell? ⟨g, o + i * 6 + j, none⟩ = (fnA x.1 x.2 x.1.b)[j]?)
theorem FnI.below {w w' : World} {B : Nat} {fv : Value} {fl : List (Fn' × Value)} (h : FnI w B fv fl) (hb : Below B w w') : FnI w' B fv fl := by
  obtain ⟨A, c, h1, h2⟩ := h
  refine ⟨A, c, h1, h2.imp id ?_⟩
  rintro ⟨g, o, h3, h4, h5⟩
  exact ⟨g, o, h3, h4, fun i x hx j hj => (hb.cell (p := ⟨g, o + i * 6 + j, none⟩) h4).trans (h5 i x hx j hj)⟩
/-- Functions with the trees that are theirs, one behind the other from node c on. -/
structure FT where
  f : Fn'
  v : Value
  h : Hd
  k : Fo
def FTs (L : List Nd) : Nat → List FT → Prop
  | c, [] => c ≤ L.length
  | c, x :: l => x.f.b = c + x.k.size ∧ (Pz.nd x.h x.k c).ok ∧ (Pz.nd x.h x.k c).held L ∧ FnOk x.f ∧ FTs L (c + (x.k.size + 1)) l
theorem FTs.le {L : List Nd} (l : List FT) : ∀ c, FTs L c l → c ≤ L.length := by
  induction l with
  | nil => exact fun c h => h
  | cons x l ih => intro c h; have := ih _ h.2.2.2.2; omega
/-- Where the i-th tree begins. -/
def ftAt : Nat → List FT → Nat → Nat
  | c, _, 0 => c
  | c, [], _ + 1 => c
  | c, x :: l, i + 1 => ftAt (c + (x.k.size + 1)) l i
theorem FTs.at {L : List Nd} (l : List FT) : ∀ c i x, FTs L c l → l[i]? = some x → x.f.b = ftAt c l i + x.k.size ∧ (Pz.nd x.h x.k (ftAt c l i)).ok ∧ (Pz.nd x.h x.k (ftAt c l i)).held L ∧ FnOk x.f ∧ ftAt c l i + (x.k.size + 1) ≤ L.length ∧ ftAt c l (i + 1) = ftAt c l i + (x.k.size + 1) := by
  induction l with
  | nil => intro c i x _ h; simp at h
  | cons y l ih =>
    intro c i x hT h
    cases i with
    | zero =>
      simp at h
      subst h
      obtain ⟨h1, h2, h3, h4, h5⟩ := hT
      refine ⟨h1, h2, h3, h4, FTs.le l _ h5, ?_⟩
      cases l <;> rfl
    | succ i =>
      simp at h
      exact ih _ i x hT.2.2.2.2 h
def glL (gs : List Gl) : List UInt8 := gs.flatMap fun g => wl false (glT g) ++ [10]
def fnL (l : List FT) : List UInt8 := l.flatMap fun x => wl false (fnT x.f (nodeT x.h x.k.tk)) ++ [10]
theorem glL_snoc (l : List Gl) (x : Gl) : glL (l ++ [x]) = glL l ++ (wl false (glT x) ++ [10]) := by simp [glL]
theorem fnL_snoc (l : List FT) (x : FT) : fnL (l ++ [x]) = fnL l ++ (wl false (fnT x.f (nodeT x.h x.k.tk)) ++ [10]) := by simp [fnL]

variable {P : Program} {w : World} in
theorem step_make_full {ops : Array Oper} {o : Oper} {a : Act} {K : Act → World → Prop} {Q : Exit → Act → World → Prop} {E : Prop} (hgd : o.guard = none) (l c : Operand) (t : TypeId) (ho : o.op = .makeSlice t l c)
    (base : Nat) (e : TypeId) (i : TypeInfo) (z : Value) (size : Nat) (ht : P.underlying t = some (.slice e)) (hi : P.info? e = some i) (hz : i.zero = some z) (hsize : i.size = size)
    (kl kc : IntKind) (n : Nat) (hl : a.eval l = .int kl n) (hc : a.eval c = .int kc n) (hbytes : i.bytes * n ≤ 281474976710656) (h63 : n ≤ maxLen) (hbase : base ≤ w.heap.size) (H : Nat) (hH : w.heap.size = H)
    (h : ∀ w', w'.ownsRow base e size (.slice (some ⟨H, 0, none⟩) n n) n (madeCells z.cells (n * size)).toList → w.grownBy w' none → K (a.put o.dst (.slice (some ⟨H, 0, none⟩) n n)) w') :
    if Region.wanted o (yielded ops a.tmps) = true then Oper.wp P o a w K Q else E := by
  have hw : Region.wanted o (yielded ops a.tmps) = true := by simp [Region.wanted, hgd]
  rw [if_pos hw]
  subst hH
  obtain ⟨w', hrun, r1, r2⟩ := run_make_full (P := P) (w := w) base t e i z size ht hi hz hsize kl kc n hbytes h63 hbase
  unfold Oper.wp
  simp [execOp, ho, hl, hc, hrun, Result.andThen]
  exact h w' r1 r2
theorem boInfo : (Tryz.prog.info? tBo).map (fun i => (i.zero, i.size, i.bytes)) = some (some (.bool false), 1, 1) := by kernel_rfl
theorem made_seen {w : World} {B g N : Nat} (h : w.ownsRow B tBo 1 (.slice (some ⟨g, 0, none⟩) N N) N (madeCells (Value.bool false).cells (N * 1)).toList) : Blk w g tBo (seenC (List.replicate N false)) := by
  have e0 : (madeCells (Value.bool false).cells (N * 1)).toList = (List.replicate N false).map Value.bool := by
    apply List.ext_getElem?
    intro j
    by_cases hj : j < N
    · simp [madeCells, Value.cells, Nat.mod_one, List.getElem?_replicate, hj]
    · simp [madeCells, Value.cells, Nat.mod_one, List.getElem?_replicate, hj]
  rcases h.2 with ⟨hv, _⟩ | ⟨g', cap, cur, hv, _, hh, hnc, hcm, hsz, hcur⟩
  · cases hv
  · cases hv
    unfold Blk
    rw [hh]
    have e1 : cur = seenC (List.replicate N false) := by
      apply Array.ext'
      rw [e0, List.take_of_length_le (by rw [Array.length_toList]; omega)] at hcur
      rw [hcur]; simp [seenC]
    rw [e1]
set_option maxHeartbeats 4000000 in
set_option maxRecDepth 100000 in
theorem print_any (w : World) (hE : EnvW w.heap.size w) (gs : List Gl) (gv : Value) (hG : GlI w w.heap.size gv gs) (hGo : ∀ x ∈ gs, GlOk x) (hGl : gs.length ≤ 2000000)
    (ns : List NV) (nv : Value) (hN : Nds w w.heap.size nv ns) (l : List FT) (fv : Value) (hF : FnI w w.heap.size fv (l.map fun x => (x.f, x.v))) (hP : ∀ x ∈ l, PmI w w.heap.size x.v x.f.ps) (hT : FTs (ns.map NV.nd) 0 l) (hFl : l.length ≤ 2000000)
    (hS : ∀ x ∈ l, (nodeT x.h x.k.tk).length + (x.k.size + 1) ≤ 1000000) (hlen : (glL gs ++ fnL l).length ≤ 900000000) :
    Calls Tryz.prog 11 #[.agg #[gv, fv, nv]] w fun e w' => e = .returned (.string (str (glL gs ++ fnL l))) ∧ Below w.heap.size w w' := by
  have hmf : ∀ (fn : Fn) (first cap : Array Value) (w : World), (Instr.makeFunc fn first cap).run Tryz.prog w = .ok (.func fn first cap) w := fun _ _ _ _ => rfl
  obtain ⟨ib, hib, hbz0, hbz1, hbz2⟩ := info_parts boInfo
  obtain ⟨gA, gc, rfl, hgs⟩ := hG
  obtain ⟨fA, fc, rfl, hfs⟩ := hF
  obtain ⟨nA, nc, rfl, hns⟩ := hN.sl
  have hnl := hN.len
  obtain ⟨N, hNN⟩ : ∃ N, ns.length = N := ⟨_, rfl⟩
  obtain ⟨ng, hng⟩ : ∃ n, gs.length = n := ⟨_, rfl⟩
  obtain ⟨nf, hnf⟩ : ∃ n, l.length = n := ⟨_, rfl⟩
  rw [hng] at hGl
  rw [hnf] at hFl
  rw [hng, List.length_map, hnf]
  have hnl2 : N ≤ 4000 := by omega
  obtain ⟨B, hB⟩ : ∃ B, w.heap.size = B := ⟨_, rfl⟩
  rw [hNN]
  have b0 : Blk ((w.alloc (.cells #[.slice gA ng gc, .slice fA nf fc, .slice nA N nc] tPg)).alloc (.cells #[.string .empty] 9)) w.heap.size tPg #[.slice gA ng gc, .slice fA nf fc, .slice nA N nc] := (Blk.new w tPg _).alloc _
  have b1 : Blk ((w.alloc (.cells #[.slice gA ng gc, .slice fA nf fc, .slice nA N nc] tPg)).alloc (.cells #[.string .empty] 9)) (w.heap.size + 1) 9 #[.string .empty] := by
    have := Blk.new (w.alloc (.cells #[.slice gA ng gc, .slice fA nf fc, .slice nA N nc] tPg)) 9 #[.string .empty]
    simpa using this
  have hb0 : Below w.heap.size w ((w.alloc (.cells #[.slice gA ng gc, .slice fA nf fc, .slice nA N nc] tPg)).alloc (.cells #[.string .empty] 9)) := ((Below.refl _ _).alloc (Nat.le_refl _) _).alloc (by simp) _
  have hsz0 : ((w.alloc (.cells #[.slice gA ng gc, .slice fA nf fc, .slice nA N nc] tPg)).alloc (.cells #[.string .empty] 9)).heap.size = w.heap.size + 2 := by simp
  have HH := Lib.hid (And.intro hE (And.intro hgs (And.intro hGo (And.intro hN (And.intro hfs (And.intro hP (And.intro hT (And.intro hS hlen))))))))
  have HLS := Lib.hid (And.intro hNN (And.intro hng hnf))
  have B0 := Lib.hid b0
  have B1 := Lib.hid b1
  have HB0 := Lib.hid hb0
  clear hE hgs hGo hN hfs hP hT hS hlen hns hNN hng hnf hnl
  go_enter_defers Tryz.func11, Tryz.ntmps11
  go_upto_region 2 with (fail)
  obtain ⟨W0, hW0⟩ : ∃ W0, (w.alloc (.cells #[.slice gA ng gc, .slice fA nf fc, .slice nA N nc] tPg)).alloc (.cells #[.string .empty] 9) = W0 := ⟨_, rfl⟩
  rw [hW0] at b0 b1 hb0 hsz0 B0 B1 HB0
  change Code.wp _ _ _ _ ((w.alloc (.cells #[.slice gA ng gc, .slice fA nf fc, .slice nA N nc] tPg)).alloc (.cells #[.string .empty] 9))
  rw [hW0]
  clear hW0
  have HBE : ∃ b, b = B ∧ w.heap.size = b := ⟨B, rfl, hB⟩
  obtain ⟨b, hbB, hbw⟩ := HBE
  have HBE := Lib.hid hbw
  clear hbw
  rw [hB] at b0 b1 hb0 hsz0 B0 B1 HB0 HH
  obtain ⟨p0, p1, p2, pl⟩ : _ ∧ _ ∧ _ ∧ _ := ⟨b0.cell 0, b0.cell 1, b0.cell 2, b0.lt⟩
  simp only [List.getElem?_toArray, List.getElem?_cons_zero, List.getElem?_cons_succ] at p0 p1 p2
  clear b0 b1 hb0
  obtain ⟨w2, hrun, hown, hgrow⟩ := run_make_full (P := Tryz.prog) (w := W0.drew) B 71 tBo ib (.bool false) 1 Tryz.underlying71 hib hbz0 hbz1 .i64 .i64 N (by rw [hbz2]; omega) (by unfold maxLen; omega) (by show B ≤ W0.heap.size; omega)
  rw [show W0.drew.heap.size = B + 2 from hsz0] at hrun hown
  have b2 : Blk w2 B tPg #[.slice gA ng gc, .slice fA nf fc, .slice nA N nc] := (hgrow.block B (by show B < W0.heap.size; omega) (by simp)).trans B0.out
  have p2' : w2.cell? ⟨B, 2, none⟩ = some (.slice nA N nc) := b2.cell 2
  have hsz2 := hgrow.size
  have HOWN := Lib.hid (And.intro hown (And.intro hgrow b2))
  clear hown hgrow b2
  refine wp_region_noPanic ?_
  go_region
  all_goals
    refine NoPanic.normal ?_
    have hq : B + 2 < w2.heap.size := (HOWN.out.1.lt (B + 2) rfl).2
    obtain ⟨q, hqe⟩ : ∃ q, w2.heap.size = q := ⟨_, rfl⟩
    have hWb : Wb B q (w2.alloc (.cells (wrC (.pointer none) (.slice none 0 0) false (.slice nA N nc) (.slice (some ⟨B + 2, 0, none⟩) N N)) tW)) [] false (.slice nA N nc) (.slice (some ⟨B + 2, 0, none⟩) N N) (.slice none 0 0) :=
      ⟨⟨_, .inl rfl, by rw [← hqe]; exact Blk.new w2 tW _⟩, by omega, World.ownsRowF_nil _ _ _ _⟩
    have hSb : Blk (w2.alloc (.cells (wrC (.pointer none) (.slice none 0 0) false (.slice nA N nc) (.slice (some ⟨B + 2, 0, none⟩) N N)) tW)) (B + 2) tBo (seenC (List.replicate N false)) := (made_seen HOWN.out.1).alloc _
    have hPb : Blk (w2.alloc (.cells (wrC (.pointer none) (.slice none 0 0) false (.slice nA N nc) (.slice (some ⟨B + 2, 0, none⟩) N N)) tW)) B tPg #[.slice gA ng gc, .slice fA nf fc, .slice nA N nc] := HOWN.out.2.2.alloc _
    have hRb : Blk (w2.alloc (.cells (wrC (.pointer none) (.slice none 0 0) false (.slice nA N nc) (.slice (some ⟨B + 2, 0, none⟩) N N)) tW)) (B + 1) 9 #[.string .empty] := Blk.alloc ((HOWN.out.2.1.block (B + 1) (by show B + 1 < W0.heap.size; omega) (by simp)).trans B1.out) _
    have hLow : Below B w (w2.alloc (.cells (wrC (.pointer none) (.slice none 0 0) false (.slice nA N nc) (.slice (some ⟨B + 2, 0, none⟩) N N)) tW)) := ((HB0.out.drew).grown HOWN.out.2.1 (by show B ≤ W0.heap.size; omega) (fun j e => by cases e)).alloc (by omega) _
    change Exit.then _ _ _ _ (w2.alloc (.cells (wrC (.pointer none) (.slice none 0 0) false (.slice nA N nc) (.slice (some ⟨B + 2, 0, none⟩) N N)) tW))
    rw [hqe]
    generalize w2.alloc (.cells (wrC (.pointer none) (.slice none 0 0) false (.slice nA N nc) (.slice (some ⟨B + 2, 0, none⟩) N N)) tW) = W3 at *
    have HX := Lib.hid (And.intro hWb (And.intro hSb (And.intro hPb (And.intro hRb (And.intro hLow (hqe ▸ hq))))))
    obtain ⟨s0, s1, s2, sl⟩ : _ ∧ _ ∧ _ ∧ _ := ⟨hPb.cell 0, hPb.cell 1, hPb.cell 2, hPb.lt⟩
    simp only [List.getElem?_toArray, List.getElem?_cons_zero, List.getElem?_cons_succ] at s0 s1 s2
    clear hWb hSb hPb hRb hLow hq p0 p1 p2 pl p2' hrun hsz2 HOWN HB0 B1 B0 hsz0 hqe
    go_wp2_with fail
    go_loopw [20] (fun x wr => ∃ (k : Nat) (v' : Value), k ≤ ng ∧ x = .int .i64 k ∧ Wb B q wr (glL (gs.take k)) false (.slice nA N nc) (.slice (some ⟨B + 2, 0, none⟩) N N) v' ∧ Kw B [q] W3 wr) (fun x _ => ng - (intOf x).toNat)
    case atStart => exact ⟨0, _, by omega, rfl, by simpa [glL] using HX.out.1, Kw.refl _ _ _⟩
    case round =>
      obtain ⟨k, v', hk, rfl, hW, hK⟩ := hrel
      have HW := Lib.hid hW
      have HK := Lib.hid hK
      have hwr := hW.lt
      have hBw : B ≤ wr.heap.size := by have := hW.base; omega
      clear hW hK
      by_cases hlt : k < ng
      · have hkl : k < gs.length := by rw [HLS.out.2.1]; exact hlt
        have hxi := List.getElem?_eq_getElem hkl
        have hxm := List.getElem_mem hkl
        obtain ⟨g, o, rfl, hg, hcs⟩ : ∃ g o, gA = some ⟨g, o, none⟩ ∧ g < B ∧ ∀ i x, gs[i]? = some x → ∀ j, j < 4 → w.cell? ⟨g, o + i * 4 + j, none⟩ = (glA x)[j]? := by
          rcases HH.out.2.1 with h9 | h9
          · rw [h9] at hkl; simp at hkl
          · exact h9
        have hlow : Below B w wr := HX.out.2.2.2.2.1.trans HK.out.low
        have z0 : wr.cell? ⟨g, o + k * 4, none⟩ = _ := (hlow.cell (p := ⟨g, o + k * 4, none⟩) hg).trans (hcs k _ hxi 0 (by omega))
        have z1 : wr.cell? ⟨g, o + k * 4 + 1, none⟩ = _ := (hlow.cell (p := ⟨g, o + k * 4 + 1, none⟩) hg).trans (hcs k _ hxi 1 (by omega))
        have z2 : wr.cell? ⟨g, o + k * 4 + 2, none⟩ = _ := (hlow.cell (p := ⟨g, o + k * 4 + 2, none⟩) hg).trans (hcs k _ hxi 2 (by omega))
        have z3 : wr.cell? ⟨g, o + k * 4 + 3, none⟩ = _ := (hlow.cell (p := ⟨g, o + k * 4 + 3, none⟩) hg).trans (hcs k _ hxi 3 (by omega))
        have hts : gs.take (k + 1) = gs.take k ++ [gs[k]] := List.take_succ_eq_append_getElem hkl
        have hgok := HH.out.2.2.1 _ hxm
        have hgl : g < wr.heap.size := by omega
        generalize gs[k] = x at *
        simp only [glA, List.getElem?_toArray, List.getElem?_cons_zero, List.getElem?_cons_succ] at z0 z1 z2 z3
        have hlen : (glL (gs.take k)).length ≤ 900000000 := by
          have h1 := HH.out.2.2.2.2.2.2.2.2
          have h2 : glL gs = glL (gs.take k) ++ glL (gs.drop k) := by unfold glL; rw [← List.flatMap_append, List.take_append_drop]
          rw [h2] at h1
          simp only [List.length_append] at h1
          omega
        have HWA := Lib.hid (HW.out.alloc (.cells #[.string (str x.s), .int .i64 x.ty, .int .i64 x.n, .int .i64 x.p] tG))
        have HKA := Lib.hid (HK.out.alloc hBw (.cells #[.string (str x.s), .int .i64 x.ty, .int .i64 x.n, .int .i64 x.p] tG))
        have HEA := Lib.hid (HH.out.1.below (hlow.alloc hBw (.cells #[.string (str x.s), .int .i64 x.ty, .int .i64 x.n, .int .i64 x.p] tG)))
        have HT := Lib.hid (And.intro hts (And.intro hgok hlen))
        clear hcs hkl hxi hxm hlow hts hgok hlen
        go_wp2_with fail
        refine (wglobal_any HWA.out HEA.out x HT.out.2.1 HT.out.2.2).mono ?_
        rintro e w5 ⟨rfl, v5, hW5, hK5⟩
        have HW5 := Lib.hid hW5
        have HK5 := Lib.hid (HKA.out.trans hK5)
        clear hW5 hK5 z0 z1 z2 z3
        go_wp2_with fail
        go_roundw
        case rel => exact ⟨k + 1, v5, by omega, by go_num, by rw [HT.out.1, glL_snoc]; exact HW5.out, HK5.out⟩
        case measure => simp [intOf]; omega
      · obtain rfl : k = ng := by omega
        have hfin : gs.take k = gs := by rw [← HLS.out.2.1, List.take_length]
        rw [hfin] at HW
        have hqB : B + 2 < q := HX.out.2.2.2.2.2
        have hPr : Blk wr B tPg #[.slice gA k gc, .slice fA nf fc, .slice nA N nc] := HK.out.blk HX.out.2.2.1 (by simp; omega) (by decide)
        have hRr : Blk wr (B + 1) 9 #[.string .empty] := HK.out.blk HX.out.2.2.2.1 (by simp; omega) (by decide)
        have hSr : Blk wr (B + 2) tBo (seenC (List.replicate N false)) := HK.out.blk HX.out.2.1 (by simp; omega) (by decide)
        have HLOW := Lib.hid (HX.out.2.2.2.2.1.trans HK.out.low)
        have HR2 := Lib.hid (And.intro hPr (And.intro hRr hSr))
        obtain ⟨s0, s1, s2, sl⟩ : _ ∧ _ ∧ _ ∧ _ := ⟨hPr.cell 0, hPr.cell 1, hPr.cell 2, hPr.lt⟩
        simp only [List.getElem?_toArray, List.getElem?_cons_zero, List.getElem?_cons_succ] at s0 s1 s2
        clear hPr hRr hSr hfin
        go_wp2_with fail
        generalize wr = wo at *
        go_loopw [31] (fun y wx => ∃ (i : Nat) (v' : Value) (S : List Bool), i ≤ nf ∧ y = .int .i64 i ∧ Wb B q wx (glL gs ++ fnL (l.take i)) false (.slice nA N nc) (.slice (some ⟨B + 2, 0, none⟩) N N) v' ∧ Blk wx (B + 2) tBo (seenC S) ∧ S.length = N ∧ (∀ j, ftAt 0 l i ≤ j → j < N → S[j]? = some false) ∧ Kw B [q, B + 2] wo wx) (fun y _ => nf - (intOf y).toNat)
        case atStart => exact ⟨0, v', List.replicate N false, by omega, rfl, by simpa [fnL] using HW.out, HR2.out.2.2, by simp, fun j _ hj => by simp [hj], Kw.refl _ _ _⟩
        case round =>
          obtain ⟨i, v2, S, hi, rfl, hW, hS, hSl, hSf, hK⟩ := hrel
          have HW2 := Lib.hid hW
          have HK2 := Lib.hid hK
          have HS2 := Lib.hid (And.intro hS (And.intro hSl hSf))
          have hwx := hW.lt
          have hBx : B ≤ wr.heap.size := by have := hW.base; omega
          clear hW hK hS hSl hSf
          by_cases hlt : i < nf
          · have hil : i < l.length := by rw [HLS.out.2.2]; exact hlt
            have hxi := List.getElem?_eq_getElem hil
            have hxm := List.getElem_mem hil
            obtain ⟨g, o, rfl, hg, hcs⟩ : ∃ g o, fA = some ⟨g, o, none⟩ ∧ g < B ∧ ∀ i x, (l.map fun x => (x.f, x.v))[i]? = some x → ∀ j, j < 6 → w.cell? ⟨g, o + i * 6 + j, none⟩ = (fnA x.1 x.2 x.1.b)[j]? := by
              rcases HH.out.2.2.2.2.1 with h9 | h9
              · simp at h9; rw [h9] at hil; simp at hil
              · exact h9
            have hlow : Below B w wr := HLOW.out.trans HK2.out.low
            have hci : ∀ j, j < 6 → w.cell? ⟨g, o + i * 6 + j, none⟩ = (fnA l[i].f l[i].v l[i].f.b)[j]? := hcs i (l[i].f, l[i].v) (by rw [List.getElem?_map, hxi]; rfl)
            have z0 : wr.cell? ⟨g, o + i * 6, none⟩ = _ := (hlow.cell (p := ⟨g, o + i * 6, none⟩) hg).trans (hci 0 (by omega))
            have z1 : wr.cell? ⟨g, o + i * 6 + 1, none⟩ = _ := (hlow.cell (p := ⟨g, o + i * 6 + 1, none⟩) hg).trans (hci 1 (by omega))
            have z2 : wr.cell? ⟨g, o + i * 6 + 2, none⟩ = _ := (hlow.cell (p := ⟨g, o + i * 6 + 2, none⟩) hg).trans (hci 2 (by omega))
            have z3 : wr.cell? ⟨g, o + i * 6 + 3, none⟩ = _ := (hlow.cell (p := ⟨g, o + i * 6 + 3, none⟩) hg).trans (hci 3 (by omega))
            have z4 : wr.cell? ⟨g, o + i * 6 + 4, none⟩ = _ := (hlow.cell (p := ⟨g, o + i * 6 + 4, none⟩) hg).trans (hci 4 (by omega))
            have z5 : wr.cell? ⟨g, o + i * 6 + 5, none⟩ = _ := (hlow.cell (p := ⟨g, o + i * 6 + 5, none⟩) hg).trans (hci 5 (by omega))
            have hts : l.take (i + 1) = l.take i ++ [l[i]] := List.take_succ_eq_append_getElem hil
            have hat := FTs.at l 0 i _ HH.out.2.2.2.2.2.2.1 hxi
            have hpv := (HH.out.2.2.2.2.2.1 _ hxm).below hlow
            have hsz := HH.out.2.2.2.2.2.2.2.1 _ hxm
            have hgl : g < wr.heap.size := by omega
            generalize l[i] = x at *
            simp only [fnA, List.getElem?_toArray, List.getElem?_cons_zero, List.getElem?_cons_succ] at z0 z1 z2 z3 z4 z5
            have hlen : (glL gs ++ fnL (l.take i)).length + (wl false (fnT x.f (nodeT x.h x.k.tk))).length ≤ 900000000 := by
              have h1 := HH.out.2.2.2.2.2.2.2.2
              have h2 : fnL l = fnL (l.take (i + 1)) ++ fnL (l.drop (i + 1)) := by unfold fnL; rw [← List.flatMap_append, List.take_append_drop]
              rw [h2, hts, fnL_snoc] at h1
              simp only [List.length_append] at h1 ⊢
              omega
            have hqB : B + 2 < q := HX.out.2.2.2.2.2
            obtain ⟨pA, pc, hpve, hprd⟩ := id hpv
            rw [hpve] at z2 hpv
            have HWA := Lib.hid (HW2.out.alloc (.cells (fnA x.f (.slice pA x.f.ps.length pc) x.f.b) tFn))
            have HKA := Lib.hid (HK2.out.alloc hBx (.cells (fnA x.f (.slice pA x.f.ps.length pc) x.f.b) tFn))
            have HEA := Lib.hid (HH.out.1.below (hlow.alloc hBx (.cells (fnA x.f (.slice pA x.f.ps.length pc) x.f.b) tFn)))
            have HNA := Lib.hid (HH.out.2.2.2.1.below (hlow.alloc hBx (.cells (fnA x.f (.slice pA x.f.ps.length pc) x.f.b) tFn)))
            have HSA := Lib.hid (HS2.out.1.alloc (.cells (fnA x.f (.slice pA x.f.ps.length pc) x.f.b) tFn))
            have HPA := Lib.hid (hpv.below ((Below.refl B wr).alloc hBx (.cells (fnA x.f (.slice pA x.f.ps.length pc) x.f.b) tFn)))
            have HT := Lib.hid (And.intro hts (And.intro hat (And.intro hsz hlen)))
            clear hcs hci hil hxi hxm hlow hts hat hpv hsz hlen
            clear hpve hprd
            obtain ⟨np, hnp⟩ : ∃ np, x.f.ps.length = np := ⟨_, rfl⟩
            rw [hnp] at z2 HWA HKA HEA HNA HSA HPA
            go_upto_region 11 with (fail)
            obtain ⟨WA, hWA⟩ : ∃ WA, wr.alloc (.cells (fnA x.f (.slice pA np pc) x.f.b) tFn) = WA := ⟨_, rfl⟩
            have HMA := Lib.hid (Blk.new wr tFn (fnA x.f (.slice pA np pc) x.f.b))
            change Code.wp _ _ _ _ (wr.alloc (.cells (fnA x.f (.slice pA np pc) x.f.b) tFn))
            rw [hWA] at HWA HKA HEA HNA HSA HPA HMA ⊢
            obtain ⟨q2, hq2⟩ : ∃ q2, wr.heap.size = q2 := ⟨_, rfl⟩
            rw [hq2] at HMA ⊢
            clear hWA hq2 z0 z1 z2 z3 z4 z5
            obtain ⟨m0, m1, m2, m3, m4, m5, ml⟩ : _ ∧ _ ∧ _ ∧ _ ∧ _ ∧ _ ∧ _ := ⟨HMA.out.cell 0, HMA.out.cell 1, HMA.out.cell 2, HMA.out.cell 3, HMA.out.cell 4, HMA.out.cell 5, HMA.out.lt⟩
            simp only [fnA, List.getElem?_toArray, List.getElem?_cons_zero, List.getElem?_cons_succ] at m0 m1 m2 m3 m4 m5
            go_wp2_with fail
            have hle : ns.length = N := HLS.out.1
            have hNds := HNA.out
            rw [hle] at hNds
            refine (wfunction_any HWA.out HEA.out hNds HSA.out HS2.out.2.1 hle (by omega) (by omega) x.f HT.out.2.1.2.2.2.1 _ HPA.out x.h x.k (ftAt 0 l i) HT.out.2.1.1 HT.out.2.1.2.1 HT.out.2.1.2.2.1 (fun j h1 h2 => HS2.out.2.2 j h1 (by have := HT.out.2.1.2.2.2.2.1; rw [List.length_map, hle] at this; omega)) HT.out.2.2.2 HT.out.2.2.1).mono ?_
            rintro e w5 ⟨rfl, v5, S5, hW5, hS5, hSl5, hSo5, hK5⟩
            have HW5 := Lib.hid hW5
            have HS5 := Lib.hid (And.intro hS5 (And.intro hSl5 hSo5))
            have HK5 := Lib.hid (HKA.out.trans hK5)
            clear hW5 hS5 hSl5 hSo5 hK5 m0 m1 m2 m3 m4 m5 ml hNds hle
            go_wp2_with fail
            go_roundw
            case rel => exact ⟨i + 1, v5, S5, by omega, by go_num, by rw [HT.out.1, fnL_snoc, ← List.append_assoc]; exact HW5.out, HS5.out.1, HS5.out.2.1, fun j h1 h2 => by rw [HT.out.2.1.2.2.2.2.2] at h1; rw [HS5.out.2.2 j (by omega)]; exact HS2.out.2.2 j (by omega) h2, HK5.out⟩
            case measure => simp [intOf]; omega
          · obtain rfl : i = nf := by omega
            have hfin : l.take i = l := by rw [← HLS.out.2.2, List.take_length]
            have hqB : B + 2 < q := HX.out.2.2.2.2.2
            rw [hfin] at HW2
            have HLW := Lib.hid (HLOW.out.trans HK2.out.low)
            have HRR := Lib.hid (HK2.out.blk HR2.out.2.1 (by simp; omega) (by decide))
            clear hfin
            go_wp2_with fail
            refine (str_any HW2.out).mono ?_
            rintro e w5 ⟨rfl, hK5⟩
            have hRB : Blk w5 (B + 1) 9 #[.string .empty] := hK5.blk HRR.out (by simp) (by decide)
            have c1 : w5.cell? ⟨B + 1, 0, none⟩ = some (.string .empty) := hRB.cell 0
            have f1 := hRB.frozen 0
            have hl5 : B + 1 < w5.heap.size := hRB.lt
            have HRB := Lib.hid hRB
            have HL5 := Lib.hid (HLW.out.trans hK5.low)
            clear hRB hK5
            go_wp2_with fail
            refine leaves_cons (f := 29) (args := #[.pointer (some ⟨B + 1, 0, none⟩)]) (by simp) (by simp [go_sem]) ?_
            refine (print_catch (B + 1) _).mono ?_
            rintro e u' w'' ⟨rfl, rfl, rfl⟩
            have r0 : (w5.setCell ⟨B + 1, 0, none⟩ (.string (str (glL gs ++ fnL l)))).cell? ⟨B + 1, 0, none⟩ = some (.string (str (glL gs ++ fnL l))) := (HRB.out.set_ 0 _).cell 0
            have hbl : Below B w (w5.setCell ⟨B + 1, 0, none⟩ (.string (str (glL gs ++ fnL l)))) := HL5.out.setCell (p := ⟨B + 1, 0, none⟩) (by simp) _
            generalize w5.setCell ⟨B + 1, 0, none⟩ (.string (str (glL gs ++ fnL l))) = W6 at *
            have HBL := Lib.hid hbl
            clear hbl c1 f1 hl5
            simp [Leaves, settle, results, Tryz.results11, go_sem, r0]
            rw [HBE.out, hbB]
            exact HBL.out
end Go.Proofs.YtlbjjpfhkgagiaaGreatDoor
/-! Prp -/
namespace Go.Proofs.YtlbjjpfhkgagiaaGreatDoor
open Go.RowKit Go.Shelf
set_option linter.unusedVariables false
set_option linter.unusedSimpArgs false

theorem flat_at {α : Type} (f : α → List Value) (n : Nat) (hf : ∀ x, (f x).length = n) (l : List α) : ∀ i j, j < n → (l.flatMap f)[i * n + j]? = (l[i]?).bind fun x => (f x)[j]? := by
  induction l with
  | nil => intro i j _; simp
  | cons x l ih =>
    intro i j hj
    rw [List.flatMap_cons]
    cases i with
    | zero => rw [List.getElem?_append_left (by rw [hf]; omega)]; simp
    | succ i =>
      have e : (i + 1) * n + j = n + (i * n + j) := by rw [Nat.add_mul]; omega
      rw [e, List.getElem?_append_right (by rw [hf]; omega), hf, Nat.add_sub_cancel_left, ih i j hj]
      simp
theorem flat_len {α : Type} (f : α → List Value) (n : Nat) (hf : ∀ x, (f x).length = n) (l : List α) : (l.flatMap f).length = l.length * n := by
  induction l with
  | nil => simp
  | cons x l ih => rw [List.flatMap_cons, List.length_append, hf, ih, List.length_cons, Nat.add_mul]; omega
theorem GlI.of_own {w : World} {base : Nat} {gv : Value} {gs : List Gl} (h : w.ownsRow base tG 4 gv gs.length (glCells gs)) : GlI w w.heap.size gv gs := by
  rcases h.2 with ⟨hv, h0⟩ | ⟨g, cap, cur, hv, _, hh, hnc, hcm, hsz, hcur⟩
  · exact ⟨none, 0, by rw [hv, h0], .inl (List.eq_nil_of_length_eq_zero h0)⟩
  · refine ⟨some ⟨g, 0, none⟩, cap, hv, .inr ⟨g, 0, rfl, (Array.getElem?_eq_some_iff.1 hh).1, fun i x hx j hj => ?_⟩⟩
    have hi : i < gs.length := (List.getElem?_eq_some_iff.1 hx).1
    have e1 := flat_at (fun g : Gl => (glA g).toList) 4 (fun _ => rfl) gs i j hj
    rw [hx] at e1
    simp only [Option.bind_some, Array.getElem?_toList] at e1
    rw [cell_of_row w g _ cur tG (0, 0) hh, ← e1, show gs.flatMap (fun g : Gl => (glA g).toList) = glCells gs from rfl, ← hcur, List.getElem?_take_of_lt (by omega), Array.getElem?_toList, Nat.zero_add]
theorem FnI.of_own {w : World} {base : Nat} {fv : Value} {fl : List (Fn' × Value)} (h : w.ownsRow base tFn 6 fv fl.length (fnCells fl)) : FnI w w.heap.size fv fl := by
  rcases h.2 with ⟨hv, h0⟩ | ⟨g, cap, cur, hv, _, hh, hnc, hcm, hsz, hcur⟩
  · exact ⟨none, 0, by rw [hv, h0], .inl (List.eq_nil_of_length_eq_zero h0)⟩
  · refine ⟨some ⟨g, 0, none⟩, cap, hv, .inr ⟨g, 0, rfl, (Array.getElem?_eq_some_iff.1 hh).1, fun i x hx j hj => ?_⟩⟩
    have hi : i < fl.length := (List.getElem?_eq_some_iff.1 hx).1
    have e1 := flat_at (fun x : Fn' × Value => (fnA x.1 x.2 x.1.b).toList) 6 (fun _ => rfl) fl i j hj
    rw [hx] at e1
    simp only [Option.bind_some, Array.getElem?_toList] at e1
    rw [cell_of_row w g _ cur tFn (0, 0) hh, ← e1, show fl.flatMap (fun x : Fn' × Value => (fnA x.1 x.2 x.1.b).toList) = fnCells fl from rfl, ← hcur, List.getElem?_take_of_lt (by omega), Array.getElem?_toList, Nat.zero_add]
/-- What Parse leaves is what Print reads. -/
theorem PgM.views {B : Nat} {w : World} {pg : Pg} {gv fv nv : Value} {fl : List (Fn' × Value)} {ns : List NV} (h : PgM B w pg gv fv nv fl ns) :
    GlI w w.heap.size gv pg.g ∧ FnI w w.heap.size fv fl ∧ (∀ x ∈ fl, PmI w w.heap.size x.2 x.1.ps) ∧ Nds w w.heap.size nv ns :=
  ⟨GlI.of_own h.gs, FnI.of_own h.fs, fun x hx => let ⟨_, hr⟩ := h.ps x hx; PmI.of_own hr, Nds.of_own h.rows h.nm h.kids⟩
end Go.Proofs.YtlbjjpfhkgagiaaGreatDoor
