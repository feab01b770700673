/-
  CheckRight: scalar, right and tree, of what is right. CheckRight: tree, of what is right. CheckRight's walk.
-/
import Derived.Test.YtfaoiajhoifalaaGreatDoorMu5
/-! Cmk -/
namespace Go.Proofs.YtfaoiajhoifalaaGreatDoor
open Go Go.RowKit Go.Maps
set_option linter.unusedVariables false
set_option linter.unusedSimpArgs false

set_option maxHeartbeats 1000000 in
set_option maxRecDepth 100000 in
theorem scalV_any (w : World) (a b c : Value) (a0 a1 a2 a3 a4 : Value) (vA : Option Addr) (vs : List Int) (n vc : Nat) (hn : vs.length = n) (hv : RdS w (.slice vA n vc) n (ints vs)) (j : Nat) (t1 t : Int) (hj : vs[j]? = some t1) :
    Calls Tryz.prog 72 #[.agg #[a, b, c], .agg #[a0, a1, a2, a3, a4, .slice vA n vc], .int .i64 j, .int .i64 t] w fun e w' => e = .returned (.bool (decide (t1 = t))) ∧ Below w.heap.size w w' := by
  have hl := (List.getElem?_eq_some_iff.1 hj).1
  have hu : (ints vs)[j]? = some (.int .i64 t1) := by simp [ints, hj]
  obtain ⟨g, o, rfl, hg, hx⟩ := hv.get (fun e => by rw [e] at hu; cases hu)
  have hx := hx j _ hu
  have hb : Below w.heap.size w ((w.alloc (.cells #[a, b, c] tPro)).alloc (.cells #[a0, a1, a2, a3, a4, .slice (some ⟨g, o, none⟩) n vc] tFu)) := ((Below.refl _ _).alloc (Nat.le_refl _) _).alloc (by simp) _
  have k2 := Blk.new (w.alloc (.cells #[a, b, c] tPro)) tFu #[a0, a1, a2, a3, a4, .slice (some ⟨g, o, none⟩) n vc]
  rw [show (w.alloc (.cells #[a, b, c] tPro)).heap.size = w.heap.size + 1 by simp] at k2
  have hlt : (j : Int) < n := by omega
  have hx2 := (hb.cell (p := ⟨g, o + j, none⟩) hg).trans hx
  clear hv hu hj hx
  go_enter Tryz.func72, Tryz.ntmps72
  go_upto_region 1 with (fail)
  generalize (w.alloc (.cells #[a, b, c] tPro)).alloc (.cells #[a0, a1, a2, a3, a4, .slice (some ⟨g, o, none⟩) n vc] tFu) = W at *
  have m5 : W.cell? ⟨w.heap.size + 1, 5, none⟩ = some (.slice (some ⟨g, o, none⟩) n vc) := k2.cell 5
  have ml := k2.lt
  have hgW : g < W.heap.size := Nat.lt_of_lt_of_le hg hb.size
  clear k2
  go_wp2_with fail
  go_ret
  exact ⟨rfl, hb⟩
set_option maxHeartbeats 1000000 in
set_option maxRecDepth 100000 in
theorem scalG_any (w : World) (b c : Value) (a0 a1 a2 a3 a4 a5 : Value) (gA : Option Addr) (gs : List Gl) (n gc : Nat) (hn : gs.length = n) (hn2 : n ≤ 1000000) (hv : RdS w (.slice gA n gc) n (gs.flatMap glC)) (j : Nat) (g : Gl) (t : Int) (hj : gs[j]? = some g) (h0 : g.n = 0) :
    Calls Tryz.prog 72 #[.agg #[.slice gA n gc, b, c], .agg #[a0, a1, a2, a3, a4, a5], .int .i64 (-1 - (j : Int)), .int .i64 t] w fun e w' => e = .returned (.bool (decide (g.ty = t))) ∧ Below w.heap.size w w' := by
  have hl := (List.getElem?_eq_some_iff.1 hj).1
  have hu : ∀ i, i < 4 → (gs.flatMap glC)[j * 4 + i]? = (glC g)[i]? := fun i hi => by rw [flat_at' glC 4 (fun _ => rfl) gs j i hi, hj]; rfl
  have u1 : (gs.flatMap glC)[j * 4 + 1]? = some (.int .i64 g.ty) := hu 1 (by omega)
  have u2 : (gs.flatMap glC)[j * 4 + 2]? = some (.int .i64 0) := by rw [hu 2 (by omega)]; simp [glC, h0]
  obtain ⟨x, o, rfl, hg, hx⟩ := hv.get (fun e => by rw [e] at u1; cases u1)
  have hx1 := hx _ _ u1
  have hx2 := hx _ _ u2
  have hb : Below w.heap.size w ((w.alloc (.cells #[.slice (some ⟨x, o, none⟩) n gc, b, c] tPro)).alloc (.cells #[a0, a1, a2, a3, a4, a5] tFu)) := ((Below.refl _ _).alloc (Nat.le_refl _) _).alloc (by simp) _
  have k2 := (Blk.new w tPro #[.slice (some ⟨x, o, none⟩) n gc, b, c]).alloc (.cells #[a0, a1, a2, a3, a4, a5] tFu)
  have hlt : (j : Int) < n := by omega
  have y1 : ((w.alloc (.cells #[.slice (some ⟨x, o, none⟩) n gc, b, c] tPro)).alloc (.cells #[a0, a1, a2, a3, a4, a5] tFu)).cell? ⟨x, o + j * 4 + 1, none⟩ = some (.int .i64 g.ty) := (hb.cell (p := ⟨x, _, none⟩) hg).trans hx1
  have y2 : ((w.alloc (.cells #[.slice (some ⟨x, o, none⟩) n gc, b, c] tPro)).alloc (.cells #[a0, a1, a2, a3, a4, a5] tFu)).cell? ⟨x, o + j * 4 + 2, none⟩ = some (.int .i64 0) := (hb.cell (p := ⟨x, _, none⟩) hg).trans hx2
  have hneg : ¬ (0 : Int) ≤ -1 - (j : Int) := by omega
  have hwr : IntKind.i64.wrap (-1 - (-1 - (j : Int))) = (j : Int) := by rw [show -1 - (-1 - (j : Int)) = j by omega]; exact wrap_small (by omega) (by omega)
  clear hv hu hj hx hx1 hx2 u1 u2 h0
  obtain ⟨gt, hgt⟩ : ∃ q, g.ty = q := ⟨_, rfl⟩
  rw [hgt] at y1 ⊢
  clear hgt
  go_enter Tryz.func72, Tryz.ntmps72
  go_upto_region 1 with (fail)
  generalize (w.alloc (.cells #[.slice (some ⟨x, o, none⟩) n gc, b, c] tPro)).alloc (.cells #[a0, a1, a2, a3, a4, a5] tFu) = W at *
  have m0 : W.cell? ⟨w.heap.size, 0, none⟩ = some (.slice (some ⟨x, o, none⟩) n gc) := k2.cell 0
  have ml := k2.lt
  have hgW : x < W.heap.size := Nat.lt_of_lt_of_le hg hb.size
  clear k2
  go_wp2_with fail
  go_ret
  exact ⟨rfl, hb⟩
theorem scal_any (w : World) {b c a0 a1 a2 a3 a4 : Value} {gA vA : Option Addr} {gs : List Gl} {vs : List Int} {gn gc vn vc : Nat} (hg : RdS w (.slice gA gn gc) gn (gs.flatMap glC)) (hgn : gs.length = gn) (hg2 : gn ≤ 1000000) (hv : RdS w (.slice vA vn vc) vn (ints vs)) (hvn : vs.length = vn) {rf t1 : Int} (h : Scal gs vs rf t1) (t : Int) :
    Calls Tryz.prog 72 #[.agg #[.slice gA gn gc, b, c], .agg #[a0, a1, a2, a3, a4, .slice vA vn vc], .int .i64 rf, .int .i64 t] w fun e w' => e = .returned (.bool (decide (t1 = t))) ∧ Below w.heap.size w w' := by
  rcases h with ⟨j, rfl, hj⟩ | ⟨j, g, rfl, hj, h0, rfl⟩
  · exact scalV_any w _ _ _ _ _ _ _ _ vA vs vn vc hvn hv j t1 t hj
  · exact scalG_any w _ _ _ _ _ _ _ _ gA gs gn gc hgn hg2 hg j g t hj h0
set_option maxHeartbeats 4000000 in
set_option maxRecDepth 100000 in
theorem right_any (w : World) {gs : List Gl} {fl : List (Fn' × Value)} {vls : List Value} {vs : List Int} (gA fA nA : Option Addr) (gn gc fn fc nn nc : Nat) (hg : RdS w (.slice gA gn gc) gn (gs.flatMap glC)) (hgn : gs.length = gn) (hg2 : gn ≤ 1000000)
    (hf : RdS w (.slice fA fn fc) fn (fnCs fl vls)) (hfl : fl.length = fn) (hvl : vls.length = fn) (hf2 : fn ≤ 1000000) (hps : ∀ x ∈ fl, ∃ A c, x.2 = .slice A x.1.ps.length c)
    (a0 a1 a3 a4 : Value) (pA vA : Option Addr) (pn pc vn vc : Nat) (hv : RdS w (.slice vA vn vc) vn (ints vs)) (hvn : vs.length = vn) (h : Hd) (kA : Option Addr) (kn kc : Nat) (t : Int × Int) (hr : Rt gs (fl.map (·.1)) pn vs h kn t) :
    Calls Tryz.prog 40 #[pgV gA fA nA gn gc fn fc nn nc, .agg #[a0, a1, .slice pA pn pc, a3, a4, .slice vA vn vc], .agg #[.int .i64 h.op, .int .i64 h.p, .int .i64 h.n, .string (str h.s), .int .i64 h.to, .slice kA kn kc, .int .i64 t.1, .int .i64 t.2]] w
      fun e w' => e = .returned (.bool true) ∧ Below w.heap.size w w' := by
  obtain ⟨t1, t2⟩ := t
  obtain ⟨o1, o2, o3, o4, o5, o6⟩ := h
  simp only at hr ⊢
  obtain ⟨zz, hzz⟩ : ∃ z, str o4 = z := ⟨_, rfl⟩
  have hb : Below w.heap.size w (((w.alloc (.cells #[.slice gA gn gc, .slice fA fn fc, .slice nA nn nc] tPro)).alloc (.cells #[a0, a1, .slice pA pn pc, a3, a4, .slice vA vn vc] tFu)).alloc (.cells #[.int .i64 o1, .int .i64 o2, .int .i64 o3, .string zz, .int .i64 o5, .slice kA kn kc, .int .i64 t1, .int .i64 t2] tNd)) := (((Below.refl _ _).alloc (Nat.le_refl _) _).alloc (by simp) _).alloc (by simp; omega) _
  have k0 := ((Blk.new w tPro #[.slice gA gn gc, .slice fA fn fc, .slice nA nn nc]).alloc (.cells #[a0, a1, .slice pA pn pc, a3, a4, .slice vA vn vc] tFu)).alloc (.cells #[.int .i64 o1, .int .i64 o2, .int .i64 o3, .string zz, .int .i64 o5, .slice kA kn kc, .int .i64 t1, .int .i64 t2] tNd)
  have k1 := (Blk.new (w.alloc (.cells #[.slice gA gn gc, .slice fA fn fc, .slice nA nn nc] tPro)) tFu #[a0, a1, .slice pA pn pc, a3, a4, .slice vA vn vc]).alloc (.cells #[.int .i64 o1, .int .i64 o2, .int .i64 o3, .string zz, .int .i64 o5, .slice kA kn kc, .int .i64 t1, .int .i64 t2] tNd)
  have k2 := Blk.new ((w.alloc (.cells #[.slice gA gn gc, .slice fA fn fc, .slice nA nn nc] tPro)).alloc (.cells #[a0, a1, .slice pA pn pc, a3, a4, .slice vA vn vc] tFu)) tNd #[.int .i64 o1, .int .i64 o2, .int .i64 o3, .string zz, .int .i64 o5, .slice kA kn kc, .int .i64 t1, .int .i64 t2]
  rw [show (w.alloc (.cells #[.slice gA gn gc, .slice fA fn fc, .slice nA nn nc] tPro)).heap.size = w.heap.size + 1 by simp] at k1
  rw [show ((w.alloc (.cells #[.slice gA gn gc, .slice fA fn fc, .slice nA nn nc] tPro)).alloc (.cells #[a0, a1, .slice pA pn pc, a3, a4, .slice vA vn vc] tFu)).heap.size = w.heap.size + 1 + 1 by simp] at k2
  have HX := Lib.hid (And.intro hr (And.intro hzz (And.intro (And.intro hgn hg2) (And.intro hfl (And.intro hvl (And.intro hps hvn))))))
  have HV := Lib.hid (And.intro hg (And.intro hf hv))
  rw [hzz]
  have hop := hr.op
  simp only at hop
  have hbs := hb.size
  clear hr hzz hgn hg2 hg hf hfl hvl hf2 hps hv hvn
  go_enter Tryz.func40, Tryz.ntmps40
  go_upto_region 1 with (fail)
  have hg := HV.out.1.on hb
  have hf := HV.out.2.1.on hb
  have hv := HV.out.2.2.on hb
  obtain ⟨H, hH⟩ : ∃ x, w.heap.size = x := ⟨_, rfl⟩
  rw [hH] at k0 k1 k2
  generalize ((w.alloc (.cells #[.slice gA gn gc, .slice fA fn fc, .slice nA nn nc] tPro)).alloc (.cells #[a0, a1, .slice pA pn pc, a3, a4, .slice vA vn vc] tFu)).alloc (.cells #[.int .i64 o1, .int .i64 o2, .int .i64 o3, .string zz, .int .i64 o5, .slice kA kn kc, .int .i64 t1, .int .i64 t2] tNd) = W at *
  have m00 : W.cell? ⟨H, 0, none⟩ = some (.slice gA gn gc) := k0.cell 0
  have m01 : W.cell? ⟨H, 1, none⟩ = some (.slice fA fn fc) := k0.cell 1
  have m02 : W.cell? ⟨H, 2, none⟩ = some (.slice nA nn nc) := k0.cell 2
  have m10 : W.cell? ⟨H + 1, 0, none⟩ = some a0 := k1.cell 0
  have m11 : W.cell? ⟨H + 1, 1, none⟩ = some a1 := k1.cell 1
  have m12 : W.cell? ⟨H + 1, 2, none⟩ = some (.slice pA pn pc) := k1.cell 2
  have m13 : W.cell? ⟨H + 1, 3, none⟩ = some a3 := k1.cell 3
  have m14 : W.cell? ⟨H + 1, 4, none⟩ = some a4 := k1.cell 4
  have m15 : W.cell? ⟨H + 1, 5, none⟩ = some (.slice vA vn vc) := k1.cell 5
  have m20 : W.cell? ⟨H + 1 + 1, 0, none⟩ = some (.int .i64 o1) := k2.cell 0
  have m23 : W.cell? ⟨H + 1 + 1, 3, none⟩ = some (.string zz) := k2.cell 3
  have m24 : W.cell? ⟨H + 1 + 1, 4, none⟩ = some (.int .i64 o5) := k2.cell 4
  have m25 : W.cell? ⟨H + 1 + 1, 5, none⟩ = some (.slice kA kn kc) := k2.cell 5
  have m26 : W.cell? ⟨H + 1 + 1, 6, none⟩ = some (.int .i64 t1) := k2.cell 6
  have m27 : W.cell? ⟨H + 1 + 1, 7, none⟩ = some (.int .i64 t2) := k2.cell 7
  have l0 := k0.lt
  have l1 := k1.lt
  have l2 := k2.lt
  have HB := Lib.hid hb
  have HW := Lib.hid (And.intro hg (And.intro hf hv))
  have HK := Lib.hid (And.intro k0 (And.intro k1 k2))
  have HH := Lib.hid hH
  simp only [hH]
  clear hb k0 k1 k2 hg hf hv HV hbs hH
  have hcs : o1 = 2 ∨ o1 = 13 ∨ o1 = 12 ∨ o1 = 3 ∨ o1 = 14 ∨ o1 = 7 ∨ (o1 = 5 ∨ o1 = 4 ∨ o1 = 6 ∨ o1 = 1 ∨ o1 = 8) ∨ (o1 = 11 ∨ o1 = 15 ∨ o1 = 16 ∨ o1 = 17 ∨ o1 = 18 ∨ o1 = 19 ∨ o1 = 20 ∨ o1 = 21) := by omega
  clear hop
  rcases hcs with rfl | rfl | rfl | rfl | rfl | rfl | hcs | hcs
  · -- EName
    have HC := Lib.hid (scal_any (b := .slice fA fn fc) (c := .slice nA nn nc) (a0 := a0) (a1 := a1) (a2 := .slice pA pn pc) (a3 := a3) (a4 := a4) W HW.out.1 HX.out.2.2.1.1 HX.out.2.2.1.2 HW.out.2.2 HX.out.2.2.2.2.2.2 (HX.out.1.nm rfl) t1)
    simp only at HC
    go_wp2_with fail
    refine HC.out.mono ?_
    clear HC
    rintro e w1 ⟨rfl, hb1⟩
    have HB1 := Lib.hid (HB.out.trans (hb1.mono HB.out.size))
    clear hb1
    go_wp2_with fail
    go_ret
    exact ⟨by simp, HB1.out⟩
  · -- SAssign
    rcases HX.out.1.sg rfl with hs | hs
    · have HC := Lib.hid (scal_any (b := .slice fA fn fc) (c := .slice nA nn nc) (a0 := a0) (a1 := a1) (a2 := .slice pA pn pc) (a3 := a3) (a4 := a4) W HW.out.1 HX.out.2.2.1.1 HX.out.2.2.1.2 HW.out.2.2 HX.out.2.2.2.2.2.2 hs 1)
      simp only at HC
      clear hs
      go_wp2_with fail
      refine HC.out.mono ?_
      clear HC
      rintro e w1 ⟨rfl, hb1⟩
      have HB1 := Lib.hid (HB.out.trans (hb1.mono HB.out.size))
      clear hb1
      go_wp2_with fail
      go_ret
      exact ⟨by simp, HB1.out⟩
    · have HC := Lib.hid (scal_any (b := .slice fA fn fc) (c := .slice nA nn nc) (a0 := a0) (a1 := a1) (a2 := .slice pA pn pc) (a3 := a3) (a4 := a4) W HW.out.1 HX.out.2.2.1.1 HX.out.2.2.1.2 HW.out.2.2 HX.out.2.2.2.2.2.2 hs 1)
      have HC2 : Hid (∀ W', Below W.heap.size W W' → Calls Tryz.prog 72 #[.agg #[.slice gA gn gc, .slice fA fn fc, .slice nA nn nc], .agg #[a0, a1, .slice pA pn pc, a3, a4, .slice vA vn vc], .int .i64 t2, .int .i64 2] W' fun e w' => e = .returned (.bool true) ∧ Below W.heap.size W w') := Lib.hid fun W' hW' =>
        (scal_any (b := .slice fA fn fc) (c := .slice nA nn nc) (a0 := a0) (a1 := a1) (a2 := .slice pA pn pc) (a3 := a3) (a4 := a4) W' (HW.out.1.on hW') HX.out.2.2.1.1 HX.out.2.2.1.2 (HW.out.2.2.on hW') HX.out.2.2.2.2.2.2 hs 2).mono fun e w' h => ⟨by simpa using h.1, hW'.trans (h.2.mono hW'.size)⟩
      simp only at HC HC2
      clear hs
      go_wp2_with fail
      refine HC.out.mono ?_
      clear HC
      rintro e w1 ⟨rfl, hb1⟩
      have n00 : w1.cell? ⟨H, 0, none⟩ = some (.slice gA gn gc) := (hb1.cell (p := ⟨H, 0, none⟩) l0).trans m00
      have n01 : w1.cell? ⟨H, 1, none⟩ = some (.slice fA fn fc) := (hb1.cell (p := ⟨H, 1, none⟩) l0).trans m01
      have n02 : w1.cell? ⟨H, 2, none⟩ = some (.slice nA nn nc) := (hb1.cell (p := ⟨H, 2, none⟩) l0).trans m02
      have n10 : w1.cell? ⟨H + 1, 0, none⟩ = some a0 := (hb1.cell (p := ⟨H + 1, 0, none⟩) l1).trans m10
      have n11 : w1.cell? ⟨H + 1, 1, none⟩ = some a1 := (hb1.cell (p := ⟨H + 1, 1, none⟩) l1).trans m11
      have n12 : w1.cell? ⟨H + 1, 2, none⟩ = some (.slice pA pn pc) := (hb1.cell (p := ⟨H + 1, 2, none⟩) l1).trans m12
      have n13 : w1.cell? ⟨H + 1, 3, none⟩ = some a3 := (hb1.cell (p := ⟨H + 1, 3, none⟩) l1).trans m13
      have n14 : w1.cell? ⟨H + 1, 4, none⟩ = some a4 := (hb1.cell (p := ⟨H + 1, 4, none⟩) l1).trans m14
      have n15 : w1.cell? ⟨H + 1, 5, none⟩ = some (.slice vA vn vc) := (hb1.cell (p := ⟨H + 1, 5, none⟩) l1).trans m15
      have n27 : w1.cell? ⟨H + 1 + 1, 7, none⟩ = some (.int .i64 t2) := (hb1.cell (p := ⟨H + 1 + 1, 7, none⟩) l2).trans m27
      have j0 : H < w1.heap.size := Nat.lt_of_lt_of_le l0 hb1.size
      have j1 : H + 1 < w1.heap.size := Nat.lt_of_lt_of_le l1 hb1.size
      have j2 : H + 1 + 1 < w1.heap.size := Nat.lt_of_lt_of_le l2 hb1.size
      have HC3 := Lib.hid (HC2.out w1 hb1)
      have d0 : decide ((2 : Int) = 1) = false := by decide
      clear hb1 HC2 m00 m01 m02 m10 m11 m12 m13 m14 m15 m20 m23 m24 m25 m26 m27 l0 l1 l2
      go_wp2_with fail
      refine HC3.out.mono ?_
      clear HC3
      rintro e w2 ⟨rfl, hb2⟩
      have HB2 := Lib.hid (HB.out.trans (hb2.mono HB.out.size))
      clear hb2
      go_wp2_with fail
      go_ret
      exact ⟨by simp, HB2.out⟩
  · -- SLocal
    obtain ⟨hpl, hs⟩ := HX.out.1.lo rfl
    simp only at hpl hs
    have HC := Lib.hid (scal_any (b := .slice fA fn fc) (c := .slice nA nn nc) (a0 := a0) (a1 := a1) (a2 := .slice pA pn pc) (a3 := a3) (a4 := a4) W HW.out.1 HX.out.2.2.1.1 HX.out.2.2.1.2 HW.out.2.2 HX.out.2.2.2.2.2.2 hs o5)
    simp only at HC
    clear hs
    go_wp2_with fail
    refine HC.out.mono ?_
    clear HC
    rintro e w1 ⟨rfl, hb1⟩
    have HB1 := Lib.hid (HB.out.trans (hb1.mono HB.out.size))
    clear hb1
    go_wp2_with fail
    go_ret
    exact ⟨by simp, HB1.out⟩
  · -- EIndex
    obtain ⟨j, g, rfl, hj, hn1, hs, hty⟩ := HX.out.1.ar (.inl rfl)
    simp only at hj hs
    have hjl := (List.getElem?_eq_some_iff.1 hj).1
    have hu : ∀ i, i < 4 → (gs.flatMap glC)[j * 4 + i]? = (glC g)[i]? := fun i hi => by rw [flat_at' glC 4 (fun _ => rfl) gs j i hi, hj]; rfl
    obtain ⟨g1, g2, g3, g4⟩ := g
    simp only at hs hn1
    have hty : t1 = 2 ↔ g2 = 2 := by simpa using hty
    have u0 : (gs.flatMap glC)[j * 4]? = some (.string zz) := by have h9 := hu 0 (by omega); rw [Nat.add_zero] at h9; rw [h9, ← HX.out.2.1, ← hs]; rfl
    have u1 : (gs.flatMap glC)[j * 4 + 1]? = some (.int .i64 g2) := hu 1 (by omega)
    have u2 : (gs.flatMap glC)[j * 4 + 2]? = some (.int .i64 g3) := hu 2 (by omega)
    obtain ⟨x, o, rfl, hx, hc⟩ := HW.out.1.get (fun e => by rw [e] at u1; cases u1)
    have y0 : W.cell? ⟨x, o + j * 4, none⟩ = _ := hc _ _ u0
    have y1 : W.cell? ⟨x, o + j * 4 + 1, none⟩ = _ := hc _ _ u1
    have y2 : W.cell? ⟨x, o + j * 4 + 2, none⟩ = _ := hc _ _ u2
    have hjn : (j : Int) < gn := by have := HX.out.2.2.1.1; omega
    have q1 : decide ((j : Int) < 0) = false := by simp
    have q2 : decide ((gn : Int) ≤ (j : Int)) = false := by simp; omega
    have q2b : decide (gn ≤ j) = false := by simp; omega
    have q2c : decide ((j : Int) ≥ (gn : Int)) = false := by simp; omega
    have q3 : decide (g3 < 1) = false := by simpa using (show ¬ g3 < 1 by omega)
    have q5 : (t1 == 2) = (g2 == 2) := by rw [Bool.eq_iff_iff]; simpa using hty
    have HQ := Lib.hid q5
    clear hu u0 u1 u2 hc hty hs hn1 hj hjl q5
    go_upto_region 10 with (fail)
    go_region
    go_upto_region 12 with (fail)
    go_region
    go_wp2_with fail
    go_ret
    exact ⟨by simp [HQ.out], (by first | exact HB.out | exact HB.out.drew | exact HB.out.drew.drew)⟩
  · -- SStore
    obtain ⟨j, g, rfl, hj, hn1, hs, hty⟩ := HX.out.1.ar (.inr rfl)
    simp only at hj hs
    have hjl := (List.getElem?_eq_some_iff.1 hj).1
    have hu : ∀ i, i < 4 → (gs.flatMap glC)[j * 4 + i]? = (glC g)[i]? := fun i hi => by rw [flat_at' glC 4 (fun _ => rfl) gs j i hi, hj]; rfl
    obtain ⟨g1, g2, g3, g4⟩ := g
    simp only at hs hn1
    clear hty
    have u0 : (gs.flatMap glC)[j * 4]? = some (.string zz) := by have h9 := hu 0 (by omega); rw [Nat.add_zero] at h9; rw [h9, ← HX.out.2.1, ← hs]; rfl
    have u1 : (gs.flatMap glC)[j * 4 + 1]? = some (.int .i64 g2) := hu 1 (by omega)
    have u2 : (gs.flatMap glC)[j * 4 + 2]? = some (.int .i64 g3) := hu 2 (by omega)
    obtain ⟨x, o, rfl, hx, hc⟩ := HW.out.1.get (fun e => by rw [e] at u1; cases u1)
    have y0 : W.cell? ⟨x, o + j * 4, none⟩ = _ := hc _ _ u0
    have y1 : W.cell? ⟨x, o + j * 4 + 1, none⟩ = _ := hc _ _ u1
    have y2 : W.cell? ⟨x, o + j * 4 + 2, none⟩ = _ := hc _ _ u2
    have hjn : (j : Int) < gn := by have := HX.out.2.2.1.1; omega
    have q1 : decide ((j : Int) < 0) = false := by simp
    have q2 : decide ((gn : Int) ≤ (j : Int)) = false := by simp; omega
    have q2b : decide (gn ≤ j) = false := by simp; omega
    have q2c : decide ((j : Int) ≥ (gn : Int)) = false := by simp; omega
    have q3 : decide (g3 < 1) = false := by simpa using (show ¬ g3 < 1 by omega)
    clear hu u0 u1 u2 hc hs hn1 hj hjl
    go_upto_region 10 with (fail)
    go_region
    go_upto_region 12 with (fail)
    go_region
    go_wp2_with fail
    go_ret
    exact ⟨by simp, (by first | exact HB.out | exact HB.out.drew | exact HB.out.drew.drew)⟩
  · -- ECall
    obtain ⟨j, f, rfl, hj, hs, hty, hkn⟩ := HX.out.1.ca rfl
    simp only at hj hs hty hkn
    rw [List.getElem?_map] at hj
    obtain ⟨⟨f', pv⟩, hx, hfe⟩ : ∃ x, fl[j]? = some x ∧ x.1 = f := by
      cases hx : fl[j]? with
      | none => rw [hx] at hj; cases hj
      | some x => rw [hx] at hj; exact ⟨x, rfl, Option.some.inj hj⟩
    simp only at hfe
    subst hfe
    have hjl := (List.getElem?_eq_some_iff.1 hx).1
    obtain ⟨v, hvj⟩ : ∃ v, vls[j]? = some v := ⟨_, List.getElem?_eq_getElem (by have := HX.out.2.2.2.1; have := HX.out.2.2.2.2.1; omega)⟩
    obtain ⟨A, c, hpv⟩ := HX.out.2.2.2.2.2.1 _ (List.mem_of_getElem? hx)
    simp only at hpv
    subst hpv
    have hu := fun i hi => fnCs_at fl vls j i hi hx hvj
    obtain ⟨f1, f2, f3, f4, f5⟩ := f'
    simp only at hs hty hkn
    have u0 : (fnCs fl vls)[j * 6]? = some (.string zz) := by have h9 := hu 0 (by omega); rw [Nat.add_zero] at h9; rw [h9, ← HX.out.2.1, ← hs]; rfl
    have u1 : (fnCs fl vls)[j * 6 + 1]? = some (.int .i64 t1) := by rw [hu 1 (by omega), ← hty]; rfl
    have u2 : (fnCs fl vls)[j * 6 + 2]? = some (.slice A kn c) := by rw [hu 2 (by omega), ← hkn]; rfl
    obtain ⟨x, o, rfl, hxl, hc⟩ := HW.out.2.1.get (fun e => by rw [e] at u1; cases u1)
    have y0 : W.cell? ⟨x, o + j * 6, none⟩ = _ := hc _ _ u0
    have y1 : W.cell? ⟨x, o + j * 6 + 1, none⟩ = _ := hc _ _ u1
    have y2 : W.cell? ⟨x, o + j * 6 + 2, none⟩ = _ := hc _ _ u2
    have hjn : (j : Int) < fn := by have := HX.out.2.2.2.1; omega
    have q1 : decide ((j : Int) ≥ 0) = true := by simp
    have q1b : decide (0 ≤ (j : Int)) = true := by simp
    have q2 : decide ((j : Int) < (fn : Int)) = true := by simp; omega
    have q2b : decide (j < fn) = true := by simp; omega
    clear hu u0 u1 u2 hc hs hj hjl hx hvj hty hkn
    go_upto_region 14 with (fail)
    go_region
    go_wp2_with fail
    go_ret
    exact ⟨by simp, (by first | exact HB.out | exact HB.out.drew | exact HB.out.drew.drew)⟩
  · -- values
    have ht := HX.out.1.ex hcs
    simp only at ht
    rcases hcs with rfl | rfl | rfl | rfl | rfl <;> rcases ht with rfl | rfl
    all_goals
      go_wp2_with fail
      go_ret
      exact ⟨by simp, HB.out⟩
  · -- statements
    have ht := HX.out.1.st (by simp only; omega)
    simp only at ht
    subst ht
    rcases hcs with rfl | rfl | rfl | rfl | rfl | rfl | rfl | rfl
    all_goals
      go_wp2_with fail
      go_ret
      exact ⟨by simp, HB.out⟩
end Go.Proofs.YtfaoiajhoifalaaGreatDoor
/-! Cml -/
namespace Go.Proofs.YtfaoiajhoifalaaGreatDoor
open Go Go.RowKit Go.Maps
set_option linter.unusedVariables false
set_option linter.unusedSimpArgs false

/-- What tree needs in memory: a checked program, and a function's variables. -/
structure TrIn (w : World) (gA fA nA : Option Addr) (gn gc fn fc nn nc : Nat) (pg : Pg) (fl : List (Fn' × Value)) (vls : List Value) (ns : List CN) (tr : List (Int × Int)) (vA : Option Addr) (vn vc : Nat) (z : List Int) : Prop where
  g : RdS w (.slice gA gn gc) gn (pg.g.flatMap glC)
  gl : pg.g.length = gn
  g2 : gn ≤ 1000000
  f : RdS w (.slice fA fn fc) fn (fnCs fl vls)
  lf : fl.length = fn
  lv : vls.length = fn
  f2 : fn ≤ 1000000
  ps : ∀ x ∈ fl, ∃ A c, x.2 = .slice A x.1.ps.length c
  fe : fl.map (·.1) = pg.f
  n : RdS w (.slice nA nn nc) nn (cellsTr ns tr)
  nl : ns.length = nn
  lt : tr.length = nn
  n2 : nn ≤ 1000000
  ks : ∀ x ∈ ns, RdS w x.v x.kids.length (ints (natI x.kids))
  k2 : ∀ x ∈ ns, x.kids.length ≤ 1000000
  ne : ns.map CN.nd = pg.t.flat 0
  v : RdS w (.slice vA vn vc) vn (ints z)
  vz : z.length = vn
theorem TrIn.on {w w' : World} {gA fA nA : Option Addr} {gn gc fn fc nn nc : Nat} {pg : Pg} {fl : List (Fn' × Value)} {vls : List Value} {ns : List CN} {tr : List (Int × Int)} {vA : Option Addr} {vn vc : Nat} {z : List Int} (h : TrIn w gA fA nA gn gc fn fc nn nc pg fl vls ns tr vA vn vc z) (hb : Below w.heap.size w w') :
    TrIn w' gA fA nA gn gc fn fc nn nc pg fl vls ns tr vA vn vc z :=
  { h with g := h.g.on hb, f := h.f.on hb, n := h.n.on hb, ks := fun x hx => (h.ks x hx).on hb, v := h.v.on hb }
set_option maxHeartbeats 4000000 in
set_option maxRecDepth 100000 in
theorem tree_any {w : World} {gA fA nA : Option Addr} {gn gc fn fc nn nc : Nat} {pg : Pg} {fl : List (Fn' × Value)} {vls : List Value} {ns : List CN} {tr : List (Int × Int)} {vA : Option Addr} {vn vc : Nat} {z : List Int} (hI : TrIn w gA fA nA gn gc fn fc nn nc pg fl vls ns tr vA vn vc z) (a0 a1 a3 a4 : Value) (pA : Option Addr) (pn pc : Nat) (F : Fo) :
    ∀ (d : Nat), (∀ m n, (F.flat d)[m]? = some n → (pg.t.flat 0)[d + m]? = some n) → RtF pg.g pg.f pn z tr F d → ∀ (i a : Nat), (F.roots d)[i]? = some a → ∀ W, Below w.heap.size w W →
    Calls Tryz.prog 15 #[pgV gA fA nA gn gc fn fc nn nc, .agg #[a0, a1, .slice pA pn pc, a3, a4, .slice vA vn vc], .int .i64 a] W fun e w' => e = .returned (.bool true) ∧ Below W.heap.size W w' := by
  induction F with
  | nil => intro d _ _ i a ha; simp [Fo.roots] at ha
  | cons h k r ih1 ih2 =>
    intro d hseg hrt i a ha W hW
    cases i with
    | succ i =>
      rw [Fo.roots, List.getElem?_cons_succ] at ha
      refine ih2 (d + k.size + 1) (fun m n hn => ?_) (fun m n hn => ?_) i a ha W hW
      · rw [show d + k.size + 1 + m = d + (k.size + 1 + m) by omega]
        exact hseg _ _ (by rw [flat_rest]; exact hn)
      · rw [show d + k.size + 1 + m = d + (k.size + 1 + m) by omega]
        exact hrt _ _ (by rw [flat_rest]; exact hn)
    | zero =>
      rw [Fo.roots, List.getElem?_cons_zero, Option.some.injEq] at ha
      subst ha
      have IH : Hid (∀ (i a : Nat), (k.roots d)[i]? = some a → ∀ W, Below w.heap.size w W → Calls Tryz.prog 15 #[pgV gA fA nA gn gc fn fc nn nc, .agg #[a0, a1, .slice pA pn pc, a3, a4, .slice vA vn vc], .int .i64 a] W fun e w' => e = .returned (.bool true) ∧ Below W.heap.size W w') :=
        Lib.hid (ih1 d (fun m n hn => hseg m n (flat_kid hn)) (fun m n hn => hrt m n (flat_kid hn)))
      clear ih1 ih2
      obtain ⟨t, ht, hR⟩ := hrt _ _ (flat_me (h := h) (k := k) (r := r) (c := d))
      have hnd := hseg _ _ (flat_me (h := h) (k := k) (r := r) (c := d))
      simp only at hR
      clear hseg hrt
      generalize d + k.size = a at *
      rw [← hI.ne, List.getElem?_map] at hnd
      obtain ⟨⟨xh, xk, xv⟩, hx, hxe⟩ : ∃ x, ns[a]? = some x ∧ x.nd = ⟨h, k.roots d⟩ := by
        cases hx : ns[a]? with
        | none => rw [hx] at hnd; cases hnd
        | some x => rw [hx] at hnd; exact ⟨x, rfl, Option.some.inj hnd⟩
      simp only [CN.nd, Nd.mk.injEq] at hxe
      obtain ⟨rfl, rfl⟩ := hxe
      have hI2 := hI.on hW
      have hal : a < nn := by have := (List.getElem?_eq_some_iff.1 hx).1; have := hI.nl; omega
      have hkr := hI2.ks _ (List.mem_of_getElem? hx)
      have hk2 := hI2.k2 _ (List.mem_of_getElem? hx)
      simp only at hkr hk2
      obtain ⟨kl, hkl⟩ : ∃ l, k.roots d = l := ⟨_, rfl⟩
      rw [hkl] at hkr hk2 hR
      have hc := fun j hj => cellsTr_at ns tr a j hj hx ht
      obtain ⟨kn, hkn⟩ : ∃ n, kl.length = n := ⟨_, rfl⟩
      rw [hkn] at hkr hk2 hR
      obtain ⟨kA, kc, rfl⟩ := hkr.shape
      obtain ⟨t1, t2⟩ := t
      obtain ⟨o1, o2, o3, o4, o5, o6⟩ := xh
      have e0 : (cellsTr ns tr)[a * 8]? = some (.int .i64 o1) := hc 0 (by omega)
      obtain ⟨g, o, rfl, hg, hr1⟩ := hI2.n.get (fun e => by rw [e] at e0; cases e0)
      have hb : Below W.heap.size W ((W.alloc (.cells #[.slice gA gn gc, .slice fA fn fc, .slice (some ⟨g, o, none⟩) nn nc] tPro)).alloc (.cells #[a0, a1, .slice pA pn pc, a3, a4, .slice vA vn vc] tFu)) := ((Below.refl _ _).alloc (Nat.le_refl _) _).alloc (by simp) _
      have k0 := (Blk.new W tPro #[.slice gA gn gc, .slice fA fn fc, .slice (some ⟨g, o, none⟩) nn nc]).alloc (.cells #[a0, a1, .slice pA pn pc, a3, a4, .slice vA vn vc] tFu)
      have k1 := Blk.new (W.alloc (.cells #[.slice gA gn gc, .slice fA fn fc, .slice (some ⟨g, o, none⟩) nn nc] tPro)) tFu #[a0, a1, .slice pA pn pc, a3, a4, .slice vA vn vc]
      rw [show (W.alloc (.cells #[.slice gA gn gc, .slice fA fn fc, .slice (some ⟨g, o, none⟩) nn nc] tPro)).heap.size = W.heap.size + 1 by simp] at k1
      have hsz : ((W.alloc (.cells #[.slice gA gn gc, .slice fA fn fc, .slice (some ⟨g, o, none⟩) nn nc] tPro)).alloc (.cells #[a0, a1, .slice pA pn pc, a3, a4, .slice vA vn vc] tFu)).heap.size = W.heap.size + 1 + 1 := by simp
      have HX := Lib.hid (And.intro hI2 (And.intro hR (And.intro hW (And.intro hkl (And.intro hkn hkr)))))
      have HC := Lib.hid hc
      have HR1 := Lib.hid hr1
      have hai : (a : Int) < nn := by omega
      clear hI2 hR hW hkl hkn hkr hI hc hr1 e0 hx ht hnd
      go_enter Tryz.func15, Tryz.ntmps15
      go_upto_region 1 with (fail)
      have y0 := (hb.cell (p := ⟨g, o + a * 8, none⟩) hg).trans (HR1.out _ _ (HC.out 0 (by omega)))
      have y1 := (hb.cell (p := ⟨g, o + a * 8 + 1, none⟩) hg).trans (HR1.out _ _ (HC.out 1 (by omega)))
      have y2 := (hb.cell (p := ⟨g, o + a * 8 + 2, none⟩) hg).trans (HR1.out _ _ (HC.out 2 (by omega)))
      have y3 := (hb.cell (p := ⟨g, o + a * 8 + 3, none⟩) hg).trans (HR1.out _ _ (HC.out 3 (by omega)))
      have y4 := (hb.cell (p := ⟨g, o + a * 8 + 4, none⟩) hg).trans (HR1.out _ _ (HC.out 4 (by omega)))
      have y5 := (hb.cell (p := ⟨g, o + a * 8 + 5, none⟩) hg).trans (HR1.out _ _ (HC.out 5 (by omega)))
      have y6 := (hb.cell (p := ⟨g, o + a * 8 + 6, none⟩) hg).trans (HR1.out _ _ (HC.out 6 (by omega)))
      have y7 := (hb.cell (p := ⟨g, o + a * 8 + 7, none⟩) hg).trans (HR1.out _ _ (HC.out 7 (by omega)))
      simp only [cellT, List.getElem?_cons_zero, List.getElem?_cons_succ] at y0 y1 y2 y3 y4 y5 y6 y7
      have hbs := hb.size
      obtain ⟨H, hH⟩ : ∃ x, W.heap.size = x := ⟨_, rfl⟩
      rw [hH] at k0 k1 hsz
      generalize (W.alloc (.cells #[.slice gA gn gc, .slice fA fn fc, .slice (some ⟨g, o, none⟩) nn nc] tPro)).alloc (.cells #[a0, a1, .slice pA pn pc, a3, a4, .slice vA vn vc] tFu) = W1 at *
      have m02 : W1.cell? ⟨H, 2, none⟩ = some (.slice (some ⟨g, o, none⟩) nn nc) := k0.cell 2
      have l0 := k0.lt
      have hgl : g < W1.heap.size := Nat.lt_of_lt_of_le hg hbs
      have HB := Lib.hid hb
      have HK := Lib.hid (And.intro k0 k1)
      have HH := Lib.hid hH
      simp only [hH]
      clear hb k0 k1 hbs hg hH
      go_upto_region 2 with (fail)
      have hb2 : Below W1.heap.size W1 (W1.alloc (.cells #[.int .i64 o1, .int .i64 o2, .int .i64 o3, .string (str o4), .int .i64 o5, .slice kA kn kc, .int .i64 t1, .int .i64 t2] tNd)) := (Below.refl _ _).alloc (Nat.le_refl _) _
      have k2 := Blk.new W1 tNd #[.int .i64 o1, .int .i64 o2, .int .i64 o3, .string (str o4), .int .i64 o5, .slice kA kn kc, .int .i64 t1, .int .i64 t2]
      have hB2 := HB.out.trans (hb2.mono HB.out.size)
      have k0' := HK.out.1.below hb2 HK.out.1.lt
      have k1' := HK.out.2.below hb2 HK.out.2.lt
      rw [hsz] at k2
      try simp only [hsz]
      clear hb2 y0 y1 y2 y3 y4 y5 y6 y7 m02 l0 hgl HK HB
      generalize W1.alloc (.cells #[.int .i64 o1, .int .i64 o2, .int .i64 o3, .string (str o4), .int .i64 o5, .slice kA kn kc, .int .i64 t1, .int .i64 t2] tNd) = W2 at *
      have m00 : W2.cell? ⟨H, 0, none⟩ = some (.slice gA gn gc) := k0'.cell 0
      have m01 : W2.cell? ⟨H, 1, none⟩ = some (.slice fA fn fc) := k0'.cell 1
      have m02 : W2.cell? ⟨H, 2, none⟩ = some (.slice (some ⟨g, o, none⟩) nn nc) := k0'.cell 2
      have m10 : W2.cell? ⟨H + 1, 0, none⟩ = some a0 := k1'.cell 0
      have m11 : W2.cell? ⟨H + 1, 1, none⟩ = some a1 := k1'.cell 1
      have m12 : W2.cell? ⟨H + 1, 2, none⟩ = some (.slice pA pn pc) := k1'.cell 2
      have m13 : W2.cell? ⟨H + 1, 3, none⟩ = some a3 := k1'.cell 3
      have m14 : W2.cell? ⟨H + 1, 4, none⟩ = some a4 := k1'.cell 4
      have m15 : W2.cell? ⟨H + 1, 5, none⟩ = some (.slice vA vn vc) := k1'.cell 5
      have m20 : W2.cell? ⟨H + 1 + 1, 0, none⟩ = some (.int .i64 o1) := k2.cell 0
      have m21 : W2.cell? ⟨H + 1 + 1, 1, none⟩ = some (.int .i64 o2) := k2.cell 1
      have m22 : W2.cell? ⟨H + 1 + 1, 2, none⟩ = some (.int .i64 o3) := k2.cell 2
      have m23 : W2.cell? ⟨H + 1 + 1, 3, none⟩ = some (.string (str o4)) := k2.cell 3
      have m24 : W2.cell? ⟨H + 1 + 1, 4, none⟩ = some (.int .i64 o5) := k2.cell 4
      have m25 : W2.cell? ⟨H + 1 + 1, 5, none⟩ = some (.slice kA kn kc) := k2.cell 5
      have m26 : W2.cell? ⟨H + 1 + 1, 6, none⟩ = some (.int .i64 t1) := k2.cell 6
      have m27 : W2.cell? ⟨H + 1 + 1, 7, none⟩ = some (.int .i64 t2) := k2.cell 7
      have l0 := k0'.lt
      have l1 := k1'.lt
      have l2 := k2.lt
      have hI3 := HX.out.1.on hB2
      have HC := Lib.hid (right_any W2 gA fA (some ⟨g, o, none⟩) gn gc fn fc nn nc hI3.g hI3.gl hI3.g2 hI3.f hI3.lf hI3.lv hI3.f2 hI3.ps a0 a1 a3 a4 pA vA pn pc vn vc hI3.v hI3.vz ⟨o1, o2, o3, o4, o5, o6⟩ kA kn kc (t1, t2) (by rw [hI3.fe]; exact HX.out.2.1))
      simp only at HC
      have HB2 := Lib.hid hB2
      have HK := Lib.hid (And.intro k0' (And.intro k1' k2))
      clear hI3 hB2 k0' k1' k2
      go_wp2_with fail
      refine HC.out.mono ?_
      clear HC
      rintro e W3 ⟨rfl, hb3⟩
      have HI3 := Lib.hid (HX.out.1.on (HB2.out.trans (hb3.mono HB2.out.size)))
      have HB3 := Lib.hid (HB2.out.trans (hb3.mono HB2.out.size))
      have HK3 := Lib.hid (And.intro (HK.out.1.below hb3 l0) (And.intro (HK.out.2.1.below hb3 l1) (HK.out.2.2.below hb3 l2)))
      clear hb3 HK m00 m01 m02 m10 m11 m12 m13 m14 m15 m20 m21 m22 m23 m24 m25 m26 m27 l0 l1 l2
      have kk := HX.out.2.2.2.2.2.on HB3.out
      have kk2 := hk2
      go_wp2_with fail
      go_loopw [8] (fun v wr => ∃ q : Nat, q ≤ kn ∧ v = .int .i64 q ∧ Below W3.heap.size W3 wr) (fun v _ => kn - (intOf v).toNat)
      case atStart => exact ⟨0, by omega, rfl, Below.refl _ _⟩
      case round =>
        obtain ⟨q, hq, rfl, hbq⟩ := hrel
        have k0' := HK3.out.1.below hbq HK3.out.1.lt
        have k1' := HK3.out.2.1.below hbq HK3.out.2.1.lt
        have k2' := HK3.out.2.2.below hbq HK3.out.2.2.lt
        have m25 : wr.cell? ⟨H + 1 + 1, 5, none⟩ = some (.slice kA kn kc) := k2'.cell 5
        have l2 := k2'.lt
        by_cases hlt : q < kn
        · obtain ⟨b, hbk⟩ : ∃ b, kl[q]? = some b := ⟨_, List.getElem?_eq_getElem (by have := HX.out.2.2.2.2.1; omega)⟩
          have hu : (ints (natI kl))[q]? = some (.int .i64 (b : Nat)) := by simp [ints, natI, hbk]
          obtain ⟨g5, o5', rfl, hg5, hx5⟩ := kk.get (fun e => by rw [e] at hu; cases hu)
          have hx5 := (hbq.cell (p := ⟨g5, o5' + q, none⟩) hg5).trans (hx5 _ _ hu)
          have hg5' := Nat.lt_of_lt_of_le hg5 hbq.size
          have m00 : wr.cell? ⟨H, 0, none⟩ = some (.slice gA gn gc) := k0'.cell 0
          have m01 : wr.cell? ⟨H, 1, none⟩ = some (.slice fA fn fc) := k0'.cell 1
          have m02 : wr.cell? ⟨H, 2, none⟩ = some (.slice (some ⟨g, o, none⟩) nn nc) := k0'.cell 2
          have m10 : wr.cell? ⟨H + 1, 0, none⟩ = some a0 := k1'.cell 0
          have m11 : wr.cell? ⟨H + 1, 1, none⟩ = some a1 := k1'.cell 1
          have m12 : wr.cell? ⟨H + 1, 2, none⟩ = some (.slice pA pn pc) := k1'.cell 2
          have m13 : wr.cell? ⟨H + 1, 3, none⟩ = some a3 := k1'.cell 3
          have m14 : wr.cell? ⟨H + 1, 4, none⟩ = some a4 := k1'.cell 4
          have m15 : wr.cell? ⟨H + 1, 5, none⟩ = some (.slice vA vn vc) := k1'.cell 5
          have l0 := k0'.lt
          have l1 := k1'.lt
          have hqI : (q : Int) < kn := by omega
          have HT : Hid (∀ W', Below wr.heap.size wr W' → Calls Tryz.prog 15 #[pgV gA fA (some ⟨g, o, none⟩) gn gc fn fc nn nc, .agg #[a0, a1, .slice pA pn pc, a3, a4, .slice vA vn vc], .int .i64 (b : Nat)] W' fun e w' => e = .returned (.bool true) ∧ Below wr.heap.size wr w') := Lib.hid fun W' hW' => by
            have hw' := (HX.out.2.2.1.trans ((HB3.out.trans ((hbq.trans (hW'.mono hbq.size)).mono HB3.out.size)).mono HX.out.2.2.1.size))
            exact (IH.out q b (by rw [HX.out.2.2.2.1]; exact hbk) W' hw').mono fun e w' h => ⟨h.1, hW'.trans (h.2.mono hW'.size)⟩
          have HS : Hid (∀ Wx, Below wr.heap.size wr Wx → Wx.cell? ⟨H, 0, none⟩ = some (.slice gA gn gc) ∧ Wx.cell? ⟨H, 1, none⟩ = some (.slice fA fn fc) ∧ Wx.cell? ⟨H, 2, none⟩ = some (.slice (some ⟨g, o, none⟩) nn nc) ∧ H < Wx.heap.size ∧
              Wx.cell? ⟨H + 1, 0, none⟩ = some a0 ∧ Wx.cell? ⟨H + 1, 1, none⟩ = some a1 ∧ Wx.cell? ⟨H + 1, 2, none⟩ = some (.slice pA pn pc) ∧ Wx.cell? ⟨H + 1, 3, none⟩ = some a3 ∧ Wx.cell? ⟨H + 1, 4, none⟩ = some a4 ∧ Wx.cell? ⟨H + 1, 5, none⟩ = some (.slice vA vn vc) ∧ H + 1 < Wx.heap.size ∧
              Wx.cell? ⟨H + 1 + 1, 5, none⟩ = some (.slice (some ⟨g5, o5', none⟩) kn kc) ∧ H + 1 + 1 < Wx.heap.size ∧ Wx.cell? ⟨g5, o5' + q, none⟩ = some (.int .i64 (b : Nat)) ∧ g5 < Wx.heap.size) := Lib.hid fun Wx hW => by
            have u0 := k0'.below hW k0'.lt
            have u1 := k1'.below hW k1'.lt
            have u2 := k2'.below hW k2'.lt
            exact ⟨u0.cell 0, u0.cell 1, u0.cell 2, u0.lt, u1.cell 0, u1.cell 1, u1.cell 2, u1.cell 3, u1.cell 4, u1.cell 5, u1.lt, u2.cell 5, u2.lt, (hW.cell (p := ⟨g5, _, none⟩) hg5').trans hx5, Nat.lt_of_lt_of_le hg5' hW.size⟩
          have J : Below wr.heap.size wr wr := Below.refl _ _
          have HBQ := Lib.hid hbq
          clear hbq k0' k1' k2' hu hbk hg5
          go_upto_region 7 with (fail)
          go_cut [34] (fun v34 wx => v34 = .bool false ∧ Below wr.heap.size wr wx)
          case first =>
            go_region_held2 (fun Wx => Wx.cell? ⟨H, 0, none⟩ = some (.slice gA gn gc) ∧ Wx.cell? ⟨H, 1, none⟩ = some (.slice fA fn fc) ∧ Wx.cell? ⟨H, 2, none⟩ = some (.slice (some ⟨g, o, none⟩) nn nc) ∧ H < Wx.heap.size ∧
              Wx.cell? ⟨H + 1, 0, none⟩ = some a0 ∧ Wx.cell? ⟨H + 1, 1, none⟩ = some a1 ∧ Wx.cell? ⟨H + 1, 2, none⟩ = some (.slice pA pn pc) ∧ Wx.cell? ⟨H + 1, 3, none⟩ = some a3 ∧ Wx.cell? ⟨H + 1, 4, none⟩ = some a4 ∧ Wx.cell? ⟨H + 1, 5, none⟩ = some (.slice vA vn vc) ∧ H + 1 < Wx.heap.size ∧
              Wx.cell? ⟨H + 1 + 1, 5, none⟩ = some (.slice (some ⟨g5, o5', none⟩) kn kc) ∧ H + 1 + 1 < Wx.heap.size ∧ Wx.cell? ⟨g5, o5' + q, none⟩ = some (.int .i64 (b : Nat)) ∧ g5 < Wx.heap.size)
              (first | exact ⟨m00, m01, m02, l0, m10, m11, m12, m13, m14, m15, l1, m25, l2, hx5, hg5'⟩ | exact HS.out _ J)
              ((go_at_call 15; (with_reducible refine Calls.mono (HT.out _ (by first | exact J | exact J.drew)) ?_); rintro e v1 ⟨rfl, J⟩))
            all_goals
              go_wp2_with fail
              go_meet
              exact ⟨by simp, by first | exact J | exact J.drew⟩
          case rest =>
            obtain ⟨rfl, hbc⟩ := hcut
            have HBC := Lib.hid (HBQ.out.trans (hbc.mono HBQ.out.size))
            clear hbc HS HT m00 m01 m02 m10 m11 m12 m13 m14 m15 m25 l0 l1 l2 hx5 hg5' J
            go_wp2_with fail
            go_roundw
            case rel => exact ⟨q + 1, by omega, by go_num, HBC.out⟩
            case measure => simp [intOf]; omega
        · obtain rfl : q = kn := by omega
          have HBC := Lib.hid (HB3.out.trans (hbq.mono HB3.out.size))
          clear hbq k0' k1' k2'
          go_wp2_with fail
          go_ret
          exact ⟨rfl, HBC.out⟩
end Go.Proofs.YtfaoiajhoifalaaGreatDoor
/-! Cmo -/
namespace Go.Proofs.YtfaoiajhoifalaaGreatDoor
open Go Go.RowKit Go.Maps
set_option linter.unusedVariables false
set_option linter.unusedSimpArgs false

/-- Is this main? -/
def isMn (f : Fn') : Bool := decide (f.s = wMain') && decide (f.ty = 1) && decide (f.ps.length = 0)
def anyMn (l : List Fn') : Bool := l.any isMn
theorem anyMn_snoc (l : List Fn') (f : Fn') : anyMn (l ++ [f]) = (anyMn l || isMn f) := by simp [anyMn]
theorem anyMn_all {pg : Pg} {tr : List (Int × Int)} {vs : List (List Int)} (h : ChkRt pg tr vs) : anyMn pg.f = true := by
  obtain ⟨j, f, h1, h2, h3, h4⟩ := h.mn
  exact List.any_eq_true.2 ⟨f, List.mem_of_getElem? h1, by simp [isMn, h2, h3, h4]⟩
theorem readL_ok {l : List UInt8} {pg : Pg} (hr : readL l = some pg) : ∃ s, PgOk TkV (lexL l).1.length pg s := by
  have h0 : (lexL l).2.1 = 0 := by
    unfold readL at hr
    split at hr
    · cases hr
    · rename_i h0; simpa using h0
  have hp := parse_b (V := TkV) (lex_toks h0).2.2
  unfold readL at hr
  rw [if_neg (by simpa using h0)] at hr
  cases hP : parseL (lexL l).1 with
  | out => rw [hP] at hr; cases hr
  | er n p => rw [hP] at hr; cases hr
  | ok q s => rw [hP] at hr hp; simp only [Option.some.injEq] at hr; subst hr; exact ⟨s, hp⟩
theorem pw_at {α : Type} {R : α → α → Prop} {l : List α} (h : l.Pairwise R) {i j : Nat} (hij : i < j) {a b : α} (ha : l[i]? = some a) (hb : l[j]? = some b) : R a b := by
  obtain ⟨h1, rfl⟩ := List.getElem?_eq_some_iff.1 ha
  obtain ⟨h2, rfl⟩ := List.getElem?_eq_some_iff.1 hb
  exact List.pairwise_iff_getElem.1 h i j h1 h2 hij
theorem PgU.trIn {w : World} {gA fA nA : Option Addr} {gc fc nc : Nat} {pg : Pg} {fl : List (Fn' × Value)} {vls : List Value} {ns : List CN} {tr : List (Int × Int)} {vs : List (List Int)} (h : PgU w gA fA nA gc fc nc pg fl vls ns tr vs) (hB : BdP pg) {q : Nat} {v : Value} {z : List Int} (hv : vls[q]? = some v) (hz : vs[q]? = some z) :
    ∃ vA vc, v = .slice vA z.length vc ∧ TrIn w gA fA nA pg.g.length gc pg.f.length fc pg.t.size nc pg fl vls ns tr vA z.length vc z := by
  have hr := h.r.vr q v z hv hz
  obtain ⟨vA, vc, rfl⟩ := hr.shape
  have hlf := h.lf
  have hln := h.ln
  have hp := h.r.pi
  refine ⟨vA, vc, rfl, hp.g, rfl, hB.g, by rw [← hlf]; exact hp.f, hlf, by rw [hp.vl, hlf], hB.f, fun x hx => (hp.ps x hx).shape, h.f, by rw [← hln]; exact hp.n, hln, by rw [hp.tl, hln], hB.n, hp.ks, h.kl hB, h.n, hr, rfl⟩
set_option maxHeartbeats 4000000 in
set_option maxRecDepth 100000 in
theorem checkRight_walk (s : ByteArray) (w : World) (hs : s.size ≤ maxLen) (hE : Env w ∧ EnvY w) :
    Calls Tryz.prog 5 #[.string s] w fun e w' => e = .returned (.bool true) ∧ Below w.heap.size w w' := by
  have HR := Lib.hid (parsedA_any s hs w hE)
  have HE := Lib.hid hE
  unfold maxLen at hs
  clear hE
  cases hP : readL s.data.toList with
  | none =>
    go_enter Tryz.func5, Tryz.ntmps5
    go_wp2_with fail
    refine HR.out.mono ?_
    clear HR
    rintro e w1 ⟨hb1, hp⟩
    rw [hP] at hp
    simp only at hp
    subst hp
    clear hP
    go_upto_region 2 with (fail)
    have hbw := hb1.alloc hb1.size (.cells #[vNil, vNil, vNil] tPro)
    generalize w1.alloc (.cells #[vNil, vNil, vNil] tPro) = W2 at *
    have HBW := Lib.hid hbw
    have HK := Lib.hid (knownC_any W2 ⟨HE.out.1.of hbw, HE.out.2.below hbw (Nat.le_refl _)⟩)
    clear hbw hb1
    go_wp2_with fail
    refine HK.out.mono ?_
    clear HK
    rintro e w3 ⟨rfl, hb3⟩
    have HB3 := Lib.hid (HBW.out.trans (hb3.mono HBW.out.size))
    clear hb3
    go_wp2_with fail
    go_ret
    exact ⟨rfl, HB3.out⟩
  | some pg =>
    by_cases hbig : 4096 < s.size
    · go_enter Tryz.func5, Tryz.ntmps5
      go_wp2_with fail
      refine HR.out.mono ?_
      clear HR
      rintro e w1 ⟨hb1, hp⟩
      rw [hP] at hp
      simp only at hp
      obtain ⟨gv, fv, nv, fl, ns, rfl, hM⟩ := hp
      obtain ⟨A0, c0, rfl⟩ := shape_row hM.gs
      obtain ⟨A1, c1, rfl⟩ := shape_row hM.fs
      obtain ⟨A2, c2, rfl⟩ := shape_row hM.rows
      clear hP hM
      generalize pg.g.length = n0 at *
      generalize fl.length = n1 at *
      generalize ns.length = n2 at *
      go_upto_region 2 with (fail)
      have hbw := hb1.alloc hb1.size (.cells #[.slice A0 n0 c0, .slice A1 n1 c1, .slice A2 n2 c2] tPro)
      generalize w1.alloc (.cells #[.slice A0 n0 c0, .slice A1 n1 c1, .slice A2 n2 c2] tPro) = W2 at *
      have HBW := Lib.hid hbw
      have HK := Lib.hid (knownC_any W2 ⟨HE.out.1.of hbw, HE.out.2.below hbw (Nat.le_refl _)⟩)
      clear hbw hb1
      go_wp2_with fail
      refine HK.out.mono ?_
      clear HK
      rintro e w3 ⟨rfl, hb3⟩
      have HB3 := Lib.hid (HBW.out.trans (hb3.mono HBW.out.size))
      clear hb3
      go_wp2_with fail
      go_ret
      exact ⟨rfl, HB3.out⟩
    · have hlen : s.data.toList.length ≤ 4096 := by rw [← Lib.size_eq]; omega
      go_enter Tryz.func5, Tryz.ntmps5
      go_wp2_with fail
      refine HR.out.mono ?_
      clear HR
      rintro e w1 ⟨hb1, hp⟩
      rw [hP] at hp
      simp only at hp
      obtain ⟨gv, fv, nv, fl, ns, rfl, hM⟩ := hp
      obtain ⟨A0, A1, A2, c0, c1, c2, rfl, rfl, rfl, hin, hU, htz⟩ := parsedU hlen hP hM
      have hat := fun no p => check_at (no := no) (p := p) hP
      obtain ⟨st, hok⟩ := readL_ok hP
      have hright : ∀ tr vs, checkM pg = .ok (tr, vs) → ChkRt pg tr vs := fun tr vs h => check_right hok h
      have hsz : (s.data.toList.length : Int) = (s.size : Int) := by rw [← Lib.size_eq]
      have hlf := hU.lf
      have hln := hU.ln
      rw [hsz] at hat
      have hB := hin.bd
      have hI := hU.r.pi
      have hCk : ∀ W, Below w1.heap.size w1 W → Calls Tryz.prog 10 #[pgV A0 A1 A2 pg.g.length c0 pg.f.length c1 pg.t.size c2] W (CkPost pg W) := fun W hW => by
        have h9 := checkA_any (hI.on hW) hin
        rw [hlf, hln] at h9
        exact h9
      obtain ⟨n0, hn0⟩ : ∃ n, pg.g.length = n := ⟨_, rfl⟩
      obtain ⟨n1, hn1⟩ : ∃ n, pg.f.length = n := ⟨_, rfl⟩
      obtain ⟨n2, hn2⟩ : ∃ n, pg.t.size = n := ⟨_, rfl⟩
      have HN := Lib.hid (And.intro hn0 (And.intro hn1 hn2))
      have hb2 : Below w1.heap.size w1 (w1.alloc (.cells #[.slice A0 n0 c0, .slice A1 n1 c1, .slice A2 n2 c2] tPro)) := (Below.refl _ _).alloc (Nat.le_refl _) _
      have hbw := hb1.alloc hb1.size (.cells #[.slice A0 n0 c0, .slice A1 n1 c1, .slice A2 n2 c2] tPro)
      have k2 := Blk.new w1 tPro #[.slice A0 n0 c0, .slice A1 n1 c1, .slice A2 n2 c2]
      rw [hn0, hn1, hn2] at hCk ⊢
      have HCk := Lib.hid hCk
      have HX := Lib.hid (And.intro hat (And.intro hB (And.intro hin (And.intro hU (And.intro htz hright)))))
      clear hP hM hin hU htz hright hok hat hsz hlf hln hB hI hCk hn0 hn1 hn2
      go_upto_region 4 with (fail)
      have hU2 := HX.out.2.2.2.1.on hb2
      have HC2 := Lib.hid (HCk.out _ hb2)
      obtain ⟨K, hK⟩ : ∃ x, w1.heap.size = x := ⟨_, rfl⟩
      rw [hK] at k2
      generalize w1.alloc (.cells #[.slice A0 n0 c0, .slice A1 n1 c1, .slice A2 n2 c2] tPro) = W2 at *
      simp only [hK]
      have z0 : W2.cell? ⟨K, 0, none⟩ = some (.slice A0 n0 c0) := k2.cell 0
      have z1 : W2.cell? ⟨K, 1, none⟩ = some (.slice A1 n1 c1) := k2.cell 1
      have z2 : W2.cell? ⟨K, 2, none⟩ = some (.slice A2 n2 c2) := k2.cell 2
      have zl := k2.lt
      have K2 := Lib.hid k2
      have HBW := Lib.hid hbw
      have HU2 := Lib.hid hU2
      clear hU2 hbw k2 hb1 hb2 hK HCk
      go_wp2_with fail
      refine HC2.out.mono ?_
      clear HC2
      rintro e w3 ⟨hb3, hres⟩
      rcases hres with ⟨no, q, hc, rfl⟩ | ⟨tr, vs, gA', fA', nA', gc', fc', nc', fl', vls', ns', hc, rfl, hC⟩
      · obtain ⟨hno, hq0, hq1⟩ := HX.out.1 no q hc
        have hbw3 := HBW.out.trans (hb3.mono HBW.out.size)
        clear hc hb3 z0 z1 z2 zl
        go_upto_region 5 with (fail)
        have k5 := Blk.new (w3.alloc (.cells #[.slice none 0 0, .slice none 0 0, .slice none 0 0] tPro)) tDg #[.int .i64 no, .int .i64 q]
        have k4 := (Blk.new w3 tPro #[.slice none 0 0, .slice none 0 0, .slice none 0 0]).alloc (.cells #[.int .i64 no, .int .i64 q] tDg)
        have h5 := (hbw3.alloc hbw3.size (.cells #[.slice none 0 0, .slice none 0 0, .slice none 0 0] tPro)).alloc (by have := hbw3.size; simp; omega) (.cells #[.int .i64 no, .int .i64 q] tDg)
        rw [show (w3.alloc (.cells #[.slice none 0 0, .slice none 0 0, .slice none 0 0] tPro)).heap.size = w3.heap.size + 1 by simp] at k5
        generalize (w3.alloc (.cells #[.slice none 0 0, .slice none 0 0, .slice none 0 0] tPro)).alloc (.cells #[.int .i64 no, .int .i64 q] tDg) = W5 at *
        have d0 : W5.cell? ⟨w3.heap.size + 1, 0, none⟩ = some (.int .i64 no) := k5.cell 0
        have d1 : W5.cell? ⟨w3.heap.size + 1, 1, none⟩ = some (.int .i64 q) := k5.cell 1
        have a0 : W5.cell? ⟨w3.heap.size, 0, none⟩ = some (.slice none 0 0) := k4.cell 0
        have a1 : W5.cell? ⟨w3.heap.size, 1, none⟩ = some (.slice none 0 0) := k4.cell 1
        have a2 : W5.cell? ⟨w3.heap.size, 2, none⟩ = some (.slice none 0 0) := k4.cell 2
        have dl := k5.lt
        have al := k4.lt
        have dn : (no != 0) = true := by simpa using hno
        have HB5 := Lib.hid h5
        have HK := Lib.hid (knownC_any W5 ⟨HE.out.1.of h5, HE.out.2.below h5 (Nat.le_refl _)⟩)
        clear k4 k5 h5 hbw3
        go_wp2_with fail
        refine HK.out.mono ?_
        clear HK
        rintro e w6 ⟨rfl, hb6⟩
        have HB6 := Lib.hid (HB5.out.trans (hb6.mono HB5.out.size))
        clear hb6
        go_wp2_with fail
        go_ret
        exact ⟨rfl, HB6.out⟩
      · have hU3 : PgU w3 gA' fA' nA' gc' fc' nc' pg fl' vls' ns' tr vs := ⟨hC.rd, hC.fe, hC.ne, check_vs HX.out.2.1.p hc⟩
        have HCR := Lib.hid (HX.out.2.2.2.2.2 tr vs hc)
        have hlf := hU3.lf
        have hln := hU3.ln
        rw [HN.out.1, hlf, HN.out.2.1, hln, HN.out.2.2]
        have hbw3 := HBW.out.trans (hb3.mono HBW.out.size)
        have HU3 := Lib.hid hU3
        clear hU3 hlf hln hc hC hb3 z0 z1 z2 zl HU2 K2
        go_upto_region 5 with (fail)
        have k5 := Blk.new (w3.alloc (.cells #[.slice gA' n0 gc', .slice fA' n1 fc', .slice nA' n2 nc'] tPro)) tDg #[.int .i64 0, .int .i64 0]
        have k4 := (Blk.new w3 tPro #[.slice gA' n0 gc', .slice fA' n1 fc', .slice nA' n2 nc']).alloc (.cells #[.int .i64 0, .int .i64 0] tDg)
        have h35 : Below w3.heap.size w3 ((w3.alloc (.cells #[.slice gA' n0 gc', .slice fA' n1 fc', .slice nA' n2 nc'] tPro)).alloc (.cells #[.int .i64 0, .int .i64 0] tDg)) := ((Below.refl _ _).alloc (Nat.le_refl _) _).alloc (by simp) _
        rw [show (w3.alloc (.cells #[.slice gA' n0 gc', .slice fA' n1 fc', .slice nA' n2 nc'] tPro)).heap.size = w3.heap.size + 1 by simp] at k5
        generalize (w3.alloc (.cells #[.slice gA' n0 gc', .slice fA' n1 fc', .slice nA' n2 nc'] tPro)).alloc (.cells #[.int .i64 0, .int .i64 0] tDg) = W5 at *
        have h5 := hbw3.trans (h35.mono hbw3.size)
        have HU5 := Lib.hid (HU3.out.on h35)
        obtain ⟨L, hL⟩ : ∃ x, w3.heap.size = x := ⟨_, rfl⟩
        rw [hL] at k4 k5
        simp only [hL]
        have d0 : W5.cell? ⟨L + 1, 0, none⟩ = some (.int .i64 0) := k5.cell 0
        have dl := k5.lt
        have HB5 := Lib.hid h5
        have HK4 := Lib.hid k4
        have HKn : Hid (∀ W, Below W5.heap.size W5 W → Calls Tryz.prog 7 #[] W fun e w' => e = .returned (.bool true) ∧ Below W5.heap.size W5 w') := Lib.hid fun W hW => by
          have h9 := h5.trans (hW.mono h5.size)
          exact (knownC_any W ⟨HE.out.1.of h9, HE.out.2.below h9 (Nat.le_refl _)⟩).mono fun e w' h => ⟨h.1, hW.trans (h.2.mono hW.size)⟩
        clear k4 k5 h5 hbw3 h35 hL HU3 HBW
        have hn0m : n0 ≤ 1000000 := by have := HX.out.2.1.g; have := HN.out.1; omega
        have hn1m : n1 ≤ 1000000 := by have := HX.out.2.1.f; have := HN.out.2.1; omega
        go_wp2_with fail
        go_loopw [7, 8] (fun v7 v wr => ∃ q : Nat, q ≤ n1 ∧ v = .int .i64 q ∧ v7 = .bool (anyMn (pg.f.take q)) ∧ Below W5.heap.size W5 wr) (fun _ v _ => n1 - (intOf v).toNat)
        case atStart => exact ⟨0, by omega, rfl, rfl, Below.refl _ _⟩
        case round =>
          obtain ⟨q, hq, rfl, rfl, hbq⟩ := hrel
          obtain ⟨wq, hwq⟩ : ∃ w1, w1 = wr := ⟨_, rfl⟩
          subst hwq
          obtain ⟨mb, hmb⟩ : ∃ b, anyMn (pg.f.take q) = b := ⟨_, rfl⟩
          rw [hmb]
          have HMB := Lib.hid hmb
          clear hmb
          have k4' := HK4.out.below hbq HK4.out.lt
          have a1 : wq.cell? ⟨L, 1, none⟩ = some (.slice fA' n1 fc') := k4'.cell 1
          have al := k4'.lt
          by_cases hlt : q < n1
          · obtain ⟨f, hf⟩ : ∃ f, pg.f[q]? = some f := ⟨_, List.getElem?_eq_getElem (by have := HN.out.2.1; omega)⟩
            have hUr := HU5.out.on hbq
            obtain ⟨⟨f', pv⟩, hfx, hfe⟩ : ∃ x, fl'[q]? = some x ∧ x.1 = f := by
              have h9 : (fl'.map (·.1))[q]? = some f := by rw [hUr.f]; exact hf
              rw [List.getElem?_map] at h9
              cases hx : fl'[q]? with
              | none => rw [hx] at h9; cases h9
              | some x => rw [hx] at h9; exact ⟨x, rfl, Option.some.inj h9⟩
            simp only at hfe
            subst hfe
            obtain ⟨v, hvj⟩ : ∃ v, vls'[q]? = some v := ⟨_, List.getElem?_eq_getElem (by have := hUr.r.pi.vl; have := hUr.lf; have := HN.out.2.1; omega)⟩
            obtain ⟨z, h, k, d, hz, hfb, hseg, hFn⟩ := HCR.out.fn q f' hf
            obtain ⟨vA, vc, rfl, hTr⟩ := hUr.trIn HX.out.2.1 hvj hz
            obtain ⟨⟨zx, hzx⟩, hz64, hrt⟩ := hFn
            have hpp := hUr.r.pi.ps _ (List.mem_of_getElem? hfx)
            simp only at hpp
            obtain ⟨pA, pc, rfl⟩ := hpp.shape
            have hu := fun i hi => fnCs_at fl' vls' q i hi hfx hvj
            obtain ⟨f1, f2, f3, f4, f5⟩ := f'
            simp only at hfb hzx hpp hTr
            obtain ⟨pn, hpn⟩ : ∃ n, f3.length = n := ⟨_, rfl⟩
            obtain ⟨zn, hzn⟩ : ∃ n, z.length = n := ⟨_, rfl⟩
            simp only [hpn] at hpp hrt hu
            simp only [hzn] at hTr hu hz64
            have hzp : pn ≤ zn := by rw [← hzn, hzx, List.length_append, List.length_map, hpn]; omega
            obtain ⟨zz, hzz⟩ : ∃ s, str f1 = s := ⟨_, rfl⟩
            have e0 : (fnCs fl' vls')[q * 6]? = some (.string zz) := by rw [← hzz]; exact hu 0 (by omega)
            obtain ⟨g, o, rfl, hg, hr1⟩ := (hUr.r.pi.f).get (fun e => by rw [e] at e0; cases e0)
            have x0 : wq.cell? ⟨g, o + q * 6, none⟩ = some (.string zz) := hr1 _ _ e0
            have x1 : wq.cell? ⟨g, o + q * 6 + 1, none⟩ = some (.int .i64 f2) := hr1 _ _ (hu 1 (by omega))
            have x2 : wq.cell? ⟨g, o + q * 6 + 2, none⟩ = some (.slice pA pn pc) := hr1 _ _ (hu 2 (by omega))
            have x3 : wq.cell? ⟨g, o + q * 6 + 3, none⟩ = some (.int .i64 (f4 : Nat)) := hr1 _ _ (hu 3 (by omega))
            have x4 : wq.cell? ⟨g, o + q * 6 + 4, none⟩ = some (.int .i64 f5) := hr1 _ _ (hu 4 (by omega))
            have x5 : wq.cell? ⟨g, o + q * 6 + 5, none⟩ = some (.slice vA zn vc) := hr1 _ _ (hu 5 (by omega))
            rw [HN.out.1, HN.out.2.1, HN.out.2.2] at hTr
            have HT : Hid (∀ W, Below wq.heap.size wq W → Calls Tryz.prog 15 #[pgV gA' (some ⟨g, o, none⟩) nA' n0 gc' n1 fc' n2 nc', .agg #[.string zz, .int .i64 f2, .slice pA pn pc, .int .i64 (f4 : Nat), .int .i64 f5, .slice vA zn vc], .int .i64 (f4 : Nat)] W fun e w' => e = .returned (.bool true) ∧ Below W.heap.size W w') :=
              Lib.hid fun W hW => tree_any hTr (.string zz) (.int .i64 f2) (.int .i64 (f4 : Nat)) (.int .i64 f5) pA pn pc (.cons h k .nil) d hseg hrt 0 f4 (by simp [Fo.roots, hfb]) W hW
            have HR := Lib.hid (And.intro hzz (And.intro hpn (And.intro hzn (And.intro hzx (And.intro hpp (And.intro hTr.v hf))))))
            have hqI : (q : Int) < n1 := by omega
            have n1t : ¬ (zn : Int) < pn := by omega
            have n2t : ¬ (64 : Int) < zn := by omega
            have HBQ := Lib.hid hbq
            have HK := Lib.hid k4'
            clear hf hUr hfx hvj hz hseg hrt hzx hpp hu hpn hzn hTr hzz e0 hr1 hbq k4' hfb
            go_upto_region 12 with (fail)
            have k6 := Blk.new wq tFu #[.string zz, .int .i64 f2, .slice pA pn pc, .int .i64 (f4 : Nat), .int .i64 f5, .slice vA zn vc]
            have hb6 : Below wq.heap.size wq (wq.alloc (.cells #[.string zz, .int .i64 f2, .slice pA pn pc, .int .i64 (f4 : Nat), .int .i64 f5, .slice vA zn vc] tFu)) := (Below.refl _ _).alloc (Nat.le_refl _) _
            have k46 := HK.out.below hb6 HK.out.lt
            obtain ⟨M, hM⟩ : ∃ x, wq.heap.size = x := ⟨_, rfl⟩
            rw [hM] at k6
            generalize wq.alloc (.cells #[.string zz, .int .i64 f2, .slice pA pn pc, .int .i64 (f4 : Nat), .int .i64 f5, .slice vA zn vc] tFu) = W6 at *
            simp only [hM]
            have p0 : W6.cell? ⟨L, 0, none⟩ = some (.slice gA' n0 gc') := k46.cell 0
            have p1 : W6.cell? ⟨L, 1, none⟩ = some (.slice (some ⟨g, o, none⟩) n1 fc') := k46.cell 1
            have p2 : W6.cell? ⟨L, 2, none⟩ = some (.slice nA' n2 nc') := k46.cell 2
            have pl := k46.lt
            have y0 : W6.cell? ⟨M, 0, none⟩ = some (.string zz) := k6.cell 0
            have y1 : W6.cell? ⟨M, 1, none⟩ = some (.int .i64 f2) := k6.cell 1
            have y2 : W6.cell? ⟨M, 2, none⟩ = some (.slice pA pn pc) := k6.cell 2
            have y3 : W6.cell? ⟨M, 3, none⟩ = some (.int .i64 (f4 : Nat)) := k6.cell 3
            have y4 : W6.cell? ⟨M, 4, none⟩ = some (.int .i64 f5) := k6.cell 4
            have y5 : W6.cell? ⟨M, 5, none⟩ = some (.slice vA zn vc) := k6.cell 5
            have yl := k6.lt
            have HT6 := Lib.hid (HT.out W6 hb6)
            have HB6 := Lib.hid (HBQ.out.trans (hb6.mono HBQ.out.size))
            have HM6 := Lib.hid (And.intro hb6 k6)
            clear x0 x1 x2 x3 x4 x5 a1 al HT hb6 k6 k46 hM
            go_wp2_with fail
            refine HT6.out.mono ?_
            clear HT6
            rintro e W7 ⟨rfl, hb7⟩
            have k7 := HM6.out.2.below hb7 HM6.out.2.lt
            have HB7 := Lib.hid (HB6.out.trans (hb7.mono HB6.out.size))
            have HV := Lib.hid (And.intro ((HR.out.2.2.2.2.1.on HM6.out.1).on hb7) ((HR.out.2.2.2.2.2.1.on HM6.out.1).on hb7))
            have HK7 := Lib.hid k7
            clear hb7 p0 p1 p2 pl y0 y1 y2 y3 y4 y5 yl k7 n1t n2t HM6
            go_wp2_with fail
            go_loopw [10] (fun v wr => ∃ j : Nat, j ≤ pn ∧ v = .int .i64 j ∧ Below W7.heap.size W7 wr) (fun v _ => pn - (intOf v).toNat)
            case atStart => exact ⟨0, by omega, rfl, Below.refl _ _⟩
            case round =>
              obtain ⟨j, hj, rfl, hbj⟩ := hrel
              have k8 := HK7.out.below hbj HK7.out.lt
              have m0 : wr.cell? ⟨M, 0, none⟩ = some (.string zz) := k8.cell 0
              have m1 : wr.cell? ⟨M, 1, none⟩ = some (.int .i64 f2) := k8.cell 1
              have m2 : wr.cell? ⟨M, 2, none⟩ = some (.slice pA pn pc) := k8.cell 2
              have m5 : wr.cell? ⟨M, 5, none⟩ = some (.slice vA zn vc) := k8.cell 5
              have ml := k8.lt
              by_cases hjl : j < pn
              · obtain ⟨⟨ps, pt⟩, hp⟩ : ∃ p, f3[j]? = some p := ⟨_, List.getElem?_eq_getElem (by have := HR.out.2.1; omega)⟩
                have hz1 : z[j]? = some pt := by rw [HR.out.2.2.2.1]; exact get_app (by rw [List.getElem?_map, hp]; rfl)
                have v1 : (ints z)[j]? = some (.int .i64 pt) := by simp [ints, hz1]
                have v2 : (f3.flatMap pmC')[j * 2 + 1]? = some (.int .i64 pt) := by rw [flat_at' pmC' 2 (fun _ => rfl) f3 j 1 (by omega), hp]; rfl
                obtain ⟨b1, s1, rfl, hb1, hc1⟩ := HV.out.2.get (fun e => by rw [e] at v1; cases v1)
                obtain ⟨b2, s2, rfl, hb2, hc2⟩ := HV.out.1.get (fun e => by rw [e] at v2; cases v2)
                have r1 : wr.cell? ⟨b1, s1 + j, none⟩ = some (.int .i64 pt) := (hbj.cell (p := ⟨b1, s1 + j, none⟩) hb1).trans (hc1 _ _ v1)
                have r2 : wr.cell? ⟨b2, s2 + j * 2 + 1, none⟩ = some (.int .i64 pt) := (hbj.cell (p := ⟨b2, s2 + j * 2 + 1, none⟩) hb2).trans (hc2 _ _ v2)
                have hjI : (j : Int) < pn := by omega
                have hjz : (j : Int) < zn := by omega
                have HBJ := Lib.hid hbj
                have rl1 := Nat.lt_of_lt_of_le hb1 hbj.size
                have rl2 := Nat.lt_of_lt_of_le hb2 hbj.size
                clear hp hz1 v1 v2 hc1 hc2 hbj k8 hb1 hb2
                go_upto_region 17 with (fail)
                go_quiet (fail)
                go_wp2_with fail
                go_roundw
                case rel => exact ⟨j + 1, by omega, by go_num, (by first | exact HBJ.out | exact HBJ.out.drew | exact HBJ.out.trans (below_drewN _ _ _))⟩
                case measure => simp [intOf]; omega
              · obtain rfl : j = pn := by omega
                have hf9 : pg.f.take (q + 1) = pg.f.take q ++ [⟨f1, f2, f3, f4, f5⟩] := by rw [List.take_add_one, HR.out.2.2.2.2.2.2]; rfl
                have HA : Hid (anyMn (pg.f.take (q + 1)) = (mb || isMn ⟨f1, f2, f3, f4, f5⟩)) := Lib.hid (by rw [hf9, anyMn_snoc, HMB.out])
                have HBJ := Lib.hid (HB7.out.trans (hbj.mono HB7.out.size))
                clear hf9 hbj k8
                have pnN : (j : Int) = 0 ↔ j = 0 := by omega
                have hpl := HR.out.2.1
                cases mb with
                | true =>
                  go_wp2_with fail
                  go_roundw
                  case rel => exact ⟨q + 1, by omega, by go_num, by rw [HA.out]; simp, HBJ.out⟩
                  case measure => simp [intOf]; omega
                | false =>
                  by_cases hm : f1 = wMain'
                  · have s0 : (zz.toList == [109, 97, 105, 110]) = true := by rw [← HR.out.1, hm]; simp [str, wMain']
                    by_cases h2 : f2 = 1
                    · subst h2
                      by_cases h3 : j = 0
                      · have q0 : decide ((j : Int) = 0) = true := by simp [h3]
                        have HA2 : Hid (anyMn (pg.f.take (q + 1)) = true) := Lib.hid (by rw [HA.out]; simp [isMn, hm, hpl, h3])
                        clear hpl pnN hm
                        go_wp2_with fail
                        go_roundw
                        case rel => exact ⟨q + 1, by omega, by go_num, by rw [HA2.out]; first | done | rfl | (simp; done) | (simp [h3]; done) | (simp; omega), HBJ.out⟩
                        case measure => simp [intOf]; omega
                      · have q0 : decide ((j : Int) = 0) = false := by simp [h3]
                        have HA2 : Hid (anyMn (pg.f.take (q + 1)) = false) := Lib.hid (by rw [HA.out]; simp [isMn, hpl, h3])
                        clear hpl pnN hm
                        go_wp2_with fail
                        go_roundw
                        case rel => exact ⟨q + 1, by omega, by go_num, by rw [HA2.out]; first | done | rfl | (simp; done) | (simp [h3]; done) | (simp; omega), HBJ.out⟩
                        case measure => simp [intOf]; omega
                    · have q0 : decide (f2 = 1) = false := by simp [h2]
                      have HA2 : Hid (anyMn (pg.f.take (q + 1)) = false) := Lib.hid (by rw [HA.out]; simp [isMn, h2])
                      have q1b : (f2 == 1) = false := by simp [h2]
                      clear hpl pnN hm
                      go_wp2_with fail
                      go_roundw
                      case rel => exact ⟨q + 1, by omega, by go_num, by rw [HA2.out]; first | done | rfl | (simp; done) | (simp [h3]; done) | (simp; omega), HBJ.out⟩
                      case measure => simp [intOf]; omega
                  · have s0 : (zz.toList == [109, 97, 105, 110]) = false := by
                      rw [← HR.out.1]
                      have e9 : (str f1).toList = f1 := by simp [str]
                      rw [e9]
                      simpa [wMain'] using hm
                    have HA2 : Hid (anyMn (pg.f.take (q + 1)) = false) := Lib.hid (by rw [HA.out]; simp [isMn, hm])
                    clear hpl pnN hm
                    go_wp2_with fail
                    go_roundw
                    case rel => exact ⟨q + 1, by omega, by go_num, by rw [HA2.out]; first | done | rfl | (simp; done) | (simp [h3]; done) | (simp; omega), HBJ.out⟩
                    case measure => simp [intOf]; omega
          · obtain rfl : q = n1 := by omega
            have hmt : mb = true := by rw [← HMB.out, ← HN.out.2.1, List.take_length]; exact anyMn_all HCR.out
            subst hmt
            have HBQ := Lib.hid hbq
            have HK := Lib.hid k4'
            clear hbq k4'
            go_wp2_with fail
            go_loopw [11] (fun v wr => ∃ i : Nat, i ≤ n0 ∧ v = .int .i64 i ∧ Below wq.heap.size wq wr) (fun v _ => n0 - (intOf v).toNat)
            case atStart => exact ⟨0, by omega, rfl, Below.refl _ _⟩
            case round =>
              obtain ⟨i, hi, rfl, hbi⟩ := hrel
              obtain ⟨wi, hwi⟩ : ∃ w1, w1 = wr := ⟨_, rfl⟩
              subst hwi
              have k5' := HK.out.below hbi HK.out.lt
              have b0 : wi.cell? ⟨L, 0, none⟩ = some (.slice gA' n0 gc') := k5'.cell 0
              have bl := k5'.lt
              by_cases hil : i < n0
              · have hiI : (i : Int) < n0 := by omega
                have HBI := Lib.hid hbi
                have HK5 := Lib.hid k5'
                clear hbi k5'
                go_wp2_with fail
                go_loopw [12] (fun v wr => ∃ k : Nat, k ≤ i ∧ v = .int .i64 k ∧ Below wi.heap.size wi wr) (fun v _ => i - (intOf v).toNat)
                case atStart => exact ⟨0, by omega, rfl, Below.refl _ _⟩
                case round =>
                  obtain ⟨k, hk, rfl, hbk⟩ := hrel
                  by_cases hkl : k < i
                  · have hn0 := HN.out.1
                    obtain ⟨g1, hg1⟩ : ∃ g, pg.g[k]? = some g := ⟨_, List.getElem?_eq_getElem (by omega)⟩
                    obtain ⟨g2, hg2⟩ : ∃ g, pg.g[i]? = some g := ⟨_, List.getElem?_eq_getElem (by omega)⟩
                    have hne : g1.s ≠ g2.s := pw_at HCR.out.gl hkl hg1 hg2
                    have hgr := (((HU5.out.on HBQ.out).on HBI.out).on hbk).r.pi.g
                    rw [hn0] at hgr
                    obtain ⟨z1, hz1⟩ : ∃ s, str g1.s = s := ⟨_, rfl⟩
                    obtain ⟨z2, hz2⟩ : ∃ s, str g2.s = s := ⟨_, rfl⟩
                    have u1 : (pg.g.flatMap glC)[k * 4]? = some (.string z1) := by have h9 := flat_at' glC 4 (fun _ => rfl) pg.g k 0 (by omega); rw [Nat.add_zero] at h9; rw [h9, hg1, ← hz1]; rfl
                    have u2 : (pg.g.flatMap glC)[i * 4]? = some (.string z2) := by have h9 := flat_at' glC 4 (fun _ => rfl) pg.g i 0 (by omega); rw [Nat.add_zero] at h9; rw [h9, hg2, ← hz2]; rfl
                    obtain ⟨b, o, rfl, hbl, hc⟩ := hgr.get (fun e => by rw [e] at u1; cases u1)
                    have r1 : wr.cell? ⟨b, o + k * 4, none⟩ = some (.string z1) := hc _ _ u1
                    have r2 : wr.cell? ⟨b, o + i * 4, none⟩ = some (.string z2) := hc _ _ u2
                    have k6' := HK5.out.below hbk HK5.out.lt
                    have b0 : wr.cell? ⟨L, 0, none⟩ = some (.slice (some ⟨b, o, none⟩) n0 gc') := k6'.cell 0
                    have bl := k6'.lt
                    have e1 : z1.toList = g1.s := by rw [← hz1]; simp [str]
                    have e2 : z2.toList = g2.s := by rw [← hz2]; simp [str]
                    have s0 : (z2.toList == z1.toList) = false := by rw [e1, e2]; simpa using fun e => hne e.symm
                    have hkI : (k : Int) < i := by omega
                    have hkN : (k : Int) < n0 := by omega
                    have HBK := Lib.hid hbk
                    clear hne hgr hg1 hg2 hz1 hz2 u1 u2 hc k6' e1 e2 hbk hn0
                    go_upto_region 26 with (fail)
                    go_quiet (fail)
                    go_wp2_with fail
                    go_roundw
                    case rel => exact ⟨k + 1, by omega, by go_num, (by first | exact HBK.out | exact HBK.out.drew | exact HBK.out.trans (below_drewN _ _ _))⟩
                    case measure => simp [intOf]; omega
                  · obtain rfl : k = i := by omega
                    have HBK := Lib.hid (HBI.out.trans (hbk.mono HBI.out.size))
                    clear hbk
                    go_wp2_with fail
                    go_roundw
                    case rel => exact ⟨k + 1, by omega, by go_num, HBK.out⟩
                    case measure => simp [intOf]; omega
              · obtain rfl : i = n0 := by omega
                have h32 : (q : Int) ≤ 32 := by have := HCR.out.fl; have := HN.out.2.1; omega
                have a1 : wi.cell? ⟨L, 1, none⟩ = some (.slice fA' q fc') := k5'.cell 1
                have HKn2 := Lib.hid (HKn.out wi (HBQ.out.trans (hbi.mono HBQ.out.size)))
                clear hbi k5'
                go_wp2_with fail
                refine HKn2.out.mono ?_
                clear HKn2
                rintro e w9 ⟨rfl, hb9⟩
                have HB9 := Lib.hid (HB5.out.trans (hb9.mono HB5.out.size))
                clear hb9
                go_wp2_with fail
                go_ret
                exact ⟨rfl, HB9.out⟩
end Go.Proofs.YtfaoiajhoifalaaGreatDoor
