/-
  IrMore: the walk.
-/
import Derived.Test.YtgcjfbgfoiekmaaIwi
import Derived.Deep.RegionHeld2
namespace Go.Proofs.Ytgcjfbgfoiekmaa
open Go Go.RowKit Go.Maps
set_option linter.unusedVariables false
set_option linter.unusedSimpArgs false

abbrev tSt : TypeId := 28
theorem cut_same (v a b : Int) (w : World) : Calls Try.prog 9 #[.int .i64 v, .int .i64 a, .int .i64 b] w fun e w' => e = .returned (.int .i64 (max a (min v b))) ∧ w = w' := by
  go_enter Try.func9, Try.ntmps9
  go_wp2
  all_goals go_ret
  all_goals refine ⟨?_, rfl⟩
  all_goals first | rfl | (congr 2; omega) | (simp; omega)

set_option maxHeartbeats 16000000 in
set_option maxRecDepth 100000 in
theorem irMore_any (m : Mdl) (hsz : SmM m) (inp oth : List Int) (gv fv iv ov : Value) (st mo : Int) (w : World) (hm : IsM w w.heap.size gv fv m) (hi : IsI w w.heap.size iv inp) (ho : IsI w w.heap.size ov oth) :
    Calls Try.prog 3 #[.agg #[gv, fv, iv, ov, .int .i64 st, .int .i64 mo]] w fun e w' => e = .returned (.bool true) ∧ Below w.heap.size w w' := by
  obtain ⟨gA, gc, rfl, -⟩ := hm.g.sl
  obtain ⟨fA, fc, rfl, -⟩ := hm.f.sl
  obtain ⟨iA, ic, rfl, -⟩ := hi.sl
  obtain ⟨oA, oc, rfl, -⟩ := ho.sl
  have HM := Lib.hid (And.intro hm hi)
  have HB0 : Hid (Calls Try.prog 8 #[] w fun e w' => e = .returned (.bool true) ∧ Below w.heap.size w w') := Lib.hid (known_any w)
  have HK : Hid (∀ W, Calls Try.prog 8 #[] W fun e w' => e = .returned (.bool true) ∧ Below W.heap.size W w') := Lib.hid known_any
  have HSZ := Lib.hid hsz
  obtain ⟨gn, hgn⟩ : ∃ n, m.g.length = n := ⟨_, rfl⟩
  obtain ⟨fn, hfn⟩ : ∃ n, m.f.length = n := ⟨_, rfl⟩
  obtain ⟨inn, hin⟩ : ∃ n, inp.length = n := ⟨_, rfl⟩
  obtain ⟨onn, hon⟩ : ∃ n, oth.length = n := ⟨_, rfl⟩
  rw [hgn, hfn, hin] at HM
  rw [hgn, hfn, hin, hon]
  have HGN := Lib.hid hgn
  have HIN := Lib.hid hin
  clear hm hi ho hsz hgn hfn hin hon HB0
  have hb1 : Below w.heap.size w (w.alloc (.cells #[.slice gA gn gc, .slice fA fn fc, .slice iA inn ic, .slice oA onn oc, .int .i64 st, .int .i64 mo] tSt)) := (Below.refl _ _).alloc (Nat.le_refl _) _
  have hk1 := Blk.new w tSt #[.slice gA gn gc, .slice fA fn fc, .slice iA inn ic, .slice oA onn oc, .int .i64 st, .int .i64 mo]
  have HB1 := Lib.hid (And.intro hb1 hk1)
  clear hb1 hk1
  go_enter Try.func3, Try.ntmps3
  go_upto_region 1 with (fail)
  obtain ⟨H, hH⟩ : ∃ H, w.heap.size = H := ⟨_, rfl⟩
  rw [hH] at HB1 HM
  generalize w.alloc (.cells #[.slice gA gn gc, .slice fA fn fc, .slice iA inn ic, .slice oA onn oc, .int .i64 st, .int .i64 mo] tSt) = W1 at *
  simp only [hH]
  have HH := Lib.hid hH
  clear hH
  have p0 : W1.cell? ⟨H, 0, none⟩ = some (.slice gA gn gc) := HB1.out.2.cell 0
  have p1 : W1.cell? ⟨H, 1, none⟩ = some (.slice fA fn fc) := HB1.out.2.cell 1
  have p2 : W1.cell? ⟨H, 2, none⟩ = some (.slice iA inn ic) := HB1.out.2.cell 2
  have pl := HB1.out.2.lt
  go_region
  have hb2 : Below W1.heap.size W1 (W1.alloc (.cells #[.slice gA gn gc, .slice fA fn fc] tMo)).drew := bd2 W1 _
  have hk2 : Blk (W1.alloc (.cells #[.slice gA gn gc, .slice fA fn fc] tMo)).drew W1.heap.size tMo #[.slice gA gn gc, .slice fA fn fc] := Blk.new W1 tMo _
  have hHW : H ≤ W1.heap.size := by omega
  have HB2 := Lib.hid (And.intro (HB1.out.1.trans (hb2.mono hHW)) (And.intro (HB1.out.2.on hb2) hk2))
  have hl2 := hk2.lt
  clear hb2 hk2 p0 p1 p2
  obtain ⟨g2, hg2⟩ : ∃ g, W1.heap.size = g := ⟨_, rfl⟩
  rw [hg2] at HB2 hl2
  generalize hw2 : (W1.alloc (.cells #[.slice gA gn gc, .slice fA fn fc] tMo)).drew = W2 at *
  simp only [hg2]
  clear hg2 hw2 HB1 pl hHW
  have m0 : W2.cell? ⟨g2, 0, none⟩ = some (.slice gA gn gc) := HB2.out.2.2.cell 0
  have m1 : W2.cell? ⟨g2, 1, none⟩ = some (.slice fA fn fc) := HB2.out.2.2.cell 1
  have HBig := Lib.hid (big_any m _ _ W2 ((HM.out.1.below HB2.out.1).more (by rw [← HH.out]; have := HB2.out.1.size; omega)))
  go_wp2_with fail
  refine HBig.out.mono ?_
  clear HBig m0 m1 hl2
  rintro e W3 ⟨he, hb3⟩
  have HB3 := Lib.hid (And.intro (HB2.out.1.trans (hb3.mono (by rw [← HH.out]; have := HB2.out.1.size; omega))) (And.intro (HB2.out.2.1.on hb3) (HB2.out.2.2.on hb3)))
  clear hb3 HB2
  have HFIN : Hid (∀ W, Below W3.heap.size W3 W → Below w.heap.size w W) := Lib.hid fun W h => by
    rw [HH.out]
    exact HB3.out.1.trans (h.mono (by rw [← HH.out]; exact HB3.out.1.size))
  rcases he with rfl | ⟨rfl, hg20⟩
  · go_wp2_with fail
    refine (HK.out _).mono ?_
    rintro e W4 ⟨rfl, hb4⟩
    have HB4 := Lib.hid (HFIN.out _ hb4)
    clear hb4
    go_wp2_with fail
    go_ret
    exact ⟨rfl, HB4.out⟩
  have HGS := Lib.hid (And.intro hg20 HSZ.out)
  clear hg20
  by_cases hil : (1000 : Int) < inn
  · go_wp2_with fail
    refine (HK.out _).mono ?_
    rintro e W4 ⟨rfl, hb4⟩
    have HB4 := Lib.hid (HFIN.out _ hb4)
    clear hb4
    go_wp2_with fail
    go_ret
    exact ⟨rfl, HB4.out⟩
  have m0 : W3.cell? ⟨g2, 0, none⟩ = some (.slice gA gn gc) := HB3.out.2.2.cell 0
  have m1 : W3.cell? ⟨g2, 1, none⟩ = some (.slice fA fn fc) := HB3.out.2.2.cell 1
  have hl2 := HB3.out.2.2.lt
  have HM3 := Lib.hid (And.intro ((HM.out.1.below HB3.out.1).more (by rw [← HH.out]; exact HB3.out.1.size)) ((HM.out.2.below HB3.out.1).more (by rw [← HH.out]; exact HB3.out.1.size)))
  have HC := Lib.hid (chk_any m HGS.out.2 _ _ W3 HM3.out.1)
  obtain ⟨ck, hck⟩ : ∃ c, chk m = c := ⟨_, rfl⟩
  rw [hck] at HC
  have HCK := Lib.hid hck
  clear hck HM
  by_cases hc0 : ck = 0
  rotate_left
  · go_wp2_with fail
    refine HC.out.mono ?_
    rintro e W4 ⟨rfl, hb4⟩
    have HB4 := Lib.hid (HFIN.out _ hb4)
    have hne : (ck != 0) = true := by simpa using hc0
    clear hb4 m0 m1 hl2
    go_wp2_with fail
    refine (HK.out _).mono ?_
    rintro e W5 ⟨rfl, hb5⟩
    have HB5 := Lib.hid (HB4.out.trans (hb5.mono HB4.out.size))
    clear hb5
    go_wp2_with fail
    go_ret
    exact ⟨rfl, HB5.out⟩
  subst hc0
  go_wp2_with fail
  refine HC.out.mono ?_
  rintro e W4 ⟨rfl, hb4⟩
  clear m0 m1 hl2 HC
  have HM4 := Lib.hid (And.intro (HM3.out.1.on hb4) (And.intro (HM3.out.2.on hb4) (And.intro (HB3.out.2.1.on hb4) (HB3.out.2.2.on hb4))))
  have HB4 := Lib.hid (HFIN.out _ hb4)
  clear hb4 HM3 HB3 HFIN
  have s4 : W4.cell? ⟨H, 4, none⟩ = some (.int .i64 st) := HM4.out.2.2.1.cell 4
  have s5 : W4.cell? ⟨H, 5, none⟩ = some (.int .i64 mo) := HM4.out.2.2.1.cell 5
  have m0 : W4.cell? ⟨g2, 0, none⟩ = some (.slice gA gn gc) := HM4.out.2.2.2.cell 0
  have m1 : W4.cell? ⟨g2, 1, none⟩ = some (.slice fA fn fc) := HM4.out.2.2.2.cell 1
  have sl := HM4.out.2.2.1.lt
  have hl2 := HM4.out.2.2.2.lt
  have HCU : Hid (∀ v, Calls Try.prog 9 #[.int .i64 v, .int .i64 0, .int .i64 8000] W4 fun e w' => (∃ S : Int, 0 ≤ S ∧ S ≤ 8000 ∧ e = .returned (.int .i64 S)) ∧ W4 = w') := Lib.hid fun v =>
    (cut_same v 0 8000 W4).mono fun e w' h => ⟨⟨_, by omega, by omega, h.1⟩, h.2⟩
  go_wp2_with fail
  refine (HCU.out _).mono ?_
  rintro e W5 ⟨⟨S, hS0, hS8, rfl⟩, rfl⟩
  go_wp2_with fail
  refine (HCU.out _).mono ?_
  rintro e W6 ⟨⟨K, hK0, hK8, rfl⟩, rfl⟩
  clear HCU
  have HR : Hid (∀ W n, Below W4.heap.size W4 W → 0 ≤ n → n ≤ 16000 → Calls Try.prog 10 #[.agg #[.slice gA gn gc, .slice fA fn fc], .slice iA inn ic, .int .i64 n] W fun e w' => ∃ A c, e = .returned (.agg #[.slice A (runM m inp n).out.length c, .int .i64 (runM m inp n).status, .int .i64 (runM m inp n).code]) ∧ RdV w' w'.heap.size (.slice A (runM m inp n).out.length c) (runM m inp n).out ∧ Below W.heap.size W w') := Lib.hid fun W n hW h0 h1 =>
    (run_any (HM4.out.1.on hW) (HM4.out.2.1.on hW) HGS.out.2 (by have := HGS.out.1; omega) (by omega) HCK.out).mono fun e w' ⟨ov, e1, e2, e3⟩ => by
      obtain ⟨A, c, rfl, -⟩ := (rdV_row e2).sl
      exact ⟨A, c, e1, rdV_row e2, e3⟩
  have HMA := Lib.hid (runM_more m inp hS0 hK0)
  have HFI := Lib.hid (runM_fine m inp hS0)
  have hJ : Below W4.heap.size W4 W4 := Below.refl _ _
  have HR1 := Lib.hid (HR.out W4 S hJ hS0 (by omega))
  have HR2 : Hid (∀ W, Below W4.heap.size W4 W → _) := Lib.hid fun W hW => HR.out W (S + K) hW (by omega) (by omega)
  generalize runM m inp S = r1 at *
  generalize runM m inp (S + K) = r2 at *
  clear HR hJ
  obtain ⟨o1, t1, k1⟩ := r1
  obtain ⟨o2, t2, k2⟩ := r2
  dsimp only at HMA HFI HR1 HR2
  go_wp2_with fail
  refine HR1.out.mono ?_
  clear HR1
  rintro e W5 ⟨aA, ac, rfl, hrd, hb5⟩
  go_upto_region 7 with (fail)
  have hb6 : Below W4.heap.size W4 (W5.alloc (.cells #[.slice aA o1.length ac, .int .i64 t1, .int .i64 k1] tRn)) := hb5.alloc hb5.size _
  have hk6 := Blk.new W5 tRn #[.slice aA o1.length ac, .int .i64 t1, .int .i64 k1]
  have HRD := Lib.hid (hrd.on ((Below.refl W5.heap.size W5).alloc (Nat.le_refl _) (.cells #[.slice aA o1.length ac, .int .i64 t1, .int .i64 k1] tRn)))
  obtain ⟨g5, hg5⟩ : ∃ g, W5.heap.size = g := ⟨_, rfl⟩
  rw [hg5] at hk6
  generalize hw6 : W5.alloc (.cells #[.slice aA o1.length ac, .int .i64 t1, .int .i64 k1] tRn) = W6 at *
  simp only [hg5]
  have HB6 := Lib.hid (And.intro hb6 hk6)
  have hk9 := HM4.out.2.2.2.on hb6
  have m0 : W6.cell? ⟨g2, 0, none⟩ = some (.slice gA gn gc) := hk9.cell 0
  have m1 : W6.cell? ⟨g2, 1, none⟩ = some (.slice fA fn fc) := hk9.cell 1
  have hl2 := hk9.lt
  clear s4 s5 hb6 hk6 hb5 hw6 hg5 hrd hk9
  have HR3 := Lib.hid (HR2.out W6 HB6.out.1)
  clear HR2
  go_wp2_with fail
  refine HR3.out.mono ?_
  clear HR3
  rintro e W7 ⟨bA, bc, rfl, hrd, hb7⟩
  go_upto_region 8 with (fail)
  have hb8 : Below W6.heap.size W6 (W7.alloc (.cells #[.slice bA o2.length bc, .int .i64 t2, .int .i64 k2] tRn)) := hb7.alloc hb7.size _
  have hk8 := Blk.new W7 tRn #[.slice bA o2.length bc, .int .i64 t2, .int .i64 k2]
  have HRE := Lib.hid (hrd.on ((Below.refl W7.heap.size W7).alloc (Nat.le_refl _) (.cells #[.slice bA o2.length bc, .int .i64 t2, .int .i64 k2] tRn)))
  obtain ⟨g7, hg7⟩ : ∃ g, W7.heap.size = g := ⟨_, rfl⟩
  rw [hg7] at hk8
  generalize hw8 : W7.alloc (.cells #[.slice bA o2.length bc, .int .i64 t2, .int .i64 k2] tRn) = W8 at *
  simp only [hg7]
  have HRD8 := Lib.hid (HRD.out.on hb8)
  have HB8 := Lib.hid (And.intro (HB4.out.trans ((HB6.out.1.trans (hb8.mono HB6.out.1.size)).mono HB4.out.size)) (And.intro (HB6.out.2.on hb8) hk8))
  clear m0 m1 hl2 hb8 hk8 hb7 hw8 hg7 hrd HRD HB6
  have hn1 : (o1.length : Int) ≤ S := HFI.out.2
  have hn2 : o1.length ≤ o2.length := HMA.out.1.length_le
  have ht1 : 1 ≤ t1 := by have := HFI.out.1; unfold Ran.fine at this; dsimp only at this; omega
  have ht3 : t1 ≤ 3 := by have := HFI.out.1; unfold Ran.fine at this; dsimp only at this; omega
  have e12 : o2.take o1.length = o1 := (List.prefix_iff_eq_take.1 HMA.out.1).symm
  have HSL := Lib.hid (HRE.out.take hn2)
  rw [e12] at HSL
  have hcap : o2.length ≤ bc := by obtain ⟨_, _, e, h, _⟩ := HRE.out; cases e; exact h
  have hnone : bA = none → bc = 0 := by obtain ⟨_, _, e, _, _, h, _⟩ := HRE.out; cases e; exact h
  have hcm : bc ≤ maxLen := by obtain ⟨_, _, e, _, h, _, _⟩ := HRE.out; cases e; exact h
  unfold maxLen at hcm
  have HSI : Hid (∀ W, Below W8.heap.size W8 W → Calls Try.prog 11 #[.slice bA o1.length bc, .slice aA o1.length ac] W fun e w' => e = .returned (.bool true) ∧ Below W8.heap.size W8 w') := Lib.hid fun W hW =>
    (sameI_any o1 _ _ _ _ W (HSL.out.below hW) (HRD8.out.below hW)).mono fun e w' ⟨h1, d, h2⟩ => ⟨h1, by rw [h2]; exact hW.trans ((below_drewN _ _ _))⟩
  have a0 : W8.cell? ⟨g5, 0, none⟩ = some (.slice aA o1.length ac) := HB8.out.2.1.cell 0
  have a1 : W8.cell? ⟨g5, 1, none⟩ = some (.int .i64 t1) := HB8.out.2.1.cell 1
  have al := HB8.out.2.1.lt
  have b0 : W8.cell? ⟨g7, 0, none⟩ = some (.slice bA o2.length bc) := HB8.out.2.2.cell 0
  have bl := HB8.out.2.2.lt
  have J : Below W8.heap.size W8 W8 := Below.refl _ _
  have HS : Hid (∀ Wx, Below W8.heap.size W8 Wx → Wx.cell? ⟨g5, 0, none⟩ = some (.slice aA o1.length ac) ∧ Wx.cell? ⟨g5, 1, none⟩ = some (.int .i64 t1) ∧ Wx.cell? ⟨g7, 0, none⟩ = some (.slice bA o2.length bc) ∧ g5 < Wx.heap.size ∧ g7 < Wx.heap.size) := Lib.hid fun Wx h => by
    have hz := h.size
    exact ⟨(h.cell (p := ⟨g5, 0, none⟩) al).trans a0, (h.cell (p := ⟨g5, 1, none⟩) al).trans a1, (h.cell (p := ⟨g7, 0, none⟩) bl).trans b0, by omega, by omega⟩
  have HNN := Lib.hid hnone
  clear hnone e12
  generalize hn1' : o1.length = n1 at *
  generalize hn2' : o2.length = n2 at *
  have u1 : decide (t1 < 1) = false := by simp; omega
  have u2 : decide (3 < t1) = false := by simp; omega
  have u3 : decide (S < (n1 : Int)) = false := by simp; omega
  have u4 : decide ((n2 : Int) < (n1 : Int)) = false := by simp; omega
  have u5 : decide (n2 < n1) = false := by simp; omega
  have i1 : (0 : Int) ≤ (n1 : Int) := by omega
  have i2 : (n1 : Int) ≤ (bc : Int) := by omega
  have i3 : (n1 : Int) ≤ (n2 : Int) := by omega
  have HSR : Hid (t1 ≠ 3 → (n2 = n1 ∧ t2 = t1 ∧ k2 = k1) ∧ ∀ W, Below W8.heap.size W8 W → Calls Try.prog 12 #[.agg #[.slice aA n1 ac, .int .i64 t1, .int .i64 k1], .agg #[.slice bA n1 bc, .int .i64 t1, .int .i64 k1]] W fun e w' => e = .returned (.bool true) ∧ Below W8.heap.size W8 w') := Lib.hid fun hne => by
    have h9 := HMA.out.2 hne
    simp only [Ran.mk.injEq] at h9
    obtain ⟨e1, e2, e3⟩ := h9
    subst e1 e2 e3
    have e4 : n2 = n1 := by rw [← hn1', ← hn2']
    subst e4
    refine ⟨⟨rfl, rfl, rfl⟩, fun W hW => ?_⟩
    have h8 := sameR_any ⟨_, t2, k2⟩ (.slice aA n2 ac) (.slice bA n2 bc) W8.heap.size W8.heap.size W hW.size hW.size (HRD8.out.below hW) (HRE.out.below hW)
    exact h8.mono fun e w' h => ⟨h.1, hW.trans (h.2.mono hW.size)⟩
  have HFK := Lib.hid HFI.out.1
  have c0 : W8.cell? ⟨g5, 2, none⟩ = some (.int .i64 k1) := HB8.out.2.1.cell 2
  have HEND : Hid (∀ W, Below W8.heap.size W8 W → Below w.heap.size w W ∧ (W.cell? ⟨g5, 0, none⟩ = some (.slice aA n1 ac) ∧ W.cell? ⟨g5, 1, none⟩ = some (.int .i64 t1) ∧ W.cell? ⟨g5, 2, none⟩ = some (.int .i64 k1) ∧ g5 < W.heap.size) ∧ W.cell? ⟨g7, 0, none⟩ = some (.slice bA n2 bc) ∧ W.cell? ⟨g7, 1, none⟩ = some (.int .i64 t2) ∧ W.cell? ⟨g7, 2, none⟩ = some (.int .i64 k2) ∧ g7 < W.heap.size) := Lib.hid fun W hW => by
    have h5 := HB8.out.2.1.on hW
    have h7 := HB8.out.2.2.on hW
    exact ⟨HB8.out.1.trans (hW.mono HB8.out.1.size), ⟨h5.cell 0, h5.cell 1, h5.cell 2, h5.lt⟩, h7.cell 0, h7.cell 1, h7.cell 2, h7.lt⟩
  clear hn1' hn2' HMA HFI HRE HRD8 HSL HB8 HM4 HB4 HCK HGS HSZ hcm c0
  rcases bA with _ | ⟨bg, bo, bs⟩
  · obtain rfl : bc = 0 := HNN.out rfl
    obtain rfl : n2 = 0 := by omega
    obtain rfl : n1 = 0 := by omega
    have u6 : decide (S < 0) = false := by simp; omega
    clear u3 u4 u5 i1 i2 i3
    go_region_held3 (fun Wx => Wx.cell? ⟨g5, 0, none⟩ = some (.slice aA 0 ac) ∧ Wx.cell? ⟨g5, 1, none⟩ = some (.int .i64 t1) ∧ Wx.cell? ⟨g7, 0, none⟩ = some (.slice none 0 0) ∧ g5 < Wx.heap.size ∧ g7 < Wx.heap.size)
      (first | exact ⟨a0, a1, b0, al, bl⟩ | exact HS.out _ J)
      (first
        | (go_at_call 11; (with_reducible refine Calls.mono (HSI.out _ ?hw) ?_); (case hw => first | exact J | exact J.drew); rintro e v1 ⟨rfl, J⟩))
    all_goals
      clear a0 a1 b0 al bl HS HSI u1 u2 u6
      obtain ⟨hE0, ⟨a0, a1, a2, al⟩, b0, b1, b2, bl⟩ := HEND.out v1 J
      have HE0 := Lib.hid hE0
      have HJ := Lib.hid J
      clear hE0 J
      rcases HFK.out with h1 | ⟨h1, h2⟩ | ⟨h1, h2, h3⟩
      · dsimp only at h1
        subst h1
        obtain ⟨⟨-, rfl, rfl⟩, hcall⟩ := HSR.out (by decide)
        have HCL := Lib.hid hcall
        clear hcall HSR HFK
        go_wp2_with fail
        refine (HCL.out _ HJ.out).mono ?_
        rintro e v2 ⟨rfl, J2⟩
        obtain ⟨hE0, ⟨a0, a1, a2, al⟩, b0, b1, b2, bl⟩ := HEND.out v2 J2
        have HE2 := Lib.hid hE0
        clear hE0 J2 HEND
        go_wp2_with fail
        refine (HK.out _).mono ?_
        rintro e v3 ⟨rfl, hb3⟩
        have HE3 := Lib.hid (HE2.out.trans (hb3.mono HE2.out.size))
        clear hb3
        go_wp2_with fail
        go_ret
        exact ⟨rfl, HE3.out⟩
      · dsimp only at h1 h2
        subst h1 h2
        clear HSR HFK HEND
        go_wp2_with fail
        refine (HK.out _).mono ?_
        rintro e v3 ⟨rfl, hb3⟩
        have HE3 := Lib.hid (HE0.out.trans (hb3.mono HE0.out.size))
        clear hb3
        go_wp2_with fail
        go_ret
        exact ⟨rfl, HE3.out⟩
      · dsimp only at h1 h2 h3
        subst h1
        obtain ⟨⟨-, rfl, rfl⟩, hcall⟩ := HSR.out (by decide)
        have HCL := Lib.hid hcall
        clear hcall HSR HFK
        go_wp2_with fail
        refine (HCL.out _ HJ.out).mono ?_
        rintro e v2 ⟨rfl, J2⟩
        obtain ⟨hE0, ⟨a0, a1, a2, al⟩, b0, b1, b2, bl⟩ := HEND.out v2 J2
        have HE2 := Lib.hid hE0
        clear hE0 J2 HEND
        go_wp2_with fail
        refine (HK.out _).mono ?_
        rintro e v3 ⟨rfl, hb3⟩
        have HE3 := Lib.hid (HE2.out.trans (hb3.mono HE2.out.size))
        clear hb3
        go_wp2_with fail
        go_ret
        exact ⟨rfl, HE3.out⟩
  · go_region_held3 (fun Wx => Wx.cell? ⟨g5, 0, none⟩ = some (.slice aA n1 ac) ∧ Wx.cell? ⟨g5, 1, none⟩ = some (.int .i64 t1) ∧ Wx.cell? ⟨g7, 0, none⟩ = some (.slice (some ⟨bg, bo, bs⟩) n2 bc) ∧ g5 < Wx.heap.size ∧ g7 < Wx.heap.size)
      (first | exact ⟨a0, a1, b0, al, bl⟩ | exact HS.out _ J)
      (first
        | (go_at_call 11; (with_reducible refine Calls.mono (HSI.out _ ?hw) ?_); (case hw => first | exact J | exact J.drew); rintro e v1 ⟨rfl, J⟩))
    all_goals
      clear a0 a1 b0 al bl HS HSI u1 u2 u3 u4 u5 i1 i2 i3
      obtain ⟨hE0, ⟨a0, a1, a2, al⟩, b0, b1, b2, bl⟩ := HEND.out v1 J
      have HE0 := Lib.hid hE0
      have HJ := Lib.hid J
      clear hE0 J
      rcases HFK.out with h1 | ⟨h1, h2⟩ | ⟨h1, h2, h3⟩
      · dsimp only at h1
        subst h1
        obtain ⟨⟨rfl, rfl, rfl⟩, hcall⟩ := HSR.out (by decide)
        have HCL := Lib.hid hcall
        clear hcall HSR HFK
        go_wp2_with fail
        refine (HCL.out _ HJ.out).mono ?_
        rintro e v2 ⟨rfl, J2⟩
        obtain ⟨hE0, ⟨a0, a1, a2, al⟩, b0, b1, b2, bl⟩ := HEND.out v2 J2
        have HE2 := Lib.hid hE0
        clear hE0 J2 HEND
        go_wp2_with fail
        refine (HK.out _).mono ?_
        rintro e v3 ⟨rfl, hb3⟩
        have HE3 := Lib.hid (HE2.out.trans (hb3.mono HE2.out.size))
        clear hb3
        go_wp2_with fail
        go_ret
        exact ⟨rfl, HE3.out⟩
      · dsimp only at h1 h2
        subst h1 h2
        clear HSR HFK HEND
        go_wp2_with fail
        refine (HK.out _).mono ?_
        rintro e v3 ⟨rfl, hb3⟩
        have HE3 := Lib.hid (HE0.out.trans (hb3.mono HE0.out.size))
        clear hb3
        go_wp2_with fail
        go_ret
        exact ⟨rfl, HE3.out⟩
      · dsimp only at h1 h2 h3
        subst h1
        obtain ⟨⟨rfl, rfl, rfl⟩, hcall⟩ := HSR.out (by decide)
        have HCL := Lib.hid hcall
        clear hcall HSR HFK
        go_wp2_with fail
        refine (HCL.out _ HJ.out).mono ?_
        rintro e v2 ⟨rfl, J2⟩
        obtain ⟨hE0, ⟨a0, a1, a2, al⟩, b0, b1, b2, bl⟩ := HEND.out v2 J2
        have HE2 := Lib.hid hE0
        clear hE0 J2 HEND
        go_wp2_with fail
        refine (HK.out _).mono ?_
        rintro e v3 ⟨rfl, hb3⟩
        have HE3 := Lib.hid (HE2.out.trans (hb3.mono HE2.out.size))
        clear hb3
        go_wp2_with fail
        go_ret
        exact ⟨rfl, HE3.out⟩
end Go.Proofs.Ytgcjfbgfoiekmaa
