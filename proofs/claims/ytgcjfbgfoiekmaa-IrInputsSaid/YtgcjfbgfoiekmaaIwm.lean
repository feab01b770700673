/-
  IrInputs: the walk.
-/
import Derived.Test.YtgcjfbgfoiekmaaIwl
import Derived.Deep.Cut
import Derived.Deep.CutRange
namespace Go.Proofs.Ytgcjfbgfoiekmaa
open Go Go.RowKit Go.Maps
set_option linter.unusedVariables false
set_option linter.unusedSimpArgs false

theorem reads_any (A : Option Addr) (n c : Nat) (S : Int) (w : World) (h0 : 0 ≤ S) : Calls Try.prog 14 #[.slice A n c, .int .i64 S] w fun e w' => (∃ k : Nat, (k < n → S = (k : Int)) ∧ k ≤ n ∧ e = .returned (.int .i64 (k : Nat))) ∧ w = w' := by
  obtain ⟨Sn, rfl⟩ := Int.eq_ofNat_of_zero_le h0
  go_enter Try.func14, Try.ntmps14
  go_wp2
  all_goals go_ret
  all_goals refine ⟨⟨min n Sn, by omega, by omega, ?_⟩, rfl⟩
  all_goals first | rfl | (congr 2; omega) | (simp; omega)

set_option maxHeartbeats 16000000 in
set_option maxRecDepth 100000 in
theorem irInputs_any (m : Mdl) (hsz : SmM m) (inp oth : List Int) (gv fv iv ov : Value) (st mo : Int) (w : World) (hm : IsM w w.heap.size gv fv m) (hi : IsI w w.heap.size iv inp) (ho : IsI w w.heap.size ov oth) :
    Calls Try.prog 4 #[.agg #[gv, fv, iv, ov, .int .i64 st, .int .i64 mo]] w fun e w' => e = .returned (.bool true) ∧ Below w.heap.size w w' := by
  obtain ⟨gA, gc, rfl, -⟩ := hm.g.sl
  obtain ⟨fA, fc, rfl, -⟩ := hm.f.sl
  obtain ⟨iA, ic, rfl, -⟩ := hi.sl
  obtain ⟨oA, oc, rfl, -⟩ := ho.sl
  have HM := Lib.hid (And.intro hm hi)
  have HO := Lib.hid ho
  have HB0 : Hid (Calls Try.prog 8 #[] w fun e w' => e = .returned (.bool true) ∧ Below w.heap.size w w') := Lib.hid (known_any w)
  have HK : Hid (∀ W, Calls Try.prog 8 #[] W fun e w' => e = .returned (.bool true) ∧ Below W.heap.size W w') := Lib.hid known_any
  have HSZ := Lib.hid hsz
  obtain ⟨gn, hgn⟩ : ∃ n, m.g.length = n := ⟨_, rfl⟩
  obtain ⟨fn, hfn⟩ : ∃ n, m.f.length = n := ⟨_, rfl⟩
  obtain ⟨inn, hin⟩ : ∃ n, inp.length = n := ⟨_, rfl⟩
  obtain ⟨onn, hon⟩ : ∃ n, oth.length = n := ⟨_, rfl⟩
  rw [hgn, hfn, hin] at HM
  rw [hon] at HO
  have HON := Lib.hid hon
  rw [hgn, hfn, hin, hon]
  have HGN := Lib.hid hgn
  have HIN := Lib.hid hin
  clear hm hi ho hsz hgn hfn hin hon HB0
  have hb1 : Below w.heap.size w (w.alloc (.cells #[.slice gA gn gc, .slice fA fn fc, .slice iA inn ic, .slice oA onn oc, .int .i64 st, .int .i64 mo] tSt)) := (Below.refl _ _).alloc (Nat.le_refl _) _
  have hk1 := Blk.new w tSt #[.slice gA gn gc, .slice fA fn fc, .slice iA inn ic, .slice oA onn oc, .int .i64 st, .int .i64 mo]
  have HB1 := Lib.hid (And.intro hb1 hk1)
  clear hb1 hk1
  go_enter Try.func4, Try.ntmps4
  go_upto_region 1 with (fail)
  obtain ⟨H, hH⟩ : ∃ H, w.heap.size = H := ⟨_, rfl⟩
  rw [hH] at HB1 HM HO
  generalize w.alloc (.cells #[.slice gA gn gc, .slice fA fn fc, .slice iA inn ic, .slice oA onn oc, .int .i64 st, .int .i64 mo] tSt) = W1 at *
  simp only [hH]
  have HH := Lib.hid hH
  clear hH
  have p0 : W1.cell? ⟨H, 0, none⟩ = some (.slice gA gn gc) := HB1.out.2.cell 0
  have p1 : W1.cell? ⟨H, 1, none⟩ = some (.slice fA fn fc) := HB1.out.2.cell 1
  have p2 : W1.cell? ⟨H, 2, none⟩ = some (.slice iA inn ic) := HB1.out.2.cell 2
  have p3 : W1.cell? ⟨H, 3, none⟩ = some (.slice oA onn oc) := HB1.out.2.cell 3
  have pl := HB1.out.2.lt
  go_region
  have hb2 : Below W1.heap.size W1 (W1.alloc (.cells #[.slice gA gn gc, .slice fA fn fc] tMo)).drew := bd2 W1 _
  have hk2 : Blk (W1.alloc (.cells #[.slice gA gn gc, .slice fA fn fc] tMo)).drew W1.heap.size tMo #[.slice gA gn gc, .slice fA fn fc] := Blk.new W1 tMo _
  have hHW : H ≤ W1.heap.size := by omega
  have HB2 := Lib.hid (And.intro (HB1.out.1.trans (hb2.mono hHW)) (And.intro (HB1.out.2.on hb2) hk2))
  have hl2 := hk2.lt
  clear hb2 hk2 p0 p1 p2 p3
  obtain ⟨g2, hg2⟩ : ∃ g, W1.heap.size = g := ⟨_, rfl⟩
  rw [hg2] at HB2 hl2
  generalize hw2 : (W1.alloc (.cells #[.slice gA gn gc, .slice fA fn fc] tMo)).drew = W2 at *
  simp only [hg2]
  clear hg2 hw2 HB1 pl hHW
  have m0 : W2.cell? ⟨g2, 0, none⟩ = some (.slice gA gn gc) := HB2.out.2.2.cell 0
  have m1 : W2.cell? ⟨g2, 1, none⟩ = some (.slice fA fn fc) := HB2.out.2.2.cell 1
  have HBig := Lib.hid (big_any m _ _ W2 ((HM.out.1.below HB2.out.1).more (by rw [← HH.out]; have := HB2.out.1.size; omega)))
  go_wp2_with fail
  refine HBig.out.mono ?_
  clear HBig m0 m1 hl2
  rintro e W3 ⟨he, hb3⟩
  have HB3 := Lib.hid (And.intro (HB2.out.1.trans (hb3.mono (by rw [← HH.out]; have := HB2.out.1.size; omega))) (And.intro (HB2.out.2.1.on hb3) (HB2.out.2.2.on hb3)))
  clear hb3 HB2
  have HFIN : Hid (∀ W, Below W3.heap.size W3 W → Below w.heap.size w W) := Lib.hid fun W h => by
    rw [HH.out]
    exact HB3.out.1.trans (h.mono (by rw [← HH.out]; exact HB3.out.1.size))
  rcases he with rfl | ⟨rfl, hg20⟩
  · go_wp2_with fail
    refine (HK.out _).mono ?_
    rintro e W4 ⟨rfl, hb4⟩
    have HB4 := Lib.hid (HFIN.out _ hb4)
    clear hb4
    go_wp2_with fail
    go_ret
    exact ⟨rfl, HB4.out⟩
  have HGS := Lib.hid (And.intro hg20 HSZ.out)
  clear hg20
  by_cases hil : (1000 : Int) < inn
  · go_wp2_with fail
    refine (HK.out _).mono ?_
    rintro e W4 ⟨rfl, hb4⟩
    have HB4 := Lib.hid (HFIN.out _ hb4)
    clear hb4
    go_wp2_with fail
    go_ret
    exact ⟨rfl, HB4.out⟩
  by_cases hol : (1000 : Int) < onn
  · go_wp2_with fail
    refine (HK.out _).mono ?_
    rintro e W4 ⟨rfl, hb4⟩
    have HB4 := Lib.hid (HFIN.out _ hb4)
    clear hb4
    go_wp2_with fail
    go_ret
    exact ⟨rfl, HB4.out⟩
  have m0 : W3.cell? ⟨g2, 0, none⟩ = some (.slice gA gn gc) := HB3.out.2.2.cell 0
  have m1 : W3.cell? ⟨g2, 1, none⟩ = some (.slice fA fn fc) := HB3.out.2.2.cell 1
  have hl2 := HB3.out.2.2.lt
  have HM3 := Lib.hid (And.intro ((HM.out.1.below HB3.out.1).more (by rw [← HH.out]; exact HB3.out.1.size)) ((HM.out.2.below HB3.out.1).more (by rw [← HH.out]; exact HB3.out.1.size)))
  have HC := Lib.hid (chk_any m HGS.out.2 _ _ W3 HM3.out.1)
  obtain ⟨ck, hck⟩ : ∃ c, chk m = c := ⟨_, rfl⟩
  rw [hck] at HC
  have HCK := Lib.hid hck
  clear hck
  by_cases hc0 : ck = 0
  rotate_left
  · go_wp2_with fail
    refine HC.out.mono ?_
    rintro e W4 ⟨rfl, hb4⟩
    have HB4 := Lib.hid (HFIN.out _ hb4)
    have hne : (ck != 0) = true := by simpa using hc0
    clear hb4 m0 m1 hl2
    go_wp2_with fail
    refine (HK.out _).mono ?_
    rintro e W5 ⟨rfl, hb5⟩
    have HB5 := Lib.hid (HB4.out.trans (hb5.mono HB4.out.size))
    clear hb5
    go_wp2_with fail
    go_ret
    exact ⟨rfl, HB5.out⟩
  subst hc0
  go_wp2_with fail
  refine HC.out.mono ?_
  rintro e W4 ⟨rfl, hb4⟩
  clear m0 m1 hl2 HC
  have HM4 := Lib.hid (And.intro (HM3.out.1.on hb4) (And.intro (HM3.out.2.on hb4) (And.intro (HB3.out.2.1.on hb4) (HB3.out.2.2.on hb4))))
  have HB4 := Lib.hid (HFIN.out _ hb4)
  have HO4 := Lib.hid ((HO.out.below (by rw [← HH.out]; exact HB4.out)).more (by rw [← HH.out]; exact HB4.out.size))
  clear hb4 HM3 HB3 HFIN
  have s4 : W4.cell? ⟨H, 4, none⟩ = some (.int .i64 st) := HM4.out.2.2.1.cell 4
  have m0 : W4.cell? ⟨g2, 0, none⟩ = some (.slice gA gn gc) := HM4.out.2.2.2.cell 0
  have m1 : W4.cell? ⟨g2, 1, none⟩ = some (.slice fA fn fc) := HM4.out.2.2.2.cell 1
  have sl := HM4.out.2.2.1.lt
  have hl2 := HM4.out.2.2.2.lt
  have HCU : Hid (∀ v, Calls Try.prog 9 #[.int .i64 v, .int .i64 0, .int .i64 2000] W4 fun e w' => (∃ S : Int, 0 ≤ S ∧ S ≤ 2000 ∧ e = .returned (.int .i64 S)) ∧ W4 = w') := Lib.hid fun v =>
    (cut_same v 0 2000 W4).mono fun e w' h => ⟨⟨_, by omega, by omega, h.1⟩, h.2⟩
  go_wp2_with fail
  refine (HCU.out _).mono ?_
  rintro e W5 ⟨⟨S, hS0, hS8, rfl⟩, rfl⟩
  clear HCU
  have HRN : Hid (∀ W il iv, Below W4.heap.size W4 W → IsI W W.heap.size iv il → Calls Try.prog 10 #[.agg #[.slice gA gn gc, .slice fA fn fc], iv, .int .i64 S] W fun e w' => ∃ A c, e = .returned (.agg #[.slice A (runM m il S).out.length c, .int .i64 (runM m il S).status, .int .i64 (runM m il S).code]) ∧ w'.ownsRow W.heap.size tI1 1 (.slice A (runM m il S).out.length c) (runM m il S).out.length ((runM m il S).out.map (Value.int .i64)) ∧ Below W.heap.size W w') := Lib.hid fun W il iv hW hI =>
    (run_any (HM4.out.1.on hW) hI HGS.out.2 (by have := HGS.out.1; omega) (by omega) HCK.out).mono fun e w' ⟨ov, e1, e2, e3⟩ => by
      obtain ⟨A, c, rfl, -⟩ := (rdV_row e2).sl
      exact ⟨A, c, e1, e2, e3⟩
  obtain ⟨r1, hr1⟩ : ∃ r, runM m inp S = r := ⟨_, rfl⟩
  have HR1 := Lib.hid (HRN.out W4 inp _ (Below.refl _ _) HM4.out.2.1)
  rw [hr1] at HR1
  have HRE := Lib.hid hr1
  obtain ⟨o1, t1, k1⟩ := r1
  dsimp only at HR1
  clear hr1
  go_wp2_with fail
  refine HR1.out.mono ?_
  clear HR1
  rintro e W5 ⟨aA, ac, rfl, hrw, hb5⟩
  have hrd := rdV_row hrw
  clear hrw
  go_upto_region 6 with (fail)
  have hb6 : Below W4.heap.size W4 (W5.alloc (.cells #[.slice aA o1.length ac, .int .i64 t1, .int .i64 k1] tRn)) := hb5.alloc hb5.size _
  have hk6 := Blk.new W5 tRn #[.slice aA o1.length ac, .int .i64 t1, .int .i64 k1]
  have HRD := Lib.hid (hrd.on ((Below.refl W5.heap.size W5).alloc (Nat.le_refl _) (.cells #[.slice aA o1.length ac, .int .i64 t1, .int .i64 k1] tRn)))
  obtain ⟨g5, hg5⟩ : ∃ g, W5.heap.size = g := ⟨_, rfl⟩
  rw [hg5] at hk6
  generalize hw6 : W5.alloc (.cells #[.slice aA o1.length ac, .int .i64 t1, .int .i64 k1] tRn) = W6 at *
  simp only [hg5]
  have HB6 := Lib.hid (And.intro hb6 hk6)
  have hk9 := HM4.out.2.2.2.on hb6
  have m0 : W6.cell? ⟨g2, 0, none⟩ = some (.slice gA gn gc) := hk9.cell 0
  have m1 : W6.cell? ⟨g2, 1, none⟩ = some (.slice fA fn fc) := hk9.cell 1
  have hl2 := hk9.lt
  clear hb6 hk6 hb5 hw6 hg5 hrd hk9
  have hil2 : inn ≤ 1000 := by omega
  have HCP : Hid (∀ W, Below W6.heap.size W6 W → Calls Try.prog 13 #[.slice iA inn ic] W fun e w' => ∃ A c, e = .returned (.slice A inn c) ∧ w'.ownsRow W6.heap.size tI1 1 (.slice A inn c) inn (inp.map (Value.int .i64)) ∧ Below W6.heap.size W6 w' ∧ Below W.heap.size W w') := Lib.hid fun W hW => by
    have h9 := copyI_any inp (by rw [HIN.out]; omega) (.slice iA inn ic) W ((HM4.out.2.1.on (HB6.out.1.trans (hW.mono HB6.out.1.size))).rd)
    rw [HIN.out] at h9
    refine h9.mono fun e w' ⟨v, h1, h2, h3⟩ => ?_
    obtain ⟨A, c, rfl⟩ := ownsRow_form h2
    exact ⟨A, c, h1, rowDown h2 hW.size, hW.trans (h3.mono hW.size), h3⟩
  have HR2 : Hid (∀ W g cap, Below W6.heap.size W6 W → W.ownsRow W6.heap.size tI1 1 (.slice (some ⟨g, 0, none⟩) (inn + 9) cap) (inn + 9) (inp.map (Value.int .i64) ++ noughts) → Calls Try.prog 10 #[.agg #[.slice gA gn gc, .slice fA fn fc], .slice (some ⟨g, 0, none⟩) (inn + 9) cap, .int .i64 S] W fun e w' => ∃ A c, e = .returned (.agg #[.slice A o1.length c, .int .i64 t1, .int .i64 k1]) ∧ w'.ownsRow W.heap.size tI1 1 (.slice A o1.length c) o1.length (o1.map (Value.int .i64)) ∧ Below W.heap.size W w') := Lib.hid fun W g cap hW hrow => by
    have e1 : inp.map (Value.int .i64) ++ noughts = (inp ++ List.replicate 9 (0 : Int)).map (Value.int .i64) := by simp [noughts]
    have e2 : (inp ++ List.replicate 9 (0 : Int)).length = inn + 9 := by simp [HIN.out]
    rw [e1] at hrow
    have hI : IsI W W.heap.size (.slice (some ⟨g, 0, none⟩) (inn + 9) cap) (inp ++ List.replicate 9 (0 : Int)) := by
      have h8 := isI_row (base := W6.heap.size) (v := .slice (some ⟨g, 0, none⟩) (inn + 9) cap) (l := inp ++ List.replicate 9 (0 : Int)) (by rw [e2]; exact hrow) (by
        intro x hx
        rcases List.mem_append.1 hx with h | h
        · exact HM4.out.2.1.all x h
        · rw [List.eq_of_mem_replicate h]; exact iw_small (by decide))
      exact h8
    have h9 := HRN.out W _ _ (HB6.out.1.trans (hW.mono HB6.out.1.size)) hI
    rw [runM_noughts, HRE.out] at h9
    exact h9
  have J : Below W6.heap.size W6 W6 := Below.refl _ _
  go_cut [8] from 42 to 47 (fun c wx => ∃ g8 bA bc, c = .pointer (some ⟨g8, 0, none⟩) ∧ Below W6.heap.size W6 wx ∧ Blk wx g8 tRn #[.slice bA o1.length bc, .int .i64 t1, .int .i64 k1] ∧ RdV wx wx.heap.size (.slice bA o1.length bc) o1)
  case first =>
    go_region_law (first
    | (go_simp; go_at_call 13; (with_reducible refine Calls.mono (HCP.out _ ?hw) ?_); (case hw => first | exact J | exact J.drew | exact J.drew.alloc J.size _); rintro e v1 ⟨A1, c1, rfl, hown1, J1, JW1⟩; have m0a : v1.cell? ⟨g2, 0, none⟩ = some (.slice gA gn gc) := (J1.cell (p := ⟨g2, 0, none⟩) hl2).trans m0; have m1a : v1.cell? ⟨g2, 1, none⟩ = some (.slice fA fn fc) := (J1.cell (p := ⟨g2, 1, none⟩) hl2).trans m1; have mla : g2 < v1.heap.size := Nat.lt_of_lt_of_le hl2 J1.size; have HO1 := Lib.hid hown1; (first | (have HB1 : Hid (Blk v1 W6.heap.size tRn #[.slice none 0 0, .int .i64 0, .int .i64 0]) := Lib.hid ((Blk.new W6.drew tRn #[.slice none 0 0, .int .i64 0, .int .i64 0]).on JW1)) | skip); clear hown1 JW1)
    | (obtain ⟨g9, cap9, v2, hr9, hown2, hgr2⟩ := run_zeros v1 W6.heap.size tIs (.slice A1 inn c1) inn _ HO1.out (by omega) J1.size; (refine step_append_run rfl (.tmp 44) (.const (.int .i64 9)) tIs tI1 rfl (.slice A1 inn c1) (.int .i64 9) (by simp [Act.eval, Act.put]) (by simp [Act.eval]) _ _ hr9 ?_); have J2 : Below W6.heap.size W6 v2 := J1.grown hgr2 J1.size (fun k hk => (HO1.out.lt k hk).1); (first | (have HB2 : Hid (W6.heap.size ≤ W6.heap.size ∧ Blk v2 W6.heap.size tRn #[.slice none 0 0, .int .i64 0, .int .i64 0]) := Lib.hid ⟨Nat.le_refl _, HB1.out.kept hgr2 (HB1.out.not_row (by decide) HO1.out)⟩) | skip); have HO2 := Lib.hid hown2; have m0b : v2.cell? ⟨g2, 0, none⟩ = some (.slice gA gn gc) := (J2.cell (p := ⟨g2, 0, none⟩) hl2).trans m0; have m1b : v2.cell? ⟨g2, 1, none⟩ = some (.slice fA fn fc) := (J2.cell (p := ⟨g2, 1, none⟩) hl2).trans m1; have mlb : g2 < v2.heap.size := Nat.lt_of_lt_of_le hl2 J2.size; clear hown2 hgr2 hr9)
    | (obtain ⟨g9, cap9, v2, hr9, hown2, hgr2⟩ := run_zeros (v1.alloc (.cells #[.slice none 0 0, .int .i64 0, .int .i64 0] tRn)) W6.heap.size tIs (.slice A1 inn c1) inn _ (HO1.out.alloc (.cells #[.slice none 0 0, .int .i64 0, .int .i64 0] tRn)) (by omega) (J1.alloc J1.size (.cells #[.slice none 0 0, .int .i64 0, .int .i64 0] tRn)).size; (refine step_append_run rfl (.tmp 44) (.const (.int .i64 9)) tIs tI1 rfl (.slice A1 inn c1) (.int .i64 9) (by simp [Act.eval, Act.put]) (by simp [Act.eval]) _ _ hr9 ?_); have J2 : Below W6.heap.size W6 v2 := (J1.alloc J1.size (.cells #[.slice none 0 0, .int .i64 0, .int .i64 0] tRn)).grown hgr2 (J1.alloc J1.size (.cells #[.slice none 0 0, .int .i64 0, .int .i64 0] tRn)).size (fun k hk => ((HO1.out.alloc (.cells #[.slice none 0 0, .int .i64 0, .int .i64 0] tRn)).lt k hk).1); have HB2 : Hid (W6.heap.size ≤ v1.heap.size ∧ Blk v2 v1.heap.size tRn #[.slice none 0 0, .int .i64 0, .int .i64 0]) := Lib.hid ⟨J1.size, (Blk.new v1 tRn #[.slice none 0 0, .int .i64 0, .int .i64 0]).kept hgr2 ((Blk.new v1 tRn #[.slice none 0 0, .int .i64 0, .int .i64 0]).not_row (by decide) (HO1.out.alloc (.cells #[.slice none 0 0, .int .i64 0, .int .i64 0] tRn)))⟩; have HO2 := Lib.hid hown2; have m0b : v2.cell? ⟨g2, 0, none⟩ = some (.slice gA gn gc) := (J2.cell (p := ⟨g2, 0, none⟩) hl2).trans m0; have m1b : v2.cell? ⟨g2, 1, none⟩ = some (.slice fA fn fc) := (J2.cell (p := ⟨g2, 1, none⟩) hl2).trans m1; have mlb : g2 < v2.heap.size := Nat.lt_of_lt_of_le hl2 J2.size; clear hown2 hgr2 hr9)
    | (go_simp; go_at_call 10; (with_reducible refine Calls.mono (HR2.out _ _ _ ?h1 ?h2) ?_); (case h1 => first | exact J2 | exact J2.alloc J2.size _); (case h2 => first | exact HO2.out | exact HO2.out.alloc _); rintro e v3 ⟨bA, bc, rfl, hrw3, J3⟩; have HRW := Lib.hid hrw3; have HJ3 : Hid (Below W6.heap.size W6 v3) := Lib.hid (by first | exact J2.trans (J3.mono J2.size) | exact (J2.alloc J2.size _).trans (J3.mono (J2.alloc J2.size _).size)); (first | (have HK3 := Lib.hid (And.intro HB2.out.1 (And.intro HB2.out.2.lt (HB2.out.2.on J3)))) | (have HK3 : Hid (W6.heap.size ≤ v2.heap.size ∧ v2.heap.size < (v2.alloc (.cells #[.slice none 0 0, .int .i64 0, .int .i64 0] tRn)).heap.size ∧ Blk v3 v2.heap.size tRn #[.slice none 0 0, .int .i64 0, .int .i64 0]) := Lib.hid ⟨J2.size, by simp, (Blk.new v2 tRn #[.slice none 0 0, .int .i64 0, .int .i64 0]).on J3⟩) | skip); (first | (have n0 := HK3.out.2.2.cell 0; have n1 := HK3.out.2.2.cell 1; have n2 := HK3.out.2.2.cell 2; have f0 := HK3.out.2.2.frozen 0; have f1 := HK3.out.2.2.frozen 1; have f2 := HK3.out.2.2.frozen 2; have nl := HK3.out.2.2.lt; simp only [List.getElem?_toArray, List.getElem?_cons_zero, List.getElem?_cons_succ] at n0 n1 n2) | skip); clear hrw3 J3))
    all_goals (try go_wp2_with fail)
    all_goals go_meet
    all_goals
      first
        | exact ⟨_, bA, bc, rfl, ((HJ3.out.setCell (p := ⟨_, 0, none⟩) HK3.out.1 _).setCell (p := ⟨_, 1, none⟩) HK3.out.1 _).setCell (p := ⟨_, 2, none⟩) HK3.out.1 _, ((HK3.out.2.2.set_ 0 _).set_ 1 _).set_ 2 _, rdV_row (ownsRow_setCell_below (ownsRow_setCell_below (ownsRow_setCell_below HRW.out (a := ⟨_, 0, none⟩) HK3.out.2.1 _) (a := ⟨_, 1, none⟩) HK3.out.2.1 _) (a := ⟨_, 2, none⟩) HK3.out.2.1 _)⟩
        | exact ⟨_, bA, bc, rfl, HJ3.out.alloc HJ3.out.size _, Blk.new _ _ _, rdV_row (HRW.out.alloc _)⟩
  case rest =>
    obtain ⟨g8, bA, bc, rfl, hb8, hk8, hrd8⟩ := hcut
    have HB8 := Lib.hid (And.intro (HB4.out.trans ((HB6.out.1.trans (hb8.mono HB6.out.1.size)).mono HB4.out.size)) (And.intro (HB6.out.2.on hb8) hk8))
    have HRD8 := Lib.hid (HRD.out.on hb8)
    have HRE8 := Lib.hid hrd8
    have HW8 := Lib.hid (HB6.out.1.trans (hb8.mono HB6.out.1.size))
    clear hb8 hk8 hrd8 m0 m1 hl2 J HR2 HCP HRD
    have a0 : wc.cell? ⟨g5, 0, none⟩ = some (.slice aA o1.length ac) := HB8.out.2.1.cell 0
    have a1 : wc.cell? ⟨g5, 1, none⟩ = some (.int .i64 t1) := HB8.out.2.1.cell 1
    have a2 : wc.cell? ⟨g5, 2, none⟩ = some (.int .i64 k1) := HB8.out.2.1.cell 2
    have al := HB8.out.2.1.lt
    have b0 : wc.cell? ⟨g8, 0, none⟩ = some (.slice bA o1.length bc) := HB8.out.2.2.cell 0
    have b1 : wc.cell? ⟨g8, 1, none⟩ = some (.int .i64 t1) := HB8.out.2.2.cell 1
    have b2 : wc.cell? ⟨g8, 2, none⟩ = some (.int .i64 k1) := HB8.out.2.2.cell 2
    have bl := HB8.out.2.2.lt
    have HSR := Lib.hid (sameR_any ⟨o1, t1, k1⟩ (.slice aA o1.length ac) (.slice bA o1.length bc) wc.heap.size wc.heap.size wc (Nat.le_refl _) (Nat.le_refl _) HRD8.out HRE8.out)
    unfold ranV at HSR
    dsimp only at HSR
    go_wp2_with fail
    refine HSR.out.mono ?_
    clear HSR
    rintro e W9 ⟨rfl, hb9⟩
    have HB9 := Lib.hid (And.intro (HB8.out.1.trans (hb9.mono HB8.out.1.size)) (HB8.out.2.1.on hb9))
    have HRD9 := Lib.hid (HRD8.out.on hb9)
    have HW9 := Lib.hid (HW8.out.trans (hb9.mono HW8.out.size))
    clear hb9 a0 a1 a2 al b0 b1 b2 bl HB8 HRD8 HRE8 HW8
    have HRS : Hid (Calls Try.prog 14 #[.slice iA inn ic, .int .i64 S] W9 fun e w' => (∃ n9 : Nat, (n9 < inn → S = (n9 : Int)) ∧ n9 ≤ inn ∧ e = .returned (.int .i64 (n9 : Nat))) ∧ W9 = w') := Lib.hid (reads_any iA inn ic S W9 hS0)
    go_wp2_with fail
    refine HRS.out.mono ?_
    clear HRS
    rintro e W10 ⟨⟨n9, hn9, hn9i, rfl⟩, rfl⟩
    by_cases hlt : (n9 : Int) < inn
    rotate_left
    · clear hn9
      go_wp2_with fail
      refine (HK.out _).mono ?_
      rintro e W11 ⟨rfl, hb11⟩
      have HB11 := Lib.hid (HB9.out.1.trans (hb11.mono HB9.out.1.size))
      clear hb11
      go_wp2_with fail
      go_ret
      exact ⟨rfl, HB11.out⟩
    · have HN9 := Lib.hid (hn9 (by omega))
      clear hn9
      have hI9 := HM4.out.2.1.on HW9.out
      have HOT := Lib.hid ((HO4.out.on HW9.out).rd)
      have hk9 := HM4.out.2.2.2.on HW9.out
      have m0 : W9.cell? ⟨g2, 0, none⟩ = some (.slice gA gn gc) := hk9.cell 0
      have m1 : W9.cell? ⟨g2, 1, none⟩ = some (.slice fA fn fc) := hk9.cell 1
      have hl2 := hk9.lt
      have hsome : iA ≠ none := by
        intro h9
        obtain ⟨A', c', e9, q1, q2, q3, -⟩ := hI9
        simp only [Value.slice.injEq] at e9
        obtain ⟨e1, e2, e3⟩ := e9
        have := q3 (by rw [← e1]; exact h9)
        omega
      have hcic : inn ≤ ic := by
        obtain ⟨A', c', e9, q1, q2, q3, -⟩ := hI9
        simp only [Value.slice.injEq] at e9
        obtain ⟨e1, e2, e3⟩ := e9
        omega
      have hcim := hI9.kle
      have HI9 := Lib.hid hI9
      clear hk9 hI9
      have HCP2 : Hid (∀ W, Below W9.heap.size W9 W → Calls Try.prog 13 #[.slice iA n9 ic] W fun e w' => ∃ A c, e = .returned (.slice A n9 c) ∧ w'.ownsRow W9.heap.size tI1 1 (.slice A n9 c) n9 ((inp.take n9).map (Value.int .i64)) ∧ Below W9.heap.size W9 w' ∧ Below W.heap.size W w') := Lib.hid fun W hW => by
        have e0 : (inp.take n9).length = n9 := by rw [List.length_take, HIN.out]; omega
        have h9 := copyI_any (inp.take n9) (by rw [e0]; omega) (.slice iA n9 ic) W (((HI9.out.on hW).rd).take hn9i)
        rw [e0] at h9
        refine h9.mono fun e w' ⟨v, h1, h2, h3⟩ => ?_
        obtain ⟨A, c, rfl⟩ := ownsRow_form h2
        exact ⟨A, c, h1, rowDown h2 hW.size, hW.trans (h3.mono hW.size), h3⟩
      have HR3 : Hid (∀ W g cap, Below W9.heap.size W9 W → W.ownsRow W9.heap.size tI1 1 (.slice g (n9 + onn) cap) (n9 + onn) ((inp.take n9).map (Value.int .i64) ++ oth.map (Value.int .i64)) → Calls Try.prog 10 #[.agg #[.slice gA gn gc, .slice fA fn fc], .slice g (n9 + onn) cap, .int .i64 S] W fun e w' => ∃ A c, e = .returned (.agg #[.slice A o1.length c, .int .i64 t1, .int .i64 k1]) ∧ w'.ownsRow W.heap.size tI1 1 (.slice A o1.length c) o1.length (o1.map (Value.int .i64)) ∧ Below W.heap.size W w') := Lib.hid fun W g cap hW hrow => by
        have e1 : (inp.take n9).map (Value.int .i64) ++ oth.map (Value.int .i64) = (inp.take n9 ++ oth).map (Value.int .i64) := by simp
        have e2 : (inp.take n9 ++ oth).length = n9 + onn := by rw [List.length_append, List.length_take, HIN.out, HON.out]; omega
        rw [e1] at hrow
        have hI : IsI W W.heap.size (.slice g (n9 + onn) cap) (inp.take n9 ++ oth) := by
          have h8 := isI_row (base := W9.heap.size) (v := .slice g (n9 + onn) cap) (l := inp.take n9 ++ oth) (by rw [e2]; exact hrow) (by
            intro x hx
            rcases List.mem_append.1 hx with h | h
            · exact HM4.out.2.1.all x (List.mem_of_mem_take h)
            · exact HO4.out.all x h)
          exact h8
        have h9 := HRN.out W _ _ (HW9.out.trans (hW.mono HW9.out.size)) hI
        have e3 : runM m (inp.take n9 ++ oth) S = runM m inp S := by
          have hs : S.toNat = n9 := by have := HN9.out; omega
          rw [← hs]
          exact runM_behind m inp oth (by rw [hs, HIN.out]; omega)
        rw [e3, HRE.out] at h9
        exact h9
      have J : Below W9.heap.size W9 W9 := Below.refl _ _
      have i1 : (0 : Int) ≤ (n9 : Int) := by omega
      have i2 : (n9 : Int) ≤ (ic : Int) := by omega
      have i3 : (n9 : Int) ≤ (inn : Int) := by omega
      rcases iA with _ | ⟨ig, io, isp⟩
      · exact absurd rfl hsome
      clear hsome
      go_upto_region 11 with (fail)
      go_cut [10] from 59 to 67 (fun c wx => ∃ g8 bA bc, c = .pointer (some ⟨g8, 0, none⟩) ∧ Below W9.heap.size W9 wx ∧ Blk wx g8 tRn #[.slice bA o1.length bc, .int .i64 t1, .int .i64 k1] ∧ RdV wx wx.heap.size (.slice bA o1.length bc) o1)
      case first =>
        go_region_law (first
    | (go_simp; go_at_call 13; (with_reducible refine Calls.mono (HCP2.out _ ?hw) ?_); (case hw => first | exact J | exact J.drew | exact J.drew.alloc J.size _); rintro e v1 ⟨A1, c1, rfl, hown1, J1, JW1⟩; have m0a : v1.cell? ⟨g2, 0, none⟩ = some (.slice gA gn gc) := (J1.cell (p := ⟨g2, 0, none⟩) hl2).trans m0; have m1a : v1.cell? ⟨g2, 1, none⟩ = some (.slice fA fn fc) := (J1.cell (p := ⟨g2, 1, none⟩) hl2).trans m1; have mla : g2 < v1.heap.size := Nat.lt_of_lt_of_le hl2 J1.size; have HO1 := Lib.hid hown1; (first | (have HB1 : Hid (Blk v1 W9.heap.size tRn #[.slice none 0 0, .int .i64 0, .int .i64 0]) := Lib.hid ((Blk.new W9.drew tRn #[.slice none 0 0, .int .i64 0, .int .i64 0]).on JW1)) | skip); clear hown1 JW1)
    | (obtain ⟨g9, cap9, v2, hr9, hown2, hgr2⟩ := run_other v1 W9.heap.size W9.heap.size tIs (.slice A1 n9 c1) (.slice oA onn oc) n9 _ oth HO1.out (by omega) J1.size (HOT.out.below J1) (by rw [HON.out]; omega); rw [HON.out] at hr9 hown2; (refine step_append_run rfl (.tmp 63) (.tmp 64) tIs tIs rfl (.slice A1 n9 c1) (.slice oA onn oc) (by simp [Act.eval, Act.put]) (by simp [Act.eval, Act.put]) _ _ hr9 ?_); have J2 : Below W9.heap.size W9 v2 := J1.grown hgr2 J1.size (fun k hk => (HO1.out.lt k hk).1); (first | (have HB2 : Hid (W9.heap.size ≤ W9.heap.size ∧ Blk v2 W9.heap.size tRn #[.slice none 0 0, .int .i64 0, .int .i64 0]) := Lib.hid ⟨Nat.le_refl _, HB1.out.kept hgr2 (HB1.out.not_row (by decide) HO1.out)⟩) | skip); have HO2 := Lib.hid hown2; have m0b : v2.cell? ⟨g2, 0, none⟩ = some (.slice gA gn gc) := (J2.cell (p := ⟨g2, 0, none⟩) hl2).trans m0; have m1b : v2.cell? ⟨g2, 1, none⟩ = some (.slice fA fn fc) := (J2.cell (p := ⟨g2, 1, none⟩) hl2).trans m1; have mlb : g2 < v2.heap.size := Nat.lt_of_lt_of_le hl2 J2.size; clear hown2 hgr2 hr9)
    | (obtain ⟨g9, cap9, v2, hr9, hown2, hgr2⟩ := run_other (v1.alloc (.cells #[.slice none 0 0, .int .i64 0, .int .i64 0] tRn)) W9.heap.size W9.heap.size tIs (.slice A1 n9 c1) (.slice oA onn oc) n9 _ oth (HO1.out.alloc (.cells #[.slice none 0 0, .int .i64 0, .int .i64 0] tRn)) (by omega) (J1.alloc J1.size (.cells #[.slice none 0 0, .int .i64 0, .int .i64 0] tRn)).size (HOT.out.below (J1.alloc J1.size (.cells #[.slice none 0 0, .int .i64 0, .int .i64 0] tRn))) (by rw [HON.out]; omega); rw [HON.out] at hr9 hown2; (refine step_append_run rfl (.tmp 63) (.tmp 64) tIs tIs rfl (.slice A1 n9 c1) (.slice oA onn oc) (by simp [Act.eval, Act.put]) (by simp [Act.eval, Act.put]) _ _ hr9 ?_); have J2 : Below W9.heap.size W9 v2 := (J1.alloc J1.size (.cells #[.slice none 0 0, .int .i64 0, .int .i64 0] tRn)).grown hgr2 (J1.alloc J1.size (.cells #[.slice none 0 0, .int .i64 0, .int .i64 0] tRn)).size (fun k hk => ((HO1.out.alloc (.cells #[.slice none 0 0, .int .i64 0, .int .i64 0] tRn)).lt k hk).1); have HB2 : Hid (W9.heap.size ≤ v1.heap.size ∧ Blk v2 v1.heap.size tRn #[.slice none 0 0, .int .i64 0, .int .i64 0]) := Lib.hid ⟨J1.size, (Blk.new v1 tRn #[.slice none 0 0, .int .i64 0, .int .i64 0]).kept hgr2 ((Blk.new v1 tRn #[.slice none 0 0, .int .i64 0, .int .i64 0]).not_row (by decide) (HO1.out.alloc (.cells #[.slice none 0 0, .int .i64 0, .int .i64 0] tRn)))⟩; have HO2 := Lib.hid hown2; have m0b : v2.cell? ⟨g2, 0, none⟩ = some (.slice gA gn gc) := (J2.cell (p := ⟨g2, 0, none⟩) hl2).trans m0; have m1b : v2.cell? ⟨g2, 1, none⟩ = some (.slice fA fn fc) := (J2.cell (p := ⟨g2, 1, none⟩) hl2).trans m1; have mlb : g2 < v2.heap.size := Nat.lt_of_lt_of_le hl2 J2.size; clear hown2 hgr2 hr9)
    | (go_simp; go_at_call 10; (with_reducible refine Calls.mono (HR3.out _ _ _ ?h1 ?h2) ?_); (case h1 => first | exact J2 | exact J2.alloc J2.size _); (case h2 => first | exact HO2.out | exact HO2.out.alloc _); rintro e v3 ⟨bA, bc, rfl, hrw3, J3⟩; have HRW := Lib.hid hrw3; have HJ3 : Hid (Below W9.heap.size W9 v3) := Lib.hid (by first | exact J2.trans (J3.mono J2.size) | exact (J2.alloc J2.size _).trans (J3.mono (J2.alloc J2.size _).size)); (first | (have HK3 := Lib.hid (And.intro HB2.out.1 (And.intro HB2.out.2.lt (HB2.out.2.on J3)))) | (have HK3 : Hid (W9.heap.size ≤ v2.heap.size ∧ v2.heap.size < (v2.alloc (.cells #[.slice none 0 0, .int .i64 0, .int .i64 0] tRn)).heap.size ∧ Blk v3 v2.heap.size tRn #[.slice none 0 0, .int .i64 0, .int .i64 0]) := Lib.hid ⟨J2.size, by simp, (Blk.new v2 tRn #[.slice none 0 0, .int .i64 0, .int .i64 0]).on J3⟩) | skip); (first | (have n0 := HK3.out.2.2.cell 0; have n1 := HK3.out.2.2.cell 1; have n2 := HK3.out.2.2.cell 2; have f0 := HK3.out.2.2.frozen 0; have f1 := HK3.out.2.2.frozen 1; have f2 := HK3.out.2.2.frozen 2; have nl := HK3.out.2.2.lt; simp only [List.getElem?_toArray, List.getElem?_cons_zero, List.getElem?_cons_succ] at n0 n1 n2) | skip); clear hrw3 J3))
        all_goals (try go_wp2_with fail)
        all_goals go_meet
        all_goals
          first
            | exact ⟨_, bA, bc, rfl, ((HJ3.out.setCell (p := ⟨_, 0, none⟩) HK3.out.1 _).setCell (p := ⟨_, 1, none⟩) HK3.out.1 _).setCell (p := ⟨_, 2, none⟩) HK3.out.1 _, ((HK3.out.2.2.set_ 0 _).set_ 1 _).set_ 2 _, rdV_row (ownsRow_setCell_below (ownsRow_setCell_below (ownsRow_setCell_below HRW.out (a := ⟨_, 0, none⟩) HK3.out.2.1 _) (a := ⟨_, 1, none⟩) HK3.out.2.1 _) (a := ⟨_, 2, none⟩) HK3.out.2.1 _)⟩
            | exact ⟨_, bA, bc, rfl, HJ3.out.alloc HJ3.out.size _, Blk.new _ _ _, rdV_row (HRW.out.alloc _)⟩
      case rest =>
        obtain ⟨g7, dA, dc, rfl, hb10, hk10, hrd10⟩ := hcut
        have HB10 := Lib.hid (And.intro (HB9.out.1.trans (hb10.mono HB9.out.1.size)) (And.intro (HB9.out.2.on hb10) hk10))
        have HRDA := Lib.hid (HRD9.out.on hb10)
        have HRDB := Lib.hid hrd10
        clear hb10 hk10 hrd10 m0 m1 hl2 J HR3 HCP2 i1 i2 i3
        have a0 : wc.cell? ⟨g5, 0, none⟩ = some (.slice aA o1.length ac) := HB10.out.2.1.cell 0
        have a1 : wc.cell? ⟨g5, 1, none⟩ = some (.int .i64 t1) := HB10.out.2.1.cell 1
        have a2 : wc.cell? ⟨g5, 2, none⟩ = some (.int .i64 k1) := HB10.out.2.1.cell 2
        have al := HB10.out.2.1.lt
        have b0 : wc.cell? ⟨g7, 0, none⟩ = some (.slice dA o1.length dc) := HB10.out.2.2.cell 0
        have b1 : wc.cell? ⟨g7, 1, none⟩ = some (.int .i64 t1) := HB10.out.2.2.cell 1
        have b2 : wc.cell? ⟨g7, 2, none⟩ = some (.int .i64 k1) := HB10.out.2.2.cell 2
        have bl := HB10.out.2.2.lt
        have HSR := Lib.hid (sameR_any ⟨o1, t1, k1⟩ (.slice aA o1.length ac) (.slice dA o1.length dc) wc.heap.size wc.heap.size wc (Nat.le_refl _) (Nat.le_refl _) HRDA.out HRDB.out)
        unfold ranV at HSR
        dsimp only at HSR
        go_wp2_with fail
        refine HSR.out.mono ?_
        clear HSR
        rintro e W12 ⟨rfl, hb12⟩
        have HB12 := Lib.hid (HB10.out.1.trans (hb12.mono HB10.out.1.size))
        clear hb12 a0 a1 a2 al b0 b1 b2 bl
        go_wp2_with fail
        refine (HK.out _).mono ?_
        rintro e W13 ⟨rfl, hb13⟩
        have HB13 := Lib.hid (HB12.out.trans (hb13.mono HB12.out.size))
        clear hb13
        go_wp2_with fail
        go_ret
        exact ⟨rfl, HB13.out⟩
end Go.Proofs.Ytgcjfbgfoiekmaa
