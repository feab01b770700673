/-
  Layer dom: DomWays' walk.
-/
import Derived.Test.YtjmlpbnejcfnhaaDnj
import Derived.Test.YtjmlpbnejcfnhaaMc
import Derived.Test.YtjmlpbnejcfnhaaDnc
namespace Go.Proofs.Ytjmlpbnejcfnhaa
open Go Go.ChangeShapes Go.WideShapes Go.RowKit Go.Maps
set_option linter.unusedVariables false
set_option linter.unusedSimpArgs false

theorem fst0_0 {l : List Int} (h : fst0 l = 0) : ∀ x ∈ l, x = 0 := by
  induction l with
  | nil => intro x hx; cases hx
  | cons y l ih =>
    intro x hx
    unfold fst0 at h
    by_cases hy : y = 0
    · rw [if_pos hy] at h
      rcases List.mem_cons.1 hx with rfl | hx
      · exact hy
      · exact ih h x hx
    · rw [if_neg hy] at h; exact absurd h hy
/-- What layer dom needs of a function that may be. -/
theorem chk_dom {m : Mdl} (h : chk m = 0) {f : Cod} (hf : f ∈ m.f) : f.bl ≠ [] ∧ f.bl.length ≤ 400 ∧ endsOk (esB f.bl) = true := by
  unfold chk at h
  by_cases h1 : m.g.all okG = false
  · rw [if_pos h1] at h; cases h
  rw [if_neg h1] at h
  by_cases h2 : fst0 (m.f.map (chkF m)) ≠ 0
  · rw [if_pos h2] at h; exact absurd h h2
  have h3 : chkF m f = 0 := fst0_0 (by simpa using h2) _ (List.mem_map.2 ⟨f, hf, rfl⟩)
  have h4 := fst0_0 h3
  have h5 : chkH f = 0 := h4 _ (by simp)
  have h6 : ¬ (f.bl = [] ∨ 400 < f.bl.length ∨ 4096 < f.regs.length) := fun hc => by unfold chkH at h5; rw [if_pos hc] at h5; cases h5
  refine ⟨fun e => h6 (.inl e), by omega, ?_⟩
  unfold endsOk
  rw [List.all_eq_true]
  intro e he
  obtain ⟨b, hb, rfl⟩ := List.mem_map.1 he
  have h7 : chkB m f b = 0 := h4 _ (by simp; exact .inr ⟨b, hb, rfl⟩)
  have h8 : chkE f b.e = 0 := fst0_0 h7 _ (by simp)
  rw [esB_len, List.all_eq_true]
  unfold chkE at h8
  intro t ht
  unfold tosM at ht
  by_cases k1 : b.e.k = 1
  · rw [if_pos k1] at h8 ht
    cases hh : inR f.bl b.e.to
    · rw [hh] at h8; simp at h8
    · simp only [List.mem_singleton] at ht
      subst ht
      exact hh
  · rw [if_neg k1] at h8 ht
    by_cases k2 : b.e.k = 2
    · rw [if_pos k2] at h8 ht
      by_cases hh : (inR f.bl b.e.to && inR f.bl b.e.el && inR f.regs b.e.a) = false
      · rw [if_pos hh] at h8; cases h8
      · simp only [Bool.not_eq_false, Bool.and_eq_true] at hh
        split at ht
        · simp only [List.mem_singleton] at ht
          subst ht
          exact hh.1.1
        · simp only [List.mem_cons, List.not_mem_nil, or_false] at ht
          rcases ht with rfl | rfl
          · exact hh.1.1
          · exact hh.1.2
    · rw [if_neg k2] at ht
      cases ht
theorem cMd' : Try.prog.cellsOf 25 = 2 := by kernel_rfl
theorem cGs' : Try.prog.cellsOf 22 = 1 := by kernel_rfl
theorem cFs' : Try.prog.cellsOf 23 = 1 := by kernel_rfl
set_option maxRecDepth 10000 in
/-- A module that came in. -/
theorem openz_M {H : Type} {enc : TypeId × Value → H} {W : World} {sp : Nat → Bool} {fuel : Nat} {cs : List Value} {x : DataW H × List MemPlace} (h : DataW.trod enc Try.prog W 0 sp true fuel 25 cs = some x) (hw : ∀ n ∈ x.1.weights Try.prog 25, n ≤ reachBytes) :
    ∃ gv fv m, cs = [gv, fv] ∧ IsM W W.heap.size gv fv m ∧ SmM m := by
  obtain ⟨ys, k, hk, hxy, hl, hyl, hf⟩ := DataW.trod_struct Try.underlying25 h
  have hl2 : cs.length = 2 := by rw [hl]; exact cMd'
  have hyl2 : ys.length = 2 := hyl
  match cs, hl2 with
  | [v0, v1], _ =>
    match ys, hyl2 with
    | [y0, y1], _ =>
      have g5 := hf 0 _ rfl; have g6 := hf 1 _ rfl
      clear hf
      simp [cGs', cFs'] at g5 g6
      rw [hxy] at hw
      obtain ⟨gv, gl, f5, e5, b5⟩ := openz_G g5 fun n hn => hw n (by simp [DataW.weights, Try.underlying25, DataW.weightsEach]; simp [hn])
      obtain ⟨fv, fl, f6, e6, b6⟩ := openz_F g6 fun n hn => hw n (by simp [DataW.weights, Try.underlying25, DataW.weightsEach]; simp [hn])
      simp only [List.cons.injEq, and_true] at f5 f6
      subst f5 f6
      exact ⟨_, _, ⟨gl, fl⟩, rfl, ⟨e5, e6⟩, b6⟩
set_option maxHeartbeats 4000000 in
set_option maxRecDepth 100000 in
theorem domWays_walk (m : Mdl) (hsm : SmM m) (gv fv : Value) (w : World) (hm : IsM w w.heap.size gv fv m) : Calls Try.prog 3 #[.agg #[gv, fv]] w fun e w' => e = .returned (.bool true) ∧ Below w.heap.size w w' := by
  obtain ⟨gA, gc, rfl, hgl, hgm, -⟩ := hm.g.sl
  obtain ⟨fA, fc, rfl, hfl, hfm, -⟩ := hm.f.sl
  unfold maxLen at hgm hfm
  obtain ⟨H, hH⟩ : ∃ x, x = w.heap.size := ⟨_, rfl⟩
  obtain ⟨w1, hw1⟩ : ∃ x, x = w.alloc (.cells #[.slice gA m.g.length gc, .slice fA m.f.length fc] 25) := ⟨_, rfl⟩
  have hb1 : Below H w w1 := by rw [hw1, hH]; exact (Below.refl _ w).alloc (Nat.le_refl _) _
  have hbx : Blk w1 H 25 #[.slice gA m.g.length gc, .slice fA m.f.length fc] := by rw [hw1, hH]; exact Blk.new w _ _
  have hm1 := hm.on (by rw [← hH]; exact hb1 : Below w.heap.size w w1)
  obtain ⟨gn, hgn⟩ : ∃ n, m.g.length = n := ⟨_, rfl⟩
  obtain ⟨fn, hfn⟩ : ∃ n, m.f.length = n := ⟨_, rfl⟩
  rw [hgn] at hgl hbx hm1 hw1
  rw [hfn] at hfl hbx hm1 hw1
  have HM : Hid (∀ W, Below w1.heap.size w1 W → IsM W W.heap.size (.slice gA gn gc) (.slice fA fn fc) m ∧ W.cell? ⟨H, 0, none⟩ = some (.slice gA gn gc) ∧ W.cell? ⟨H, 1, none⟩ = some (.slice fA fn fc) ∧ H < W.heap.size ∧ Below H w W) := Lib.hid fun W hW =>
    ⟨hm1.on hW, (hbx.on hW).cell 0, (hbx.on hW).cell 1, (hbx.on hW).lt, hb1.trans (hW.mono (by have := hbx.lt; omega))⟩
  have HW := Lib.hid hw1
  have HN := Lib.hid (And.intro hfn (And.intro hH hsm))
  rw [hgn, hfn]
  clear hm hm1 hbx hb1 hw1 hgn hfn hsm
  go_enter Try.func3, Try.ntmps3
  go_upto_region 1 with (fail)
  rw [← HW.out, ← hH]
  clear hH
  clear HW
  obtain ⟨hM, p0, p1, pl, hj⟩ := HM.out w1 (Below.refl _ _)
  have HB := Lib.hid hM
  clear hM hj
  go_wp2_with fail
  refine (big10_any m _ _ w1 HB.out).mono ?_
  rintro e w2 ⟨rfl | ⟨rfl, h40⟩, hb2⟩
  · obtain ⟨-, -, -, -, hj⟩ := HM.out w2 hb2
    have HJ := Lib.hid hj
    clear p0 p1 pl hj hb2
    go_wp2_with fail
    refine (known_any w2).mono ?_
    rintro e w3 ⟨rfl, hb3⟩
    have HF := Lib.hid (HJ.out.trans (hb3.mono (by rw [HN.out.2.1]; exact HJ.out.size)))
    clear hb3
    go_wp2_with fail
    go_ret
    rw [← HN.out.2.1]
    exact ⟨rfl, HF.out⟩
  · have H2 := Lib.hid (And.intro h40 hb2)
    clear p0 p1 pl HB
    obtain ⟨hM, p0, p1, pl, hj⟩ := HM.out w2 hb2
    have HC := Lib.hid (chk_any m HN.out.2.2 _ _ w2 hM)
    clear h40 hb2 hM hj
    go_wp2_with fail
    refine HC.out.mono ?_
    rintro e w3 ⟨rfl, hb3⟩
    clear p0 p1 pl HC
    have hb3 := H2.out.2.trans (hb3.mono H2.out.2.size)
    obtain ⟨hM, p0, p1, pl, hj⟩ := HM.out w3 hb3
    by_cases hk : chk m = 0
    · have d0 : ((0 : Int) != 0) = false := rfl
      rw [hk]
      have H3 := Lib.hid (And.intro hb3 (And.intro hj hk))
      clear hb3 hM hj hk
      go_wp2_with fail
      go_loopw [3] (fun v wr => ∃ i : Nat, v = .int .i64 i ∧ i ≤ fn ∧ Below w1.heap.size w1 wr) (fun v _ => fn - (intOf v).toNat)
      case atStart => exact ⟨0, rfl, by omega, H3.out.1⟩
      case round =>
        clear p0 p1 pl
        obtain ⟨i, rfl, hi, hbe⟩ := hrel
        obtain ⟨wo, hwo⟩ : ∃ x, x = wr := ⟨_, rfl⟩
        subst hwo
        obtain ⟨hM, p0, p1, pl, hj⟩ := HM.out wo hbe
        by_cases hlt : i < fn
        · have hil : i < m.f.length := by rw [HN.out.1]; exact hlt
          obtain ⟨g, o, c9, hv9, hg, -, -, -, rv, bv, hrv, hbv, hx⟩ := hM.f.at hil
          simp only [Value.slice.injEq] at hv9
          obtain ⟨rfl, -, -⟩ := hv9
          obtain ⟨h1, h2, h3⟩ := chk_dom H3.out.2.2 (List.getElem_mem hil)
          generalize m.f[i] = cod at *
          have hcd : CdD wo cod rv bv := ⟨hbv, by obtain ⟨A, k, e, _⟩ := hrv; exact ⟨A, _, k, e⟩, h1, h2, h3⟩
          have HWY := Lib.hid (ways_any hcd)
          obtain ⟨rA, rn, rc, rfl⟩ := hcd.r
          obtain ⟨bA, bn, bc, rfl⟩ : ∃ A n k, bv = .slice A n k := by obtain ⟨A, k, e, _⟩ := hbv; exact ⟨A, _, k, e⟩
          have x0 := hx 0 _ rfl
          have x1 := hx 1 _ rfl
          have x2 := hx 2 _ rfl
          have x3 := hx 3 _ rfl
          have x4 := hx 4 _ rfl
          simp only [Nat.add_zero] at x0 x1 x2 x3 x4
          have HB := Lib.hid (And.intro hbe hj)
          unfold codA at HWY
          clear hM hj hbe hx hrv hbv hcd h1 h2 h3 hil
          go_wp2_with fail
          refine HWY.out.mono ?_
          rintro e w4 ⟨rfl, hb4⟩
          have HB4 := Lib.hid (HB.out.1.trans (hb4.mono HB.out.1.size))
          clear hb4 HWY x0 x1 x2 x3 x4 p0 p1 pl
          go_wp2_with fail
          go_roundw
          case rel => exact ⟨i + 1, by go_num, by omega, HB4.out⟩
          case measure => simp [intOf]; omega
        · obtain rfl : i = fn := by omega
          have HJ := Lib.hid hj
          clear hM hj hbe
          go_wp2_with fail
          refine (known_any wo).mono ?_
          rintro e w4 ⟨rfl, hb4⟩
          have HF := Lib.hid (HJ.out.trans (hb4.mono (by rw [HN.out.2.1]; exact HJ.out.size)))
          clear hb4 p0 p1 pl
          go_wp2_with fail
          go_ret
          rw [← HN.out.2.1]
          exact ⟨rfl, HF.out⟩
    · have d0 : (chk m != 0) = true := by simpa using hk
      have HJ := Lib.hid hj
      clear p0 p1 pl hj hb3 hM
      go_wp2_with fail
      refine (known_any w3).mono ?_
      rintro e w4 ⟨rfl, hb4⟩
      have HF := Lib.hid (HJ.out.trans (hb4.mono (by rw [HN.out.2.1]; exact HJ.out.size)))
      clear hb4
      go_wp2_with fail
      go_ret
      rw [← HN.out.2.1]
      exact ⟨rfl, HF.out⟩
end Go.Proofs.Ytjmlpbnejcfnhaa
