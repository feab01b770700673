/-
  Layer ir: walks of mainOf, Check.
-/
import Derived.Test.YtgcjfbgfoiekmaaIvj
namespace Go.Proofs.Ytgcjfbgfoiekmaa
open Go Go.RowKit
set_option linter.unusedVariables false
set_option linter.unusedSimpArgs false

def wMain : List UInt8 := [109, 97, 105, 110]
abbrev tGl : TypeId := 54
abbrev tMo : TypeId := 25
theorem main1_any (c : Cod) (rv bv : Value) (w : World) : Calls Try.prog 28 #[.agg (codA c rv bv)] w fun e w' => e = .returned (.bool (c.nm == wMain)) ∧ Below w.heap.size w w' := by
  obtain ⟨nm, ty, pr, regs, bl⟩ := c
  unfold codA
  simp only
  by_cases h : nm = wMain
  · subst h
    have h1 : (wMain == wMain) = true := by decide
    rw [h1]
    unfold wMain
    go_enter Try.func28, Try.ntmps28
    go_wp2
    go_ret
    exact ⟨rfl, (Below.refl _ _).alloc (Nat.le_refl _) _⟩
  · have h1 : (nm == wMain) = false := by simpa using h
    rw [h1]
    unfold wMain at h1
    obtain ⟨z, hz⟩ : ∃ z, str nm = z := ⟨_, rfl⟩
    have e0 : z.toList = nm := by rw [← hz, ByteArray.toList_eq]
    rw [hz]
    rw [← e0] at h1
    clear hz e0 h
    go_enter Try.func28, Try.ntmps28
    go_wp2
    go_ret
    exact ⟨rfl, (Below.refl _ _).alloc (Nat.le_refl _) _⟩
theorem mainAt_some {m : Mdl} {k : Nat} (hk : k < m.f.length) (h1 : (m.f[k].nm == wMain) = true) (h0 : ∀ x ∈ m.f.take k, (x.nm == wMain) = false) : mainAt m = k := by
  have : m.f.findIdx? (fun f => f.nm == [109, 97, 105, 110]) = some k := by
    rw [List.findIdx?_eq_some_iff_getElem]
    refine ⟨hk, h1, fun j hj => ?_⟩
    have := h0 m.f[j] (by rw [List.mem_take_iff_getElem]; exact ⟨j, by omega, rfl⟩)
    unfold wMain at this
    simp [this]
  unfold mainAt
  rw [this]
theorem mainAt_none {m : Mdl} (h0 : ∀ x ∈ m.f, (x.nm == wMain) = false) : mainAt m = -1 := by
  have : m.f.findIdx? (fun f => f.nm == [109, 97, 105, 110]) = none := by
    rw [List.findIdx?_eq_none_iff]
    exact h0
  unfold mainAt
  rw [this]
theorem mainAt_in {m : Mdl} (h : 0 ≤ mainAt m) : ∃ k : Nat, mainAt m = k ∧ k < m.f.length := by
  unfold mainAt at h ⊢
  cases hf : m.f.findIdx? (fun f => f.nm == [109, 97, 105, 110]) with
  | none => rw [hf] at h; simp at h
  | some k =>
    rw [List.findIdx?_eq_some_iff_getElem] at hf
    exact ⟨k, rfl, hf.1⟩
set_option maxHeartbeats 2000000 in
set_option maxRecDepth 100000 in
theorem idx_any (m : Mdl) (fv : Value) (w : World) (hm : IsF w w.heap.size fv m.f) :
    Calls Try.prog 27 #[fv, .func (.func 28) #[] #[]] w fun e w' => e = .returned (.int .i64 (mainAt m)) ∧ Below w.heap.size w w' := by
  obtain ⟨A, c, rfl, hlc, hcm, hA0⟩ := hm.sl
  unfold maxLen at hcm
  obtain ⟨n, hn⟩ : ∃ n, m.f.length = n := ⟨_, rfl⟩
  have HN := Lib.hid hn
  have HM := Lib.hid hm
  obtain ⟨res, hres⟩ : ∃ r, mainAt m = r := ⟨_, rfl⟩
  have HRES := Lib.hid hres
  rw [hres]
  rw [hn] at hlc ⊢
  clear hm hn hres
  go_enter Try.func27, Try.ntmps27
  go_wp2_with fail
  go_loopw [8] (fun v wr => ∃ j : Nat, j ≤ n ∧ v = .int .i64 j ∧ (∀ x ∈ m.f.take j, (x.nm == wMain) = false) ∧ Below w.heap.size w wr) (fun v _ => n - (intOf v).toNat)
  case atStart => exact ⟨0, by omega, rfl, fun x hx => by simp at hx, Below.refl _ _⟩
  case round =>
    obtain ⟨j, hj, rfl, hal, hbw⟩ := hrel
    have HAL := Lib.hid hal
    have HBW := Lib.hid hbw
    clear hal
    by_cases hlt : j < n
    · have hjl : j < m.f.length := by rw [HN.out]; exact hlt
      obtain ⟨g, o, c9, hv9, hg, -, -, -, rv, bv, hrv, hbv, hx⟩ := (HM.out.below hbw).at hjl
      simp only [Value.slice.injEq] at hv9
      obtain ⟨rfl, -, -⟩ := hv9
      obtain ⟨rA, rc, rfl, -⟩ := hrv.sl
      obtain ⟨bA, bc, rfl, -⟩ := hbv.sl
      have y0 := hx 0 (.string (str m.f[j].nm)) rfl; have y1 := hx 1 (.int .i64 m.f[j].ty) rfl; have y2 := hx 2 (.int .i64 m.f[j].pr) rfl; have y3 := hx 3 (.slice rA m.f[j].regs.length rc) rfl; have y4 := hx 4 (.slice bA m.f[j].bl.length bc) rfl
      simp only [Nat.add_zero] at y0
      simp only at y1 y2 y3 y4
      have hg2 : g < wr.heap.size := by have := hbw.size; omega
      have hlt' : (j : Int) < n := by omega
      have HCL : Hid (∀ W, Calls Try.prog 28 #[.agg (codA m.f[j] (.slice rA m.f[j].regs.length rc) (.slice bA m.f[j].bl.length bc))] W fun e w' => e = .returned (.bool (m.f[j].nm == wMain)) ∧ Below W.heap.size W w') := Lib.hid fun W => main1_any _ _ _ W
      obtain ⟨b, hb⟩ : ∃ b, (m.f[j].nm == wMain) = b := ⟨_, rfl⟩
      have HBV := Lib.hid hb
      rw [hb] at HCL
      have hts := List.take_succ_eq_append_getElem hjl
      have HTS := Lib.hid hts
      unfold codA at HCL
      clear hx hrv hbv hg hb hbw hts
      generalize m.f[j].regs.length = rl at *
      generalize m.f[j].bl.length = bll at *
      generalize hnm : m.f[j].nm = nm at *
      have HNM := Lib.hid hnm
      clear hnm
      generalize m.f[j].ty = ty at *
      generalize m.f[j].pr = pr at *
      cases b
      · go_wp2_with fail
        refine (HCL.out _).mono ?_
        rintro e w2 ⟨rfl, hb2⟩
        have HB2 := Lib.hid (HBW.out.trans (hb2.mono HBW.out.size))
        clear hb2
        go_wp2_with fail
        go_roundw
        case rel => exact ⟨j + 1, by omega, by go_num, fun x hx => by
            rw [HTS.out] at hx
            rcases List.mem_append.1 hx with h | h
            · exact HAL.out x h
            · simp at h; subst h; rw [HNM.out]; exact HBV.out, HB2.out⟩
        case measure => simp [intOf]; omega
      · go_wp2_with fail
        refine (HCL.out _).mono ?_
        rintro e w2 ⟨rfl, hb2⟩
        have HB2 := Lib.hid (HBW.out.trans (hb2.mono HBW.out.size))
        clear hb2
        go_wp2_with fail
        go_ret
        refine ⟨?_, HB2.out⟩
        rw [← HRES.out, mainAt_some hjl (by rw [HNM.out]; exact HBV.out) HAL.out]
        rfl
    · obtain rfl : n = j := by omega
      clear hbw
      go_wp2_with fail
      go_ret
      refine ⟨?_, HBW.out⟩
      rw [← HRES.out, mainAt_none (fun x hx => HAL.out x (by rw [List.take_of_length_le (by rw [HN.out]; exact Nat.le_refl _)]; exact hx))]
      rfl
theorem mainOf_any (m : Mdl) (gv fv : Value) (w : World) (hm : IsM w w.heap.size gv fv m) : Calls Try.prog 20 #[.agg #[gv, fv]] w fun e w' => e = .returned (.int .i64 (mainAt m)) ∧ Below w.heap.size w w' := by
  obtain ⟨gA, gc, rfl, -⟩ := hm.g.sl
  obtain ⟨fA, fc, rfl, -⟩ := hm.f.sl
  have hb : Below w.heap.size w (w.alloc (.cells #[.slice gA m.g.length gc, .slice fA m.f.length fc] tMo)) := (Below.refl _ _).alloc (Nat.le_refl _) _
  have HB := Lib.hid hb
  have HI := Lib.hid (idx_any m _ _ (hm.on hb).f)
  clear hb hm
  go_enter Try.func20, Try.ntmps20
  go_wp2_with fail
  refine HI.out.mono ?_
  rintro e w2 ⟨rfl, hb2⟩
  have HB2 := Lib.hid (HB.out.trans (hb2.mono HB.out.size))
  clear hb2
  go_wp2_with fail
  go_ret
  exact ⟨rfl, HB2.out⟩

theorem all_at_false {α : Type} {l : List α} {p : α → Bool} {k : Nat} (hk : k < l.length) (h : p l[k] = false) : l.all p = false := by
  cases hb : l.all p with
  | false => rfl
  | true => rw [List.all_eq_true] at hb; have := hb _ (List.getElem_mem hk); rw [h] at this; cases this
def SmM (m : Mdl) : Prop := ∀ f ∈ m.f, SmC f
set_option maxHeartbeats 4000000 in
set_option maxRecDepth 100000 in
theorem chk_any (m : Mdl) (hsm : SmM m) (gv fv : Value) (w : World) (hm : IsM w w.heap.size gv fv m) : Calls Try.prog 7 #[.agg #[gv, fv]] w fun e w' => e = .returned (.int .i64 (chk m)) ∧ Below w.heap.size w w' := by
  obtain ⟨gA, gc, rfl, hgl, hgm, -⟩ := hm.g.sl
  obtain ⟨fA, fc, rfl, hfl, hfm, -⟩ := hm.f.sl
  unfold maxLen at hgm hfm
  have hb : Below w.heap.size w (w.alloc (.cells #[.slice gA m.g.length gc, .slice fA m.f.length fc] tMo)) := (Below.refl _ _).alloc (Nat.le_refl _) _
  have hq := Blk.new w tMo #[.slice gA m.g.length gc, .slice fA m.f.length fc]
  have hm1 := hm.on hb
  obtain ⟨gn, hgn⟩ : ∃ n, m.g.length = n := ⟨_, rfl⟩
  obtain ⟨fn, hfn⟩ : ∃ n, m.f.length = n := ⟨_, rfl⟩
  have HGN := Lib.hid hgn
  have HFN := Lib.hid hfn
  rw [hgn] at hb hq hm1 hgl
  rw [hfn] at hb hq hm1 hfl
  have HB := Lib.hid hb
  have HQ := Lib.hid hq
  have HM := Lib.hid hm1
  have HSM := Lib.hid hsm
  obtain ⟨res, hres⟩ : ∃ r, chk m = r := ⟨_, rfl⟩
  have HRES := Lib.hid hres
  rw [hres, hgn, hfn]
  clear hm hb hq hm1 hgn hfn hsm hres
  go_enter Try.func7, Try.ntmps7
  go_upto_region 1 with (fail)
  generalize w.alloc (.cells #[.slice gA gn gc, .slice fA fn fc] tMo) = W1 at *
  have p0 : W1.cell? ⟨w.heap.size, 0, none⟩ = some (.slice gA gn gc) := HQ.out.cell 0
  have pl := HQ.out.lt
  go_wp2_with fail
  go_loopw [14] (fun v wr => ∃ j : Nat, j ≤ gn ∧ v = .int .i64 j ∧ (m.g.take j).all okG = true ∧ Below W1.heap.size W1 wr) (fun v _ => gn - (intOf v).toNat)
  case atStart => exact ⟨0, by omega, rfl, rfl, Below.refl _ _⟩
  case round =>
    obtain ⟨j, hj, rfl, hal, hbw⟩ := hrel
    have HAL := Lib.hid hal
    have HBW := Lib.hid hbw
    clear hal p0 pl
    by_cases hlt : j < gn
    · have hjl : j < m.g.length := by rw [HGN.out]; exact hlt
      obtain ⟨g, o, c9, hv9, hg, -, -, -, hx⟩ := (HM.out.g.below hbw).at hjl
      simp only [Value.slice.injEq] at hv9
      obtain ⟨rfl, -, -⟩ := hv9
      have y0 := hx 0 (.string (str m.g[j].nm)) rfl; have y1 := hx 1 (.int .i64 m.g[j].ty) rfl; have y2 := hx 2 (.int .i64 m.g[j].sz) rfl; have y3 := hx 3 (.int .i64 m.g[j].at_) rfl
      simp only [Nat.add_zero] at y0
      simp only at y1 y2 y3
      have hg2 : g < wr.heap.size := by have := hbw.size; omega
      have hlt' : (j : Int) < gn := by omega
      have hts := all_take_succ okG m.g j hjl
      have HTS := Lib.hid hts
      have hokv : okG m.g[j] = (isV m.g[j].ty || (m.g[j].ty == 3 && decide (0 < m.g[j].sz))) := rfl
      have HOK := Lib.hid hokv
      clear hx hg hbw hts hokv
      generalize okG m.g[j] = okj at *
      generalize m.g[j].nm = nm at *
      generalize m.g[j].ty = ty at *
      generalize m.g[j].sz = sz at *
      generalize m.g[j].at_ = at_ at *
      obtain ⟨q, hq⟩ : ∃ q, isV ty = q := ⟨_, rfl⟩
      have HV : Hid (∀ W, Calls Try.prog 18 #[.int .i64 ty] W fun e w' => e = .returned (.bool q) ∧ W = w') := Lib.hid fun W => by rw [← hq]; exact isValue_any ty W
      rw [hq] at HOK
      obtain ⟨x3, hx3⟩ : ∃ x, (ty == 3) = x := ⟨_, rfl⟩
      obtain ⟨xs, hxs⟩ : ∃ x, decide (0 < sz) = x := ⟨_, rfl⟩
      rw [hx3, hxs] at HOK
      clear hq
      cases q <;> cases x3 <;> cases xs
      all_goals
        go_wp2_with fail
        refine (HV.out _).mono ?_
        rintro e w2 ⟨rfl, rfl⟩
        go_wp2_with fail
        first
          | (go_roundw
             case rel => exact ⟨j + 1, by omega, by go_num, by rw [HTS.out, HAL.out, HOK.out]; rfl, HBW.out.alloc HBW.out.size _⟩
             case measure => simp [intOf]; omega)
          | (go_ret
             refine ⟨?_, HB.out.trans ((HBW.out.alloc HBW.out.size _).mono HB.out.size)⟩
             have e1 : m.g.all okG = false := all_take_false okG m.g (j + 1) (by rw [HTS.out, HAL.out, HOK.out]; rfl)
             rw [← HRES.out, chk, if_pos e1]
             rfl)
    · obtain rfl : gn = j := by omega
      have hga : m.g.all okG = true := by
        have := HAL.out
        rw [List.take_of_length_le (by rw [HGN.out]; exact Nat.le_refl _)] at this
        exact this
      have HGA := Lib.hid hga
      obtain ⟨w2, hw2⟩ : ∃ w2, w2 = wr := ⟨_, rfl⟩
      subst hw2
      have hq2 := HQ.out.on hbw
      have HQ2 := Lib.hid hq2
      have HM2 := Lib.hid (HM.out.on hbw)
      have p1 : w2.cell? ⟨w.heap.size, 1, none⟩ = some (.slice fA fn fc) := hq2.cell 1
      have pl := hq2.lt
      clear hga hq2 hbw
      go_wp2_with fail
      clear p1 pl
      go_loopw [38] (fun v wr => ∃ j : Nat, j ≤ fn ∧ v = .int .i64 j ∧ fst0 ((m.f.map (chkF m)).take j) = 0 ∧ Below w2.heap.size w2 wr) (fun v _ => fn - (intOf v).toNat)
      case atStart => exact ⟨0, by omega, rfl, rfl, Below.refl _ _⟩
      case round =>
        obtain ⟨j, hj2, rfl, hal, hbw⟩ := hrel
        have HAL2 := Lib.hid hal
        have HBW2 := Lib.hid hbw
        have hq3 := HQ2.out.on hbw
        have p0 : wr.cell? ⟨w.heap.size, 0, none⟩ = some (.slice gA gn gc) := hq3.cell 0
        have p1 : wr.cell? ⟨w.heap.size, 1, none⟩ = some (.slice fA fn fc) := hq3.cell 1
        have pl := hq3.lt
        have HM3 := Lib.hid (HM2.out.on hbw)
        have HALL := Lib.hid (HB.out.trans ((HBW.out.trans (hbw.mono HBW.out.size)).mono HB.out.size))
        clear hal hq3
        by_cases hlt : j < fn
        · have hjl : j < m.f.length := by rw [HFN.out]; exact hlt
          obtain ⟨g, o, c9, hv9, hg, -, -, -, rv, bv, hrv, hbv, hx⟩ := HM3.out.f.at hjl
          simp only [Value.slice.injEq] at hv9
          obtain ⟨rfl, -, -⟩ := hv9
          obtain ⟨rA, rc, rfl, -⟩ := hrv.sl
          obtain ⟨bA, bc, rfl, -⟩ := hbv.sl
          have y0 := hx 0 (.string (str m.f[j].nm)) rfl; have y1 := hx 1 (.int .i64 m.f[j].ty) rfl; have y2 := hx 2 (.int .i64 m.f[j].pr) rfl; have y3 := hx 3 (.slice rA m.f[j].regs.length rc) rfl; have y4 := hx 4 (.slice bA m.f[j].bl.length bc) rfl
          simp only [Nat.add_zero] at y0
          simp only at y1 y2 y3 y4
          have hlt' : (j : Int) < fn := by omega
          have hbj : (m.f.map (chkF m))[j]? = some (chkF m m.f[j]) := by rw [List.getElem?_map, List.getElem?_eq_getElem hjl]; rfl
          have HSJ := Lib.hid (HSM.out _ (List.getElem_mem hjl))
          have HRV := Lib.hid hrv
          have HBV := Lib.hid hbv
          have HCK : Hid (∀ W b, Below wr.heap.size wr W → Blk W b tCk #[.slice gA gn gc, .slice (some ⟨g, o, none⟩) fn fc, .string (str m.f[j].nm), .int .i64 m.f[j].ty, .int .i64 m.f[j].pr, .slice rA m.f[j].regs.length rc, .slice bA m.f[j].bl.length bc] → Calls Try.prog 19 #[.pointer (some ⟨b, 0, none⟩)] W fun e w' => e = .returned (.int .i64 (chkF m m.f[j])) ∧ Below W.heap.size W w') :=
            Lib.hid fun W b hW hblk => check_any m m.f[j] HSJ.out b W ⟨⟨_, _, _, _, hblk, HM3.out.on hW, HRV.out.on hW, HBV.out.on hW⟩⟩
          obtain ⟨r, hr⟩ : ∃ r, chkF m m.f[j] = r := ⟨_, rfl⟩
          rw [hr] at HCK hbj
          have HBJ := Lib.hid hbj
          clear hx hbj hrv hbv hr HRV HBV HSJ hbw
          generalize m.f[j].regs.length = rl at *
          generalize m.f[j].bl.length = bll at *
          generalize m.f[j].nm = nm at *
          generalize m.f[j].ty = ty at *
          generalize m.f[j].pr = pr at *
          have hbb := (((Below.refl wr.heap.size wr).alloc (Nat.le_refl _) (.cells #[.string (str nm), .int .i64 ty, .int .i64 pr, .slice rA rl rc, .slice bA bll bc] tCo)).alloc (by simp) (.cells #[.slice gA gn gc, .slice (some ⟨g, o, none⟩) fn fc, .string (str nm), .int .i64 ty, .int .i64 pr, .slice rA rl rc, .slice bA bll bc] tCk))
          have hbk := Blk.new (wr.alloc (.cells #[.string (str nm), .int .i64 ty, .int .i64 pr, .slice rA rl rc, .slice bA bll bc] tCo)) tCk #[.slice gA gn gc, .slice (some ⟨g, o, none⟩) fn fc, .string (str nm), .int .i64 ty, .int .i64 pr, .slice rA rl rc, .slice bA bll bc]
          rw [show (wr.alloc (.cells #[.string (str nm), .int .i64 ty, .int .i64 pr, .slice rA rl rc, .slice bA bll bc] tCo)).heap.size = wr.heap.size + 1 by simp] at hbk
          have HBB := Lib.hid hbb
          have HBK := Lib.hid hbk
          clear hbb hbk
          by_cases hr0 : r = 0
          · have d1 : (r != 0) = false := by simpa using hr0
            have HR0 := Lib.hid hr0
            clear hr0
            go_upto_region 12 with (fail)
            go_wp2_with fail
            refine (HCK.out _ _ HBB.out HBK.out).mono ?_
            rintro e w5 ⟨rfl, hb5⟩
            have HB5 := Lib.hid (HBW2.out.trans ((HBB.out.trans (hb5.mono HBB.out.size)).mono HBW2.out.size))
            clear hb5
            go_wp2_with fail
            go_roundw
            case rel => exact ⟨j + 1, by omega, by go_num, fst0_up HAL2.out HBJ.out HR0.out, HB5.out⟩
            case measure => simp [intOf]; omega
          · have d1 : (r != 0) = true := by simpa using hr0
            have HR0 := Lib.hid hr0
            clear hr0
            go_upto_region 12 with (fail)
            go_wp2_with fail
            refine (HCK.out _ _ HBB.out HBK.out).mono ?_
            rintro e w5 ⟨rfl, hb5⟩
            have HB5 := Lib.hid (HALL.out.trans ((HBB.out.trans (hb5.mono HBB.out.size)).mono HALL.out.size))
            clear hb5
            go_wp2_with fail
            go_ret
            refine ⟨?_, HB5.out⟩
            have e1 : fst0 (m.f.map (chkF m)) = r := fst0_at HAL2.out HBJ.out HR0.out
            rw [← HRES.out, chk, if_neg (by rw [HGA.out]; simp), e1, if_pos HR0.out]
            rfl
        · obtain rfl : fn = j := by omega
          have hfa : fst0 (m.f.map (chkF m)) = 0 := by
            have := HAL2.out
            rw [List.take_of_length_le (by rw [List.length_map, HFN.out]; exact Nat.le_refl _)] at this
            exact this
          have hrs : res = if mainAt m < 0 then 12 else if (fAt m (mainAt m)).ty ≠ 1 ∨ 0 < (fAt m (mainAt m)).pr then 12 else 0 := by
            rw [← HRES.out, chk, if_neg (by rw [HGA.out]; simp), if_neg (by rw [hfa]; simp)]
          have HRS := Lib.hid hrs
          have HMO := Lib.hid (mainOf_any m _ _ wr HM3.out)
          obtain ⟨mm, hmm⟩ : ∃ x, mainAt m = x := ⟨_, rfl⟩
          have HMM := Lib.hid hmm
          have HMI := Lib.hid (@mainAt_in m)
          rw [hmm] at HMO HRS HMI
          clear hfa hrs hmm
          go_wp2_with fail
          refine HMO.out.mono ?_
          rintro e w5 ⟨rfl, hb5⟩
          have HB5 := Lib.hid (HALL.out.trans (hb5.mono HALL.out.size))
          have hq5 : Blk w5 w.heap.size tMo #[.slice gA gn gc, .slice fA fn fc] := (hb5.block _ pl).trans (HQ2.out.on hbw)
          have hm5 := HM3.out.on hb5
          have p1' : w5.cell? ⟨w.heap.size, 1, none⟩ = some (.slice fA fn fc) := hq5.cell 1
          have pl' := hq5.lt
          by_cases hneg : mm < 0
          · have d1 : decide (mm < 0) = true := by simpa using hneg
            have HNG := Lib.hid hneg
            clear hneg hb5 hq5 hm5
            go_wp2_with fail
            go_ret
            refine ⟨?_, HB5.out⟩
            rw [HRS.out, if_pos HNG.out]
            rfl
          · have d1 : decide (mm < 0) = false := by simpa using hneg
            obtain ⟨k, rfl, hk⟩ := HMI.out (by omega)
            obtain ⟨g, o, c9, hv9, hg, -, -, -, rv, bv, -, -, hx⟩ := hm5.f.at hk
            simp only [Value.slice.injEq] at hv9
            obtain ⟨rfl, -, -⟩ := hv9
            have y1 := hx 1 (.int .i64 m.f[k].ty) rfl; have y2 := hx 2 (.int .i64 m.f[k].pr) rfl
            simp only at y1 y2
            have hkf : (k : Int) < fn := by have := HFN.out; omega
            have hrs := HRS.out
            rw [if_neg hneg, fAt_lt hk] at hrs
            have HR3 := Lib.hid hrs
            clear hrs
            generalize m.f[k].ty = ty at *
            generalize m.f[k].pr = pr at *
            clear hneg hb5 hq5 hm5 hx HRS HMI HMO HMM
            by_cases ht : ty = 1
            · have HT := Lib.hid ht
              have d2 : (ty != 1) = false := by simpa using ht
              clear ht
              by_cases hp : 0 < pr
              · have HP := Lib.hid hp
                have d3 : decide (0 < pr) = true := by simpa using hp
                clear hp
                go_wp2_with fail
                go_ret
                refine ⟨?_, HB5.out⟩
                rw [HR3.out, if_pos (Or.inr HP.out)]
                rfl
              · have HP := Lib.hid hp
                have d3 : decide (0 < pr) = false := by simpa using hp
                clear hp
                go_wp2_with fail
                go_ret
                refine ⟨?_, HB5.out⟩
                rw [HR3.out, if_neg (by have := HT.out; have := HP.out; omega)]
                rfl
            · have HT := Lib.hid ht
              have d2 : (ty != 1) = true := by simpa using ht
              clear ht
              go_wp2_with fail
              go_ret
              refine ⟨?_, HB5.out⟩
              rw [HR3.out, if_pos (Or.inl HT.out)]
              rfl
end Go.Proofs.Ytgcjfbgfoiekmaa
