/-
  Is a module greater than the statements go through?
-/
import Derived.Test.YtgcjfbgfoiekmaaIvk
namespace Go.Proofs.Ytgcjfbgfoiekmaa
open Go Go.RowKit Go.Maps
set_option linter.unusedVariables false
set_option linter.unusedSimpArgs false

theorem IsL.kle {α : Type} {w : World} {B n : Nat} {A : Option Addr} {k c : Nat} {l : List α} {p : α → (Nat → Option Value) → Prop} (h : IsL w B n (.slice A k c) l p) : k ≤ 2 ^ 63 - 1 := by
  obtain ⟨A', c', e, h1, h2, _, _⟩ := h
  simp only [Value.slice.injEq] at e
  obtain ⟨rfl, rfl, rfl⟩ := e
  unfold maxLen at h2
  omega

set_option maxHeartbeats 8000000 in
set_option maxRecDepth 100000 in
theorem big_any (m : Mdl) (gv fv : Value) (w : World) (hm : IsM w w.heap.size gv fv m) : Calls Try.prog 6 #[.agg #[gv, fv]] w fun e w' => (e = .returned (.bool true) ∨ (e = .returned (.bool false) ∧ m.g.length ≤ 20)) ∧ Below w.heap.size w w' := by
  obtain ⟨gA, gc, rfl, hgl, hgm, -⟩ := hm.g.sl
  obtain ⟨fA, fc, rfl, hfl, hfm, -⟩ := hm.f.sl
  unfold maxLen at hgm hfm
  have hb : Below w.heap.size w (w.alloc (.cells #[.slice gA m.g.length gc, .slice fA m.f.length fc] tMo)) := (Below.refl _ _).alloc (Nat.le_refl _) _
  have hq := Blk.new w tMo #[.slice gA m.g.length gc, .slice fA m.f.length fc]
  have hm1 := hm.on hb
  obtain ⟨gn, hgn⟩ : ∃ n, m.g.length = n := ⟨_, rfl⟩
  obtain ⟨fn, hfn⟩ : ∃ n, m.f.length = n := ⟨_, rfl⟩
  have HGN := Lib.hid hgn
  have HFN := Lib.hid hfn
  rw [hgn] at hb hq hm1 hgl
  rw [hfn] at hb hq hm1 hfl
  have HB := Lib.hid hb
  have HQ := Lib.hid hq
  have HM := Lib.hid hm1
  obtain ⟨P, hP⟩ : ∃ P : Prop, (m.g.length ≤ 20) = P := ⟨_, rfl⟩
  rw [hP, hgn, hfn]
  have HP := Lib.hid hP
  clear hm hb hq hm1 hgn hfn hP
  go_enter Try.func6, Try.ntmps6
  go_upto_region 1 with (fail)
  generalize w.alloc (.cells #[.slice gA gn gc, .slice fA fn fc] tMo) = W1 at *
  have p0 : W1.cell? ⟨w.heap.size, 0, none⟩ = some (.slice gA gn gc) := HQ.out.cell 0
  have p1 : W1.cell? ⟨w.heap.size, 1, none⟩ = some (.slice fA fn fc) := HQ.out.cell 1
  have pl := HQ.out.lt
  by_cases h20 : (20 : Int) < gn
  · go_wp2_with fail
    go_ret
    exact ⟨.inl rfl, HB.out⟩
  by_cases h12 : (12 : Int) < fn
  · go_wp2_with fail
    go_ret
    exact ⟨.inl rfl, HB.out⟩
  go_wp2_with fail
  go_loopw [4] (fun v wr => wr = W1 ∧ ∃ j : Nat, j ≤ gn ∧ v = .int .i64 j) (fun v _ => gn - (intOf v).toNat)
  case atStart => exact ⟨by first | rfl | trivial, 0, by omega, rfl⟩
  case round =>
    obtain ⟨rfl, j, hj, rfl⟩ := hrel
    by_cases hlt : j < gn
    · have hjl : j < m.g.length := by rw [HGN.out]; exact hlt
      obtain ⟨g, o, c9, hv9, hg, -, -, -, hx⟩ := HM.out.g.at hjl
      simp only [Value.slice.injEq] at hv9
      obtain ⟨rfl, -, -⟩ := hv9
      have y2 := hx 2 (.int .i64 m.g[j].sz) rfl
      simp only at y2
      have hlt' : (j : Int) < gn := by omega
      clear hx
      generalize m.g[j].sz = sz at *
      by_cases hs : (1024 : Int) < sz
      · go_wp2_with fail
        go_ret
        exact ⟨.inl rfl, HB.out⟩
      · go_wp2_with fail
        go_roundw
        case rel => exact ⟨by first | rfl | trivial, j + 1, by omega, by go_num⟩
        case measure => simp [intOf]; omega
    · obtain rfl : gn = j := by omega
      go_wp2_with fail
      obtain ⟨w2, hw2⟩ : ∃ w2, w2 = wr := ⟨_, rfl⟩
      subst hw2
      go_loopw [3, 5] (fun v3 v wr => ∃ (j : Nat) (N : Int), j ≤ fn ∧ v = .int .i64 j ∧ v3 = .int .i64 N ∧ Below w2.heap.size w2 wr) (fun _ v _ => fn - (intOf v).toNat)
      case atStart => exact ⟨0, 0, by omega, rfl, rfl, Below.refl _ _⟩
      case round =>
        obtain ⟨j, N, hj2, rfl, rfl, hbw⟩ := hrel
        have HBW := Lib.hid hbw
        have hq3 := HQ.out.on hbw
        have p1 : wr.cell? ⟨w.heap.size, 1, none⟩ = some (.slice fA fn fc) := hq3.cell 1
        have pl3 := hq3.lt
        have HM3 := Lib.hid (HM.out.on hbw)
        have HQ3 := Lib.hid hq3
        clear hbw hq3
        by_cases hlt : j < fn
        · have hjl : j < m.f.length := by rw [HFN.out]; exact hlt
          obtain ⟨g, o, c9, hv9, hg, -, -, -, rv, bv, hrv, hbv, hx⟩ := HM3.out.f.at hjl
          simp only [Value.slice.injEq] at hv9
          obtain ⟨rfl, -, -⟩ := hv9
          obtain ⟨rA, rc, rfl, -⟩ := hrv.sl
          obtain ⟨bA, bc, rfl, -⟩ := hbv.sl
          have y0 := hx 0 (.string (str m.f[j].nm)) rfl; have y1 := hx 1 (.int .i64 m.f[j].ty) rfl; have y2 := hx 2 (.int .i64 m.f[j].pr) rfl; have y3 := hx 3 (.slice rA m.f[j].regs.length rc) rfl; have y4 := hx 4 (.slice bA m.f[j].bl.length bc) rfl
          simp only [Nat.add_zero] at y0
          simp only at y1 y2 y3 y4
          have hlt' : (j : Int) < fn := by omega
          clear hx hrv
          generalize m.f[j] = cod at *
          obtain ⟨bn, hbn⟩ : ∃ n, cod.bl.length = n := ⟨_, rfl⟩
          have HBN := Lib.hid hbn
          rw [hbn] at y4
          obtain ⟨rn, hrn⟩ : ∃ n, cod.regs.length = n := ⟨_, rfl⟩
          rw [hrn] at y3
          have HBV := Lib.hid hbv
          rw [hbn] at HBV
          have hbm : bn ≤ 2 ^ 63 - 1 := HBV.out.kle
          clear hbn hrn hbv
          generalize cod.nm = nm at *
          generalize cod.ty = ty at *
          generalize cod.pr = pr at *
          go_upto_region 13 with (fail)
          have hbb : Below wr.heap.size wr (wr.alloc (.cells #[.string (str nm), .int .i64 ty, .int .i64 pr, .slice rA rn rc, .slice bA bn bc] tCo)) := (Below.refl wr.heap.size wr).alloc (Nat.le_refl _) _
          have hbk := Blk.new wr tCo #[.string (str nm), .int .i64 ty, .int .i64 pr, .slice rA rn rc, .slice bA bn bc]
          generalize wr.alloc (.cells #[.string (str nm), .int .i64 ty, .int .i64 pr, .slice rA rn rc, .slice bA bn bc] tCo) = W5 at *
          have c3 : W5.cell? ⟨wr.heap.size, 3, none⟩ = some (.slice rA rn rc) := hbk.cell 3
          have c4 : W5.cell? ⟨wr.heap.size, 4, none⟩ = some (.slice bA bn bc) := hbk.cell 4
          have cl := hbk.lt
          have HW5 := Lib.hid (HBW.out.trans (hbb.mono HBW.out.size))
          have HALL := Lib.hid (HB.out.trans (HW5.out.mono HB.out.size))
          have HBV5 := Lib.hid (HBV.out.on hbb)
          clear hbb hbk y0 y1 y2 y3 y4 p1 p0 pl pl3 HBV
          go_wp2_with fail
          go_loopw [3, 7] (fun v3 v w9 => w9 = W5 ∧ ∃ (k : Nat) (S : Int), k ≤ bn ∧ v = .int .i64 k ∧ v3 = .int .i64 S) (fun _ v _ => bn - (intOf v).toNat)
          case atStart => exact ⟨by first | rfl | trivial, 0, _, by omega, rfl, rfl⟩
          case round =>
            obtain ⟨rfl, k, S, hk, rfl, rfl⟩ := hrel
            by_cases hlk : k < bn
            · have hkl : k < cod.bl.length := by rw [HBN.out]; exact hlk
              obtain ⟨g1, o1, c8, hv8, hg1, -, -, -, cv, hcv, hx⟩ := HBV5.out.at hkl
              simp only [Value.slice.injEq] at hv8
              obtain ⟨rfl, -, -⟩ := hv8
              obtain ⟨cA, cc, rfl, -⟩ := hcv.sl
              have y0 := hx 0 (.slice cA cod.bl[k].code.length cc) rfl
              simp only [Nat.add_zero] at y0
              have hlk' : (k : Int) < bn := by omega
              have HCV := Lib.hid hcv
              clear hx hcv
              generalize cod.bl[k] = blo at *
              obtain ⟨cn, hcn⟩ : ∃ n, blo.code.length = n := ⟨_, rfl⟩
              have HCN := Lib.hid hcn
              rw [hcn] at y0 HCV
              have hcm : cn ≤ 2 ^ 63 - 1 := HCV.out.kle
              clear hcn
              go_wp2_with fail
              go_loopw [3, 8] (fun v3 v w9 => w9 = wr ∧ ∃ (j : Nat) (U : Int), j ≤ cn ∧ v = .int .i64 j ∧ v3 = .int .i64 U) (fun _ v _ => cn - (intOf v).toNat)
              case atStart => exact ⟨by first | rfl | trivial, 0, _, by omega, rfl, rfl⟩
              case round =>
                obtain ⟨rfl, i, U, hi, rfl, rfl⟩ := hrel
                by_cases hli : i < cn
                · have hil : i < blo.code.length := by rw [HCN.out]; exact hli
                  obtain ⟨g2, o2, c7, hv7, hg2, -, -, -, av, hav, hx⟩ := HCV.out.at hil
                  simp only [Value.slice.injEq] at hv7
                  obtain ⟨rfl, -, -⟩ := hv7
                  obtain ⟨aA, ac, rfl, -⟩ := hav.sl
                  have z7 := hx 7 (.slice aA blo.code[i].args.length ac) rfl
                  simp only at z7
                  have hli' : (i : Int) < cn := by omega
                  clear hx hav
                  generalize blo.code[i].args.length = an at *
                  go_wp2_with fail
                  go_roundw
                  case rel => exact ⟨by first | rfl | trivial, i + 1, _, by omega, by go_num, rfl⟩
                  case measure => simp [intOf]; omega
                · obtain rfl : cn = i := by omega
                  go_wp2_with fail
                  go_roundw
                  case rel => exact ⟨by first | rfl | trivial, k + 1, U, by omega, by go_num, rfl⟩
                  case measure => simp [intOf]; omega
            · obtain rfl : bn = k := by omega
              by_cases h3 : (3000 : Int) < S
              · go_wp2_with fail
                go_ret
                exact ⟨.inl rfl, HALL.out⟩
              · go_wp2_with fail
                go_roundw
                case rel => exact ⟨j + 1, S, by omega, by go_num, rfl, HW5.out⟩
                case measure => simp [intOf]; omega
        · obtain rfl : fn = j := by omega
          have hPP : P := by
            rw [← HP.out, HGN.out]
            omega
          have HPP := Lib.hid hPP
          clear hPP
          go_wp2_with fail
          go_ret
          exact ⟨.inr ⟨rfl, HPP.out⟩, HB.out.trans (HBW.out.mono HB.out.size)⟩
end Go.Proofs.Ytgcjfbgfoiekmaa
