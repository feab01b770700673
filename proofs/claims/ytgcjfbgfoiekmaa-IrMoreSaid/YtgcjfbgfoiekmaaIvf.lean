/-
  Layer ir: walks of exist, fit, haveBlocks, hasGlobal, leadsTo.
-/
import Derived.Test.YtgcjfbgfoiekmaaIve
import Derived.Laws.EntriesVeiled
namespace Go.Proofs.Ytgcjfbgfoiekmaa
open Go Go.RowKit
set_option linter.unusedVariables false
set_option linter.unusedSimpArgs false

theorem all_take_succ {α : Type} (p : α → Bool) (l : List α) (k : Nat) (h : k < l.length) : (l.take (k + 1)).all p = ((l.take k).all p && p l[k]) := by
  rw [List.take_succ_eq_append_getElem h, List.all_append]
  simp
theorem all_take_false {α : Type} (p : α → Bool) (l : List α) (k : Nat) (h : (l.take k).all p = false) : l.all p = false := by
  rw [← List.take_append_drop k l, List.all_append, h, Bool.false_and]
theorem inR_true {α : Type} {l : List α} {i : Int} (h0 : 0 ≤ i) (h1 : i < l.length) : inR l i = true := by simp [inR, h0, h1]
theorem inR_neg {α : Type} {l : List α} {i : Int} (h0 : i < 0) : inR l i = false := by simp [inR]; omega
theorem inR_big {α : Type} {l : List α} {i : Int} (h1 : (l.length : Int) ≤ i) : inR l i = false := by simp [inR]; omega
set_option maxHeartbeats 1000000 in
set_option maxRecDepth 100000 in
theorem exist_any (m : Mdl) (f : Cod) (l : List (Int × (Int → Bool))) (v : Value) (ok : Prop) (cb : Nat) (w : World) (hc : CkV w cb m f) (hv : IsNd w ok v l) :
    Calls Try.prog 38 #[.pointer (some ⟨cb, 0, none⟩), v] w fun e w' => e = .returned (.bool (existL f l)) ∧ Below w.heap.size w w' := by
  obtain ⟨A, c, rfl, hlc, hcm, hA0⟩ := hv.sl
  unfold maxLen at hcm
  obtain ⟨n, hn⟩ : ∃ n, l.length = n := ⟨_, rfl⟩
  obtain ⟨gv, fv, rv, bv, hb, -, hri, -⟩ := hc.x
  obtain ⟨rA, rc, rfl, hrl, hrm, hrA⟩ := hri.sl
  have HB := Lib.hid hb
  have HV := Lib.hid hv
  have HN := Lib.hid hn
  obtain ⟨res, hres⟩ : ∃ r, existL f l = r := ⟨_, rfl⟩
  have HRES := Lib.hid hres
  rw [hres]
  rw [hn] at hlc ⊢
  clear hc hv hb hri hn hres
  go_enter Try.func38, Try.ntmps38
  go_wp2_with fail
  go_loopw [9] (fun v wr => ∃ j : Nat, j ≤ n ∧ v = .int .i64 j ∧ (l.take j).all (fun n => inR f.regs n.1) = true ∧ Below w.heap.size w wr) (fun v _ => n - (intOf v).toNat)
  case atStart => exact ⟨0, by omega, rfl, by simp, Below.refl _ _⟩
  case round =>
    obtain ⟨j, hj, rfl, hal, hbw⟩ := hrel
    have HAL := Lib.hid hal
    have HBW := Lib.hid hbw
    clear hal
    by_cases hlt : j < n
    · have hjl : j < l.length := by rw [HN.out]; exact hlt
      obtain ⟨g, o, c9, hv9, hg, -, -, hx0, fv', hx1, k, caps, rfl, -, -⟩ := HV.out.at hjl
      simp only [Value.slice.injEq] at hv9
      obtain ⟨rfl, -, -⟩ := hv9
      have x0 : wr.cell? ⟨g, o + j * 2, none⟩ = some (.int .i64 l[j].1) := (hbw.cell (p := ⟨g, o + j * 2, none⟩) hg).trans hx0
      have x1 : wr.cell? ⟨g, o + j * 2 + 1, none⟩ = some (.func (.func k) #[] caps) := (hbw.cell (p := ⟨g, o + j * 2 + 1, none⟩) hg).trans hx1
      have gl : g < wr.heap.size := by have := hbw.size; omega
      have c5 : wr.cell? ⟨cb, 5, none⟩ = some (.slice rA f.regs.length rc) := (hbw.cell (p := ⟨cb, 5, none⟩) HB.out.lt).trans (HB.out.cell 5)
      have cl : cb < wr.heap.size := by have := hbw.size; have := HB.out.lt; omega
      have hts := all_take_succ (fun n : Int × (Int → Bool) => inR f.regs n.1) l j hjl
      have HTS := Lib.hid hts
      have hlt' : (j : Int) < n := by omega
      clear hts hx0 hx1 hg hbw
      generalize l[j] = x at *
      obtain ⟨r, p⟩ := x
      simp only at x0 HTS
      by_cases h1 : r < 0
      · have d1 : decide (r < 0) = true := by simpa using h1
        have hi := inR_neg (l := f.regs) h1
        have HI := Lib.hid hi
        clear hi h1
        go_upto_region 4 with (fail)
        go_quiet (fail)
        go_wp2_with fail
        go_ret
        refine ⟨?_, (HBW.out.alloc HBW.out.size _).trans (below_drewN _ _ _)⟩
        rw [← HRES.out, existL, all_take_false _ l (j + 1) (by rw [HTS.out, HAL.out, HI.out]; rfl)]
        rfl
      · have d1 : decide (r < 0) = false := by simpa using h1
        by_cases h2 : (f.regs.length : Int) ≤ r
        · have d2 : decide ((f.regs.length : Int) ≤ r) = true := by simpa using h2
          have hi := inR_big (l := f.regs) h2
          have HI := Lib.hid hi
          clear hi h1 h2
          go_upto_region 4 with (fail)
          go_quiet (fail)
          go_wp2_with fail
          go_ret
          refine ⟨?_, (HBW.out.alloc HBW.out.size _).trans (below_drewN _ _ _)⟩
          rw [← HRES.out, existL, all_take_false _ l (j + 1) (by rw [HTS.out, HAL.out, HI.out]; rfl)]
          rfl
        · have d2 : decide ((f.regs.length : Int) ≤ r) = false := by simpa using h2
          have hi : inR f.regs r = true := inR_true (by omega) (by omega)
          have HI := Lib.hid hi
          clear hi h1 h2
          go_upto_region 4 with (fail)
          go_quiet (fail)
          go_wp2_with fail
          go_roundw
          case rel => exact ⟨j + 1, by omega, by go_num, by rw [HTS.out, HAL.out, HI.out]; rfl, (HBW.out.alloc HBW.out.size _).trans (below_drewN _ _ _)⟩
          case measure => simp [intOf]; omega
    · obtain rfl : n = j := by omega
      clear hbw
      go_wp2_with fail
      go_ret
      refine ⟨?_, HBW.out⟩
      rw [← HRES.out, existL]
      have := HAL.out
      rw [List.take_of_length_le (by rw [HN.out]; exact Nat.le_refl _)] at this
      rw [this]
      rfl
set_option maxHeartbeats 4000000 in
set_option maxRecDepth 100000 in
theorem fit_any (m : Mdl) (f : Cod) (l : List (Int × (Int → Bool))) (v : Value) (ok : Prop) (hok : ok) (hex : existL f l = true) (cb : Nat) (w : World) (hc : CkV w cb m f) (hv : IsNd w ok v l) :
    Calls Try.prog 40 #[.pointer (some ⟨cb, 0, none⟩), v] w fun e w' => e = .returned (.bool (fitL f l)) ∧ Below w.heap.size w w' := by
  obtain ⟨A, c, rfl, hlc, hcm, hA0⟩ := hv.sl
  unfold maxLen at hcm
  obtain ⟨n, hn⟩ : ∃ n, l.length = n := ⟨_, rfl⟩
  obtain ⟨gv, fv, rv, bv, hb, -, hri, -⟩ := hc.x
  obtain ⟨rA, rc, rfl, hrl, hrm, hrA⟩ := hri.sl
  have HB := Lib.hid hb
  have HV := Lib.hid hv
  have HN := Lib.hid hn
  have HRI := Lib.hid hri
  have HEX := Lib.hid hex
  obtain ⟨res, hres⟩ : ∃ r, fitL f l = r := ⟨_, rfl⟩
  have HRES := Lib.hid hres
  rw [hres]
  rw [hn] at hlc ⊢
  clear hc hv hb hri hn hres hex
  go_enter Try.func40, Try.ntmps40
  go_wp2_with fail
  go_loopw [9] (fun v wr => ∃ j : Nat, j ≤ n ∧ v = .int .i64 j ∧ (l.take j).all (fun n => n.2 (at0 f.regs n.1)) = true ∧ Below w.heap.size w wr) (fun v _ => n - (intOf v).toNat)
  case atStart => exact ⟨0, by omega, rfl, by simp, Below.refl _ _⟩
  case round =>
    obtain ⟨j, hj, rfl, hal, hbw⟩ := hrel
    have HAL := Lib.hid hal
    have HBW := Lib.hid hbw
    clear hal
    by_cases hlt : j < n
    · have hjl : j < l.length := by rw [HN.out]; exact hlt
      obtain ⟨g, o, c9, hv9, hg, -, -, hx0, fv', hx1, k, caps, rfl, hk, hcall⟩ := HV.out.at hjl
      simp only [Value.slice.injEq] at hv9
      obtain ⟨rfl, -, -⟩ := hv9
      have x0 : wr.cell? ⟨g, o + j * 2, none⟩ = some (.int .i64 l[j].1) := (hbw.cell (p := ⟨g, o + j * 2, none⟩) hg).trans hx0
      have x1 : wr.cell? ⟨g, o + j * 2 + 1, none⟩ = some (.func (.func k) #[] caps) := (hbw.cell (p := ⟨g, o + j * 2 + 1, none⟩) hg).trans hx1
      have gl : g < wr.heap.size := by have := hbw.size; omega
      have hts := all_take_succ (fun n : Int × (Int → Bool) => n.2 (at0 f.regs n.1)) l j hjl
      have hin : inR f.regs l[j].1 = true := List.all_eq_true.1 HEX.out _ (List.getElem_mem hjl)
      obtain ⟨rk, hrk, hrlt⟩ := inR_nat hin
      obtain ⟨g2, o2, c2, hr9, hg2, -, -, hy, -⟩ := HRI.out.at hrlt
      simp only [Value.slice.injEq] at hr9
      obtain ⟨rfl, -, -⟩ := hr9
      have y0 : wr.cell? ⟨g2, o2 + rk, none⟩ = some (.int .i64 f.regs[rk]) := (hbw.cell (p := ⟨g2, o2 + rk, none⟩) hg2).trans (by simpa using hy)
      have gl2 : g2 < wr.heap.size := by have := hbw.size; omega
      have c5 : wr.cell? ⟨cb, 5, none⟩ = some (.slice (some ⟨g2, o2, none⟩) f.regs.length rc) := (hbw.cell (p := ⟨cb, 5, none⟩) HB.out.lt).trans (HB.out.cell 5)
      have cl : cb < wr.heap.size := by have := hbw.size; have := HB.out.lt; omega
      have hlt' : (j : Int) < n := by omega
      have hrl' : (rk : Int) < f.regs.length := by omega
      have hreg := at0_lt hrlt
      rw [hrk] at hts x0
      rw [hreg] at hts
      have hcc : ∀ W, Below wr.heap.size wr W → Calls Try.prog k (#[.int .i64 f.regs[rk]] ++ caps) W fun e w' => e = .returned (.bool (l[j].2 f.regs[rk])) ∧ Below W.heap.size W w' := fun W hW => hcall hok W (hbw.trans (hW.mono hbw.size)) _
      generalize f.regs[rk] = tv at *
      obtain ⟨b, hbb⟩ : ∃ b, l[j].2 tv = b := ⟨_, rfl⟩
      rw [hbb] at hts hcc
      have HTS := Lib.hid hts
      clear hts hx0 hx1 hg hbw hcall hreg hin hrk hbb hy hg2
      have J0 : Below wr.heap.size wr wr := Below.refl _ _
      rcases hk with ⟨rfl, rfl⟩ | ⟨z1, rfl, rfl⟩ | ⟨z1, z2, rfl, rfl⟩ | ⟨z1, z2, rfl, rfl⟩ | ⟨z1, z2, rfl, rfl⟩ | ⟨z1, z2, rfl, rfl⟩ | ⟨z1, z2, z3, rfl, rfl⟩
      · have HC := Lib.hid hcc
        simp only [List.append_toArray, Array.append_empty, List.cons_append, List.nil_append] at HC
        clear hcc
        have b2 := Blk.new wr tNd #[.int .i64 (rk : Nat), .func (.func 18) #[] #[]]
        have hb2 : Below wr.heap.size wr (wr.alloc (.cells #[.int .i64 (rk : Nat), .func (.func 18) #[] #[]] tNd)) := (Below.refl _ _).alloc (Nat.le_refl _) _
        cases b
        all_goals
          go_upto_region 4 with (fail)
          generalize (wr.alloc (.cells #[.int .i64 (rk : Nat), .func (.func 18) #[] #[]] tNd)) = W2 at *
          have HB2 := Lib.hid hb2
          have p0 : W2.cell? ⟨wr.heap.size, 0, none⟩ = some (.int .i64 (rk : Nat)) := b2.cell 0
          have p1 : W2.cell? ⟨wr.heap.size, 1, none⟩ = some (.func (.func 18) #[] #[]) := b2.cell 1
          have pl := b2.lt
          have c5' : W2.cell? ⟨cb, 5, none⟩ = some (.slice (some ⟨g2, o2, none⟩) f.regs.length rc) := (hb2.cell (p := ⟨cb, 5, none⟩) cl).trans c5
          have y0' : W2.cell? ⟨g2, o2 + rk, none⟩ = some (.int .i64 tv) := (hb2.cell (p := ⟨g2, o2 + rk, none⟩) gl2).trans y0
          have cl' : cb < W2.heap.size := by have := hb2.size; omega
          have gl2' : g2 < W2.heap.size := by have := hb2.size; omega
          have HS : Hid (∀ Wx, Below W2.heap.size W2 Wx → Wx.cell? ⟨wr.heap.size, 0, none⟩ = some (.int .i64 (rk : Nat)) ∧ Wx.cell? ⟨wr.heap.size, 1, none⟩ = some (.func (.func 18) #[] #[]) ∧ Wx.cell? ⟨cb, 5, none⟩ = some (.slice (some ⟨g2, o2, none⟩) f.regs.length rc) ∧ Wx.cell? ⟨g2, o2 + rk, none⟩ = some (.int .i64 tv) ∧ wr.heap.size < Wx.heap.size ∧ cb < Wx.heap.size ∧ g2 < Wx.heap.size) := Lib.hid fun Wx h => by
            have hz := h.size
            exact ⟨(h.cell (p := ⟨wr.heap.size, 0, none⟩) pl).trans p0, (h.cell (p := ⟨wr.heap.size, 1, none⟩) pl).trans p1, (h.cell (p := ⟨cb, 5, none⟩) cl').trans c5', (h.cell (p := ⟨g2, o2 + rk, none⟩) gl2').trans y0', by omega, by omega, by omega⟩
          have J : Below W2.heap.size W2 W2 := Below.refl _ _
          clear hb2 b2 x0 x1 c5 y0
          go_region_held3 (fun Wx => Wx.cell? ⟨wr.heap.size, 0, none⟩ = some (.int .i64 (rk : Nat)) ∧ Wx.cell? ⟨wr.heap.size, 1, none⟩ = some (.func (.func 18) #[] #[]) ∧ Wx.cell? ⟨cb, 5, none⟩ = some (.slice (some ⟨g2, o2, none⟩) f.regs.length rc) ∧ Wx.cell? ⟨g2, o2 + rk, none⟩ = some (.int .i64 tv) ∧ wr.heap.size < Wx.heap.size ∧ cb < Wx.heap.size ∧ g2 < Wx.heap.size)
            (first | exact ⟨p0, p1, c5', y0', pl, cl', gl2'⟩ | exact HS.out _ J)
            (first
              | (go_at_call 18; (with_reducible refine Calls.mono (HC.out _ ?hw) ?_); (case hw => first | exact HB2.out.trans (J.mono HB2.out.size) | exact HB2.out.trans (J.drew.mono HB2.out.size)); rintro e v1 ⟨rfl, b1⟩; have J : Below W2.heap.size W2 v1 := by first | exact J.trans (b1.mono J.size) | exact J.drew.trans (b1.mono J.drew.size)))
          all_goals
            have HJ := Lib.hid (HB2.out.trans (J.mono HB2.out.size))
            clear J
            go_wp2_with fail
            first
              | (go_roundw
                 case rel => exact ⟨j + 1, by omega, by go_num, by rw [HTS.out, HAL.out]; rfl, HBW.out.trans (HJ.out.mono HBW.out.size)⟩
                 case measure => simp [intOf]; omega)
              | (go_ret
                 refine ⟨?_, HBW.out.trans (HJ.out.mono HBW.out.size)⟩
                 rw [← HRES.out, fitL, all_take_false _ l (j + 1) (by rw [HTS.out, HAL.out]; rfl)]
                 rfl)
              | (refine ⟨?_, HBW.out.trans (HJ.out.mono HBW.out.size)⟩
                 rw [← HRES.out, fitL, all_take_false _ l (j + 1) (by rw [HTS.out, HAL.out]; rfl)]
                 rfl)
      · have HC := Lib.hid hcc
        simp only [List.append_toArray, Array.append_empty, List.cons_append, List.nil_append] at HC
        clear hcc
        have b2 := Blk.new wr tNd #[.int .i64 (rk : Nat), .func (.func 57) #[] #[z1]]
        have hb2 : Below wr.heap.size wr (wr.alloc (.cells #[.int .i64 (rk : Nat), .func (.func 57) #[] #[z1]] tNd)) := (Below.refl _ _).alloc (Nat.le_refl _) _
        cases b
        all_goals
          go_upto_region 4 with (fail)
          generalize (wr.alloc (.cells #[.int .i64 (rk : Nat), .func (.func 57) #[] #[z1]] tNd)) = W2 at *
          have HB2 := Lib.hid hb2
          have p0 : W2.cell? ⟨wr.heap.size, 0, none⟩ = some (.int .i64 (rk : Nat)) := b2.cell 0
          have p1 : W2.cell? ⟨wr.heap.size, 1, none⟩ = some (.func (.func 57) #[] #[z1]) := b2.cell 1
          have pl := b2.lt
          have c5' : W2.cell? ⟨cb, 5, none⟩ = some (.slice (some ⟨g2, o2, none⟩) f.regs.length rc) := (hb2.cell (p := ⟨cb, 5, none⟩) cl).trans c5
          have y0' : W2.cell? ⟨g2, o2 + rk, none⟩ = some (.int .i64 tv) := (hb2.cell (p := ⟨g2, o2 + rk, none⟩) gl2).trans y0
          have cl' : cb < W2.heap.size := by have := hb2.size; omega
          have gl2' : g2 < W2.heap.size := by have := hb2.size; omega
          have HS : Hid (∀ Wx, Below W2.heap.size W2 Wx → Wx.cell? ⟨wr.heap.size, 0, none⟩ = some (.int .i64 (rk : Nat)) ∧ Wx.cell? ⟨wr.heap.size, 1, none⟩ = some (.func (.func 57) #[] #[z1]) ∧ Wx.cell? ⟨cb, 5, none⟩ = some (.slice (some ⟨g2, o2, none⟩) f.regs.length rc) ∧ Wx.cell? ⟨g2, o2 + rk, none⟩ = some (.int .i64 tv) ∧ wr.heap.size < Wx.heap.size ∧ cb < Wx.heap.size ∧ g2 < Wx.heap.size) := Lib.hid fun Wx h => by
            have hz := h.size
            exact ⟨(h.cell (p := ⟨wr.heap.size, 0, none⟩) pl).trans p0, (h.cell (p := ⟨wr.heap.size, 1, none⟩) pl).trans p1, (h.cell (p := ⟨cb, 5, none⟩) cl').trans c5', (h.cell (p := ⟨g2, o2 + rk, none⟩) gl2').trans y0', by omega, by omega, by omega⟩
          have J : Below W2.heap.size W2 W2 := Below.refl _ _
          clear hb2 b2 x0 x1 c5 y0
          go_region_held3 (fun Wx => Wx.cell? ⟨wr.heap.size, 0, none⟩ = some (.int .i64 (rk : Nat)) ∧ Wx.cell? ⟨wr.heap.size, 1, none⟩ = some (.func (.func 57) #[] #[z1]) ∧ Wx.cell? ⟨cb, 5, none⟩ = some (.slice (some ⟨g2, o2, none⟩) f.regs.length rc) ∧ Wx.cell? ⟨g2, o2 + rk, none⟩ = some (.int .i64 tv) ∧ wr.heap.size < Wx.heap.size ∧ cb < Wx.heap.size ∧ g2 < Wx.heap.size)
            (first | exact ⟨p0, p1, c5', y0', pl, cl', gl2'⟩ | exact HS.out _ J)
            (first
              | (go_at_call 57; (with_reducible refine Calls.mono (HC.out _ ?hw) ?_); (case hw => first | exact HB2.out.trans (J.mono HB2.out.size) | exact HB2.out.trans (J.drew.mono HB2.out.size)); rintro e v1 ⟨rfl, b1⟩; have J : Below W2.heap.size W2 v1 := by first | exact J.trans (b1.mono J.size) | exact J.drew.trans (b1.mono J.drew.size)))
          all_goals
            have HJ := Lib.hid (HB2.out.trans (J.mono HB2.out.size))
            clear J
            go_wp2_with fail
            first
              | (go_roundw
                 case rel => exact ⟨j + 1, by omega, by go_num, by rw [HTS.out, HAL.out]; rfl, HBW.out.trans (HJ.out.mono HBW.out.size)⟩
                 case measure => simp [intOf]; omega)
              | (go_ret
                 refine ⟨?_, HBW.out.trans (HJ.out.mono HBW.out.size)⟩
                 rw [← HRES.out, fitL, all_take_false _ l (j + 1) (by rw [HTS.out, HAL.out]; rfl)]
                 rfl)
              | (refine ⟨?_, HBW.out.trans (HJ.out.mono HBW.out.size)⟩
                 rw [← HRES.out, fitL, all_take_false _ l (j + 1) (by rw [HTS.out, HAL.out]; rfl)]
                 rfl)
      · have HC := Lib.hid hcc
        simp only [List.append_toArray, Array.append_empty, List.cons_append, List.nil_append] at HC
        clear hcc
        have b2 := Blk.new wr tNd #[.int .i64 (rk : Nat), .func (.func 48) #[] #[z1, z2]]
        have hb2 : Below wr.heap.size wr (wr.alloc (.cells #[.int .i64 (rk : Nat), .func (.func 48) #[] #[z1, z2]] tNd)) := (Below.refl _ _).alloc (Nat.le_refl _) _
        cases b
        all_goals
          go_upto_region 4 with (fail)
          generalize (wr.alloc (.cells #[.int .i64 (rk : Nat), .func (.func 48) #[] #[z1, z2]] tNd)) = W2 at *
          have HB2 := Lib.hid hb2
          have p0 : W2.cell? ⟨wr.heap.size, 0, none⟩ = some (.int .i64 (rk : Nat)) := b2.cell 0
          have p1 : W2.cell? ⟨wr.heap.size, 1, none⟩ = some (.func (.func 48) #[] #[z1, z2]) := b2.cell 1
          have pl := b2.lt
          have c5' : W2.cell? ⟨cb, 5, none⟩ = some (.slice (some ⟨g2, o2, none⟩) f.regs.length rc) := (hb2.cell (p := ⟨cb, 5, none⟩) cl).trans c5
          have y0' : W2.cell? ⟨g2, o2 + rk, none⟩ = some (.int .i64 tv) := (hb2.cell (p := ⟨g2, o2 + rk, none⟩) gl2).trans y0
          have cl' : cb < W2.heap.size := by have := hb2.size; omega
          have gl2' : g2 < W2.heap.size := by have := hb2.size; omega
          have HS : Hid (∀ Wx, Below W2.heap.size W2 Wx → Wx.cell? ⟨wr.heap.size, 0, none⟩ = some (.int .i64 (rk : Nat)) ∧ Wx.cell? ⟨wr.heap.size, 1, none⟩ = some (.func (.func 48) #[] #[z1, z2]) ∧ Wx.cell? ⟨cb, 5, none⟩ = some (.slice (some ⟨g2, o2, none⟩) f.regs.length rc) ∧ Wx.cell? ⟨g2, o2 + rk, none⟩ = some (.int .i64 tv) ∧ wr.heap.size < Wx.heap.size ∧ cb < Wx.heap.size ∧ g2 < Wx.heap.size) := Lib.hid fun Wx h => by
            have hz := h.size
            exact ⟨(h.cell (p := ⟨wr.heap.size, 0, none⟩) pl).trans p0, (h.cell (p := ⟨wr.heap.size, 1, none⟩) pl).trans p1, (h.cell (p := ⟨cb, 5, none⟩) cl').trans c5', (h.cell (p := ⟨g2, o2 + rk, none⟩) gl2').trans y0', by omega, by omega, by omega⟩
          have J : Below W2.heap.size W2 W2 := Below.refl _ _
          clear hb2 b2 x0 x1 c5 y0
          go_region_held3 (fun Wx => Wx.cell? ⟨wr.heap.size, 0, none⟩ = some (.int .i64 (rk : Nat)) ∧ Wx.cell? ⟨wr.heap.size, 1, none⟩ = some (.func (.func 48) #[] #[z1, z2]) ∧ Wx.cell? ⟨cb, 5, none⟩ = some (.slice (some ⟨g2, o2, none⟩) f.regs.length rc) ∧ Wx.cell? ⟨g2, o2 + rk, none⟩ = some (.int .i64 tv) ∧ wr.heap.size < Wx.heap.size ∧ cb < Wx.heap.size ∧ g2 < Wx.heap.size)
            (first | exact ⟨p0, p1, c5', y0', pl, cl', gl2'⟩ | exact HS.out _ J)
            (first
              | (go_at_call 48; (with_reducible refine Calls.mono (HC.out _ ?hw) ?_); (case hw => first | exact HB2.out.trans (J.mono HB2.out.size) | exact HB2.out.trans (J.drew.mono HB2.out.size)); rintro e v1 ⟨rfl, b1⟩; have J : Below W2.heap.size W2 v1 := by first | exact J.trans (b1.mono J.size) | exact J.drew.trans (b1.mono J.drew.size)))
          all_goals
            have HJ := Lib.hid (HB2.out.trans (J.mono HB2.out.size))
            clear J
            go_wp2_with fail
            first
              | (go_roundw
                 case rel => exact ⟨j + 1, by omega, by go_num, by rw [HTS.out, HAL.out]; rfl, HBW.out.trans (HJ.out.mono HBW.out.size)⟩
                 case measure => simp [intOf]; omega)
              | (go_ret
                 refine ⟨?_, HBW.out.trans (HJ.out.mono HBW.out.size)⟩
                 rw [← HRES.out, fitL, all_take_false _ l (j + 1) (by rw [HTS.out, HAL.out]; rfl)]
                 rfl)
              | (refine ⟨?_, HBW.out.trans (HJ.out.mono HBW.out.size)⟩
                 rw [← HRES.out, fitL, all_take_false _ l (j + 1) (by rw [HTS.out, HAL.out]; rfl)]
                 rfl)
      · have HC := Lib.hid hcc
        simp only [List.append_toArray, Array.append_empty, List.cons_append, List.nil_append] at HC
        clear hcc
        have b2 := Blk.new wr tNd #[.int .i64 (rk : Nat), .func (.func 63) #[] #[z1, z2]]
        have hb2 : Below wr.heap.size wr (wr.alloc (.cells #[.int .i64 (rk : Nat), .func (.func 63) #[] #[z1, z2]] tNd)) := (Below.refl _ _).alloc (Nat.le_refl _) _
        cases b
        all_goals
          go_upto_region 4 with (fail)
          generalize (wr.alloc (.cells #[.int .i64 (rk : Nat), .func (.func 63) #[] #[z1, z2]] tNd)) = W2 at *
          have HB2 := Lib.hid hb2
          have p0 : W2.cell? ⟨wr.heap.size, 0, none⟩ = some (.int .i64 (rk : Nat)) := b2.cell 0
          have p1 : W2.cell? ⟨wr.heap.size, 1, none⟩ = some (.func (.func 63) #[] #[z1, z2]) := b2.cell 1
          have pl := b2.lt
          have c5' : W2.cell? ⟨cb, 5, none⟩ = some (.slice (some ⟨g2, o2, none⟩) f.regs.length rc) := (hb2.cell (p := ⟨cb, 5, none⟩) cl).trans c5
          have y0' : W2.cell? ⟨g2, o2 + rk, none⟩ = some (.int .i64 tv) := (hb2.cell (p := ⟨g2, o2 + rk, none⟩) gl2).trans y0
          have cl' : cb < W2.heap.size := by have := hb2.size; omega
          have gl2' : g2 < W2.heap.size := by have := hb2.size; omega
          have HS : Hid (∀ Wx, Below W2.heap.size W2 Wx → Wx.cell? ⟨wr.heap.size, 0, none⟩ = some (.int .i64 (rk : Nat)) ∧ Wx.cell? ⟨wr.heap.size, 1, none⟩ = some (.func (.func 63) #[] #[z1, z2]) ∧ Wx.cell? ⟨cb, 5, none⟩ = some (.slice (some ⟨g2, o2, none⟩) f.regs.length rc) ∧ Wx.cell? ⟨g2, o2 + rk, none⟩ = some (.int .i64 tv) ∧ wr.heap.size < Wx.heap.size ∧ cb < Wx.heap.size ∧ g2 < Wx.heap.size) := Lib.hid fun Wx h => by
            have hz := h.size
            exact ⟨(h.cell (p := ⟨wr.heap.size, 0, none⟩) pl).trans p0, (h.cell (p := ⟨wr.heap.size, 1, none⟩) pl).trans p1, (h.cell (p := ⟨cb, 5, none⟩) cl').trans c5', (h.cell (p := ⟨g2, o2 + rk, none⟩) gl2').trans y0', by omega, by omega, by omega⟩
          have J : Below W2.heap.size W2 W2 := Below.refl _ _
          clear hb2 b2 x0 x1 c5 y0
          go_region_held3 (fun Wx => Wx.cell? ⟨wr.heap.size, 0, none⟩ = some (.int .i64 (rk : Nat)) ∧ Wx.cell? ⟨wr.heap.size, 1, none⟩ = some (.func (.func 63) #[] #[z1, z2]) ∧ Wx.cell? ⟨cb, 5, none⟩ = some (.slice (some ⟨g2, o2, none⟩) f.regs.length rc) ∧ Wx.cell? ⟨g2, o2 + rk, none⟩ = some (.int .i64 tv) ∧ wr.heap.size < Wx.heap.size ∧ cb < Wx.heap.size ∧ g2 < Wx.heap.size)
            (first | exact ⟨p0, p1, c5', y0', pl, cl', gl2'⟩ | exact HS.out _ J)
            (first
              | (go_at_call 63; (with_reducible refine Calls.mono (HC.out _ ?hw) ?_); (case hw => first | exact HB2.out.trans (J.mono HB2.out.size) | exact HB2.out.trans (J.drew.mono HB2.out.size)); rintro e v1 ⟨rfl, b1⟩; have J : Below W2.heap.size W2 v1 := by first | exact J.trans (b1.mono J.size) | exact J.drew.trans (b1.mono J.drew.size)))
          all_goals
            have HJ := Lib.hid (HB2.out.trans (J.mono HB2.out.size))
            clear J
            go_wp2_with fail
            first
              | (go_roundw
                 case rel => exact ⟨j + 1, by omega, by go_num, by rw [HTS.out, HAL.out]; rfl, HBW.out.trans (HJ.out.mono HBW.out.size)⟩
                 case measure => simp [intOf]; omega)
              | (go_ret
                 refine ⟨?_, HBW.out.trans (HJ.out.mono HBW.out.size)⟩
                 rw [← HRES.out, fitL, all_take_false _ l (j + 1) (by rw [HTS.out, HAL.out]; rfl)]
                 rfl)
              | (refine ⟨?_, HBW.out.trans (HJ.out.mono HBW.out.size)⟩
                 rw [← HRES.out, fitL, all_take_false _ l (j + 1) (by rw [HTS.out, HAL.out]; rfl)]
                 rfl)
      · have HC := Lib.hid hcc
        simp only [List.append_toArray, Array.append_empty, List.cons_append, List.nil_append] at HC
        clear hcc
        have b2 := Blk.new wr tNd #[.int .i64 (rk : Nat), .func (.func 64) #[] #[z1, z2]]
        have hb2 : Below wr.heap.size wr (wr.alloc (.cells #[.int .i64 (rk : Nat), .func (.func 64) #[] #[z1, z2]] tNd)) := (Below.refl _ _).alloc (Nat.le_refl _) _
        cases b
        all_goals
          go_upto_region 4 with (fail)
          generalize (wr.alloc (.cells #[.int .i64 (rk : Nat), .func (.func 64) #[] #[z1, z2]] tNd)) = W2 at *
          have HB2 := Lib.hid hb2
          have p0 : W2.cell? ⟨wr.heap.size, 0, none⟩ = some (.int .i64 (rk : Nat)) := b2.cell 0
          have p1 : W2.cell? ⟨wr.heap.size, 1, none⟩ = some (.func (.func 64) #[] #[z1, z2]) := b2.cell 1
          have pl := b2.lt
          have c5' : W2.cell? ⟨cb, 5, none⟩ = some (.slice (some ⟨g2, o2, none⟩) f.regs.length rc) := (hb2.cell (p := ⟨cb, 5, none⟩) cl).trans c5
          have y0' : W2.cell? ⟨g2, o2 + rk, none⟩ = some (.int .i64 tv) := (hb2.cell (p := ⟨g2, o2 + rk, none⟩) gl2).trans y0
          have cl' : cb < W2.heap.size := by have := hb2.size; omega
          have gl2' : g2 < W2.heap.size := by have := hb2.size; omega
          have HS : Hid (∀ Wx, Below W2.heap.size W2 Wx → Wx.cell? ⟨wr.heap.size, 0, none⟩ = some (.int .i64 (rk : Nat)) ∧ Wx.cell? ⟨wr.heap.size, 1, none⟩ = some (.func (.func 64) #[] #[z1, z2]) ∧ Wx.cell? ⟨cb, 5, none⟩ = some (.slice (some ⟨g2, o2, none⟩) f.regs.length rc) ∧ Wx.cell? ⟨g2, o2 + rk, none⟩ = some (.int .i64 tv) ∧ wr.heap.size < Wx.heap.size ∧ cb < Wx.heap.size ∧ g2 < Wx.heap.size) := Lib.hid fun Wx h => by
            have hz := h.size
            exact ⟨(h.cell (p := ⟨wr.heap.size, 0, none⟩) pl).trans p0, (h.cell (p := ⟨wr.heap.size, 1, none⟩) pl).trans p1, (h.cell (p := ⟨cb, 5, none⟩) cl').trans c5', (h.cell (p := ⟨g2, o2 + rk, none⟩) gl2').trans y0', by omega, by omega, by omega⟩
          have J : Below W2.heap.size W2 W2 := Below.refl _ _
          clear hb2 b2 x0 x1 c5 y0
          go_region_held3 (fun Wx => Wx.cell? ⟨wr.heap.size, 0, none⟩ = some (.int .i64 (rk : Nat)) ∧ Wx.cell? ⟨wr.heap.size, 1, none⟩ = some (.func (.func 64) #[] #[z1, z2]) ∧ Wx.cell? ⟨cb, 5, none⟩ = some (.slice (some ⟨g2, o2, none⟩) f.regs.length rc) ∧ Wx.cell? ⟨g2, o2 + rk, none⟩ = some (.int .i64 tv) ∧ wr.heap.size < Wx.heap.size ∧ cb < Wx.heap.size ∧ g2 < Wx.heap.size)
            (first | exact ⟨p0, p1, c5', y0', pl, cl', gl2'⟩ | exact HS.out _ J)
            (first
              | (go_at_call 64; (with_reducible refine Calls.mono (HC.out _ ?hw) ?_); (case hw => first | exact HB2.out.trans (J.mono HB2.out.size) | exact HB2.out.trans (J.drew.mono HB2.out.size)); rintro e v1 ⟨rfl, b1⟩; have J : Below W2.heap.size W2 v1 := by first | exact J.trans (b1.mono J.size) | exact J.drew.trans (b1.mono J.drew.size)))
          all_goals
            have HJ := Lib.hid (HB2.out.trans (J.mono HB2.out.size))
            clear J
            go_wp2_with fail
            first
              | (go_roundw
                 case rel => exact ⟨j + 1, by omega, by go_num, by rw [HTS.out, HAL.out]; rfl, HBW.out.trans (HJ.out.mono HBW.out.size)⟩
                 case measure => simp [intOf]; omega)
              | (go_ret
                 refine ⟨?_, HBW.out.trans (HJ.out.mono HBW.out.size)⟩
                 rw [← HRES.out, fitL, all_take_false _ l (j + 1) (by rw [HTS.out, HAL.out]; rfl)]
                 rfl)
              | (refine ⟨?_, HBW.out.trans (HJ.out.mono HBW.out.size)⟩
                 rw [← HRES.out, fitL, all_take_false _ l (j + 1) (by rw [HTS.out, HAL.out]; rfl)]
                 rfl)
      · have HC := Lib.hid hcc
        simp only [List.append_toArray, Array.append_empty, List.cons_append, List.nil_append] at HC
        clear hcc
        have b2 := Blk.new wr tNd #[.int .i64 (rk : Nat), .func (.func 66) #[] #[z1, z2]]
        have hb2 : Below wr.heap.size wr (wr.alloc (.cells #[.int .i64 (rk : Nat), .func (.func 66) #[] #[z1, z2]] tNd)) := (Below.refl _ _).alloc (Nat.le_refl _) _
        cases b
        all_goals
          go_upto_region 4 with (fail)
          generalize (wr.alloc (.cells #[.int .i64 (rk : Nat), .func (.func 66) #[] #[z1, z2]] tNd)) = W2 at *
          have HB2 := Lib.hid hb2
          have p0 : W2.cell? ⟨wr.heap.size, 0, none⟩ = some (.int .i64 (rk : Nat)) := b2.cell 0
          have p1 : W2.cell? ⟨wr.heap.size, 1, none⟩ = some (.func (.func 66) #[] #[z1, z2]) := b2.cell 1
          have pl := b2.lt
          have c5' : W2.cell? ⟨cb, 5, none⟩ = some (.slice (some ⟨g2, o2, none⟩) f.regs.length rc) := (hb2.cell (p := ⟨cb, 5, none⟩) cl).trans c5
          have y0' : W2.cell? ⟨g2, o2 + rk, none⟩ = some (.int .i64 tv) := (hb2.cell (p := ⟨g2, o2 + rk, none⟩) gl2).trans y0
          have cl' : cb < W2.heap.size := by have := hb2.size; omega
          have gl2' : g2 < W2.heap.size := by have := hb2.size; omega
          have HS : Hid (∀ Wx, Below W2.heap.size W2 Wx → Wx.cell? ⟨wr.heap.size, 0, none⟩ = some (.int .i64 (rk : Nat)) ∧ Wx.cell? ⟨wr.heap.size, 1, none⟩ = some (.func (.func 66) #[] #[z1, z2]) ∧ Wx.cell? ⟨cb, 5, none⟩ = some (.slice (some ⟨g2, o2, none⟩) f.regs.length rc) ∧ Wx.cell? ⟨g2, o2 + rk, none⟩ = some (.int .i64 tv) ∧ wr.heap.size < Wx.heap.size ∧ cb < Wx.heap.size ∧ g2 < Wx.heap.size) := Lib.hid fun Wx h => by
            have hz := h.size
            exact ⟨(h.cell (p := ⟨wr.heap.size, 0, none⟩) pl).trans p0, (h.cell (p := ⟨wr.heap.size, 1, none⟩) pl).trans p1, (h.cell (p := ⟨cb, 5, none⟩) cl').trans c5', (h.cell (p := ⟨g2, o2 + rk, none⟩) gl2').trans y0', by omega, by omega, by omega⟩
          have J : Below W2.heap.size W2 W2 := Below.refl _ _
          clear hb2 b2 x0 x1 c5 y0
          go_region_held3 (fun Wx => Wx.cell? ⟨wr.heap.size, 0, none⟩ = some (.int .i64 (rk : Nat)) ∧ Wx.cell? ⟨wr.heap.size, 1, none⟩ = some (.func (.func 66) #[] #[z1, z2]) ∧ Wx.cell? ⟨cb, 5, none⟩ = some (.slice (some ⟨g2, o2, none⟩) f.regs.length rc) ∧ Wx.cell? ⟨g2, o2 + rk, none⟩ = some (.int .i64 tv) ∧ wr.heap.size < Wx.heap.size ∧ cb < Wx.heap.size ∧ g2 < Wx.heap.size)
            (first | exact ⟨p0, p1, c5', y0', pl, cl', gl2'⟩ | exact HS.out _ J)
            (first
              | (go_at_call 66; (with_reducible refine Calls.mono (HC.out _ ?hw) ?_); (case hw => first | exact HB2.out.trans (J.mono HB2.out.size) | exact HB2.out.trans (J.drew.mono HB2.out.size)); rintro e v1 ⟨rfl, b1⟩; have J : Below W2.heap.size W2 v1 := by first | exact J.trans (b1.mono J.size) | exact J.drew.trans (b1.mono J.drew.size)))
          all_goals
            have HJ := Lib.hid (HB2.out.trans (J.mono HB2.out.size))
            clear J
            go_wp2_with fail
            first
              | (go_roundw
                 case rel => exact ⟨j + 1, by omega, by go_num, by rw [HTS.out, HAL.out]; rfl, HBW.out.trans (HJ.out.mono HBW.out.size)⟩
                 case measure => simp [intOf]; omega)
              | (go_ret
                 refine ⟨?_, HBW.out.trans (HJ.out.mono HBW.out.size)⟩
                 rw [← HRES.out, fitL, all_take_false _ l (j + 1) (by rw [HTS.out, HAL.out]; rfl)]
                 rfl)
              | (refine ⟨?_, HBW.out.trans (HJ.out.mono HBW.out.size)⟩
                 rw [← HRES.out, fitL, all_take_false _ l (j + 1) (by rw [HTS.out, HAL.out]; rfl)]
                 rfl)
      · have HC := Lib.hid hcc
        simp only [List.append_toArray, Array.append_empty, List.cons_append, List.nil_append] at HC
        clear hcc
        have b2 := Blk.new wr tNd #[.int .i64 (rk : Nat), .func (.func 65) #[] #[z1, z2, z3]]
        have hb2 : Below wr.heap.size wr (wr.alloc (.cells #[.int .i64 (rk : Nat), .func (.func 65) #[] #[z1, z2, z3]] tNd)) := (Below.refl _ _).alloc (Nat.le_refl _) _
        cases b
        all_goals
          go_upto_region 4 with (fail)
          generalize (wr.alloc (.cells #[.int .i64 (rk : Nat), .func (.func 65) #[] #[z1, z2, z3]] tNd)) = W2 at *
          have HB2 := Lib.hid hb2
          have p0 : W2.cell? ⟨wr.heap.size, 0, none⟩ = some (.int .i64 (rk : Nat)) := b2.cell 0
          have p1 : W2.cell? ⟨wr.heap.size, 1, none⟩ = some (.func (.func 65) #[] #[z1, z2, z3]) := b2.cell 1
          have pl := b2.lt
          have c5' : W2.cell? ⟨cb, 5, none⟩ = some (.slice (some ⟨g2, o2, none⟩) f.regs.length rc) := (hb2.cell (p := ⟨cb, 5, none⟩) cl).trans c5
          have y0' : W2.cell? ⟨g2, o2 + rk, none⟩ = some (.int .i64 tv) := (hb2.cell (p := ⟨g2, o2 + rk, none⟩) gl2).trans y0
          have cl' : cb < W2.heap.size := by have := hb2.size; omega
          have gl2' : g2 < W2.heap.size := by have := hb2.size; omega
          have HS : Hid (∀ Wx, Below W2.heap.size W2 Wx → Wx.cell? ⟨wr.heap.size, 0, none⟩ = some (.int .i64 (rk : Nat)) ∧ Wx.cell? ⟨wr.heap.size, 1, none⟩ = some (.func (.func 65) #[] #[z1, z2, z3]) ∧ Wx.cell? ⟨cb, 5, none⟩ = some (.slice (some ⟨g2, o2, none⟩) f.regs.length rc) ∧ Wx.cell? ⟨g2, o2 + rk, none⟩ = some (.int .i64 tv) ∧ wr.heap.size < Wx.heap.size ∧ cb < Wx.heap.size ∧ g2 < Wx.heap.size) := Lib.hid fun Wx h => by
            have hz := h.size
            exact ⟨(h.cell (p := ⟨wr.heap.size, 0, none⟩) pl).trans p0, (h.cell (p := ⟨wr.heap.size, 1, none⟩) pl).trans p1, (h.cell (p := ⟨cb, 5, none⟩) cl').trans c5', (h.cell (p := ⟨g2, o2 + rk, none⟩) gl2').trans y0', by omega, by omega, by omega⟩
          have J : Below W2.heap.size W2 W2 := Below.refl _ _
          clear hb2 b2 x0 x1 c5 y0
          go_region_held3 (fun Wx => Wx.cell? ⟨wr.heap.size, 0, none⟩ = some (.int .i64 (rk : Nat)) ∧ Wx.cell? ⟨wr.heap.size, 1, none⟩ = some (.func (.func 65) #[] #[z1, z2, z3]) ∧ Wx.cell? ⟨cb, 5, none⟩ = some (.slice (some ⟨g2, o2, none⟩) f.regs.length rc) ∧ Wx.cell? ⟨g2, o2 + rk, none⟩ = some (.int .i64 tv) ∧ wr.heap.size < Wx.heap.size ∧ cb < Wx.heap.size ∧ g2 < Wx.heap.size)
            (first | exact ⟨p0, p1, c5', y0', pl, cl', gl2'⟩ | exact HS.out _ J)
            (first
              | (go_at_call 65; (with_reducible refine Calls.mono (HC.out _ ?hw) ?_); (case hw => first | exact HB2.out.trans (J.mono HB2.out.size) | exact HB2.out.trans (J.drew.mono HB2.out.size)); rintro e v1 ⟨rfl, b1⟩; have J : Below W2.heap.size W2 v1 := by first | exact J.trans (b1.mono J.size) | exact J.drew.trans (b1.mono J.drew.size)))
          all_goals
            have HJ := Lib.hid (HB2.out.trans (J.mono HB2.out.size))
            clear J
            go_wp2_with fail
            first
              | (go_roundw
                 case rel => exact ⟨j + 1, by omega, by go_num, by rw [HTS.out, HAL.out]; rfl, HBW.out.trans (HJ.out.mono HBW.out.size)⟩
                 case measure => simp [intOf]; omega)
              | (go_ret
                 refine ⟨?_, HBW.out.trans (HJ.out.mono HBW.out.size)⟩
                 rw [← HRES.out, fitL, all_take_false _ l (j + 1) (by rw [HTS.out, HAL.out]; rfl)]
                 rfl)
              | (refine ⟨?_, HBW.out.trans (HJ.out.mono HBW.out.size)⟩
                 rw [← HRES.out, fitL, all_take_false _ l (j + 1) (by rw [HTS.out, HAL.out]; rfl)]
                 rfl)
    · obtain rfl : n = j := by omega
      clear hbw
      go_wp2_with fail
      go_ret
      refine ⟨?_, HBW.out⟩
      rw [← HRES.out, fitL]
      have := HAL.out
      rw [List.take_of_length_le (by rw [HN.out]; exact Nat.le_refl _)] at this
      rw [this]
      rfl
end Go.Proofs.Ytgcjfbgfoiekmaa
