/-
  Layer ir: the walk of check.
-/
import Derived.Test.YtgcjfbgfoiekmaaIvi
namespace Go.Proofs.Ytgcjfbgfoiekmaa
open Go Go.RowKit
set_option linter.unusedVariables false
set_option linter.unusedSimpArgs false

theorem fst0_app (l r : List Int) : fst0 (l ++ r) = if fst0 l = 0 then fst0 r else fst0 l := by
  induction l with
  | nil => simp [fst0]
  | cons x l ih =>
    simp only [List.cons_append, fst0]
    by_cases h : x = 0
    · simp only [h, if_true]; exact ih
    · simp [h]
theorem fst0_at {l : List Int} {k : Nat} {x : Int} (h0 : fst0 (l.take k) = 0) (hx : l[k]? = some x) (hne : x ≠ 0) : fst0 l = x := by
  have hk : k < l.length := (List.getElem?_eq_some_iff.1 hx).1
  rw [← List.take_append_drop k l, fst0_app, if_pos h0, List.drop_eq_getElem_cons hk]
  have : l[k] = x := by rw [List.getElem?_eq_getElem hk] at hx; exact Option.some.inj hx
  rw [this]
  simp [fst0, hne]
theorem fst0_up {l : List Int} {k : Nat} {x : Int} (h0 : fst0 (l.take k) = 0) (hx : l[k]? = some x) (he : x = 0) : fst0 (l.take (k + 1)) = 0 := by
  have hk : k < l.length := (List.getElem?_eq_some_iff.1 hx).1
  rw [List.take_succ_eq_append_getElem hk, fst0_app, if_pos h0]
  have : l[k] = x := by rw [List.getElem?_eq_getElem hk] at hx; exact Option.some.inj hx
  rw [this]
  simp [fst0, he]
/-- No call has too many arguments for the walk. -/
def SmC (f : Cod) : Prop := ∀ b ∈ f.bl, ∀ i ∈ b.code, i.args.length ≤ 17592186043904
set_option maxHeartbeats 4000000 in
set_option maxRecDepth 100000 in
theorem check_any (m : Mdl) (f : Cod) (hsm : SmC f) (cb : Nat) (w : World) (hc : CkV w cb m f) :
    Calls Try.prog 19 #[.pointer (some ⟨cb, 0, none⟩)] w fun e w' => e = .returned (.int .i64 (chkF m f)) ∧ Below w.heap.size w w' := by
  have HH := Lib.hid (head_any m f cb w hc)
  have HC := Lib.hid hc
  have HSM := Lib.hid hsm
  obtain ⟨res, hres⟩ : ∃ r, chkF m f = r := ⟨_, rfl⟩
  have HRES := Lib.hid hres
  rw [hres]
  obtain ⟨h, hh⟩ : ∃ h, chkH f = h := ⟨_, rfl⟩
  have HHD := Lib.hid hh
  rw [hh] at HH
  clear hc hsm hres hh
  go_enter Try.func19, Try.ntmps19
  go_wp2_with fail
  refine HH.out.mono ?_
  rintro e w1 ⟨rfl, hb1⟩
  have HB1 := Lib.hid hb1
  clear HH
  by_cases h0 : h = 0
  · have d0 : (h != 0) = false := by simpa using h0
    have HD0 := Lib.hid h0
    clear h0
    have HC1 := Lib.hid (HC.out.on hb1)
    obtain ⟨gv, fv, rv, bv, hbk, -, -, hbi⟩ := HC1.out.x
    obtain ⟨bA, bc, rfl, hbl, hbm, hbA⟩ := hbi.sl
    unfold maxLen at hbm
    obtain ⟨n, hn⟩ : ∃ n, f.bl.length = n := ⟨_, rfl⟩
    have HN := Lib.hid hn
    have HBI := Lib.hid hbi
    have c6 : w1.cell? ⟨cb, 6, none⟩ = some (.slice bA n bc) := by rw [← hn]; exact hbk.cell 6
    have cl := hbk.lt
    rw [hn] at hbl
    clear hbk hbi hn hb1
    go_wp2_with fail
    go_loopw [21] (fun v wr => ∃ j : Nat, j ≤ n ∧ v = .int .i64 j ∧ fst0 ((f.bl.map (chkB m f)).take j) = 0 ∧ Below w1.heap.size w1 wr) (fun v _ => n - (intOf v).toNat)
    case atStart => exact ⟨0, by omega, rfl, rfl, Below.refl _ _⟩
    case round =>
      obtain ⟨w2, hw2⟩ : ∃ w2, w2 = wr := ⟨_, rfl⟩
      subst hw2
      obtain ⟨j, hj, rfl, hal, hbw⟩ := hrel
      have HAL := Lib.hid hal
      have HBW := Lib.hid hbw
      clear hal
      by_cases hlt : j < n
      · have hjl : j < f.bl.length := by rw [HN.out]; exact hlt
        obtain ⟨g, o, c9, hv9, hg, -, -, hew, cv, hcv, hx⟩ := (HBI.out.on hbw).at hjl
        simp only [Value.slice.injEq] at hv9
        obtain ⟨rfl, -, -⟩ := hv9
        have hmem := List.getElem_mem hjl
        have hbj : (f.bl.map (chkB m f))[j]? = some (chkB m f f.bl[j]) := by rw [List.getElem?_map, List.getElem?_eq_getElem hjl]; rfl
        have hsmj := HSM.out _ hmem
        have y0 := hx 0 cv rfl; have y1 := hx 1 (.int .i64 f.bl[j].e.k) rfl; have y2 := hx 2 (.int .i64 f.bl[j].e.a) rfl; have y3 := hx 3 (.int .i64 f.bl[j].e.to) rfl; have y4 := hx 4 (.int .i64 f.bl[j].e.el) rfl
        simp only [Nat.add_zero] at y0
        simp only at y1 y2 y3 y4
        have hlt' : (j : Int) < n := by omega
        have HBJ := Lib.hid hbj
        have HSJ := Lib.hid hsmj
        have HEW := Lib.hid hew
        clear hx hbj hsmj hmem hew
        generalize f.bl[j] = B at *
        obtain ⟨cA, cc, rfl, hcl, hcm, hcA⟩ := hcv.sl
        unfold maxLen at hcm
        obtain ⟨cn, hcn⟩ : ∃ n, B.code.length = n := ⟨_, rfl⟩
        have HCN := Lib.hid hcn
        have HCV := Lib.hid hcv
        rw [hcn] at y0 hcl
        clear hcv hcn
        obtain ⟨code, e⟩ := B
        obtain ⟨ek, ea, eto, eel⟩ := e
        simp only at y0 y1 y2 y3 y4 HCN HCV
        go_upto_region 7 with (fail)
        have b3 := Blk.new w2 tBl #[.slice cA cn cc, .int .i64 ek, .int .i64 ea, .int .i64 eto, .int .i64 eel]
        have hb3 : Below w2.heap.size w2 (w2.alloc (.cells #[.slice cA cn cc, .int .i64 ek, .int .i64 ea, .int .i64 eto, .int .i64 eel] tBl)) := (Below.refl _ _).alloc (Nat.le_refl _) _
        generalize w2.alloc (.cells #[.slice cA cn cc, .int .i64 ek, .int .i64 ea, .int .i64 eto, .int .i64 eel] tBl) = W3 at *
        have HB3 := Lib.hid hb3
        have B3 := Lib.hid b3
        have z0 : W3.cell? ⟨w2.heap.size, 0, none⟩ = some (.slice cA cn cc) := b3.cell 0
        have zl := b3.lt
        clear y0 y1 y2 y3 y4 hb3 b3 hbw
        go_wp2_with fail
        clear z0 zl
        go_loopw [28] (fun v wr => ∃ k : Nat, k ≤ cn ∧ v = .int .i64 k ∧ fst0 ((code.map (chkI m f)).take k) = 0 ∧ Below W3.heap.size W3 wr) (fun v _ => cn - (intOf v).toNat)
        case atStart => exact ⟨0, by omega, rfl, rfl, Below.refl _ _⟩
        case round =>
          obtain ⟨k, hk, rfl, hal2, hbw2⟩ := hrel
          have HAL2 := Lib.hid hal2
          have HBW2 := Lib.hid hbw2
          have hb13 := HBW.out.trans ((HB3.out.trans (hbw2.mono HB3.out.size)).mono HBW.out.size)
          have HB13 := Lib.hid hb13
          clear hal2
          by_cases hlt2 : k < cn
          · have hkl : k < code.length := by rw [HCN.out]; exact hlt2
            obtain ⟨g4, o4, c4, hv4, hg4, -, -, hiw, av, hav, hx⟩ := (HCV.out.on (HB3.out.trans (hbw2.mono HB3.out.size))).at hkl
            simp only [Value.slice.injEq] at hv4
            obtain ⟨rfl, -, -⟩ := hv4
            have hik : (code.map (chkI m f))[k]? = some (chkI m f code[k]) := by rw [List.getElem?_map, List.getElem?_eq_getElem hkl]; rfl
            have hsk := HSJ.out _ (List.getElem_mem hkl)
            have y0 := hx 0 (.int .i64 code[k].op) rfl; have y1 := hx 1 (.int .i64 code[k].ty) rfl; have y2 := hx 2 (.int .i64 code[k].dst) rfl; have y3 := hx 3 (.int .i64 code[k].a) rfl; have y4 := hx 4 (.int .i64 code[k].b) rfl; have y5 := hx 5 (.int .i64 code[k].n) rfl; have y6 := hx 6 (.string (str code[k].s)) rfl; have y7 := hx 7 av rfl
            simp only [Nat.add_zero] at y0
            simp only at y1 y2 y3 y4 y5 y6 y7
            have hlt3 : (k : Int) < cn := by omega
            have HIK := Lib.hid hik
            clear hx hik hiw
            generalize code[k] = i at *
            obtain ⟨A0, c0, rfl, -⟩ := hav.sl
            have HIN : Hid (∀ W, Below wr.heap.size wr W → Calls Try.prog 25 #[.pointer (some ⟨cb, 0, none⟩), .agg (insA i (.slice A0 i.args.length c0))] W fun e w' => e = .returned (.int .i64 (chkI m f i)) ∧ Below W.heap.size W w') := Lib.hid fun W hW => instr_any m f i _ cb W (HC1.out.on (HB13.out.trans (hW.mono HB13.out.size))) (hav.on hW) hsk
            obtain ⟨r, hr⟩ : ∃ r, chkI m f i = r := ⟨_, rfl⟩
            rw [hr] at HIN HIK
            unfold insA at HIN
            obtain ⟨op, ty, dst, a, b, nn, s, args⟩ := i
            simp only at HIN y0 y1 y2 y3 y4 y5 y6 y7
            generalize args.length = al at *
            clear hr hav hsk hbw2 hb13
            by_cases hr0 : r = 0
            · have d1 : (r != 0) = false := by simpa using hr0
              have HR0 := Lib.hid hr0
              clear hr0
              go_wp2_with fail
              refine (HIN.out _ ((Below.refl _ _).alloc (Nat.le_refl _) _)).mono ?_
              rintro e w5 ⟨rfl, hb5⟩
              have HB5 := Lib.hid (((Below.refl _ _).alloc (Nat.le_refl _) _).trans (hb5.mono (by simp)) : Below wr.heap.size wr w5)
              clear hb5
              go_wp2_with fail
              go_roundw
              case rel => exact ⟨k + 1, by omega, by go_num, fst0_up HAL2.out HIK.out HR0.out, HBW2.out.trans (HB5.out.mono HBW2.out.size)⟩
              case measure => simp [intOf]; omega
            · have d1 : (r != 0) = true := by simpa using hr0
              have HR0 := Lib.hid hr0
              clear hr0
              go_wp2_with fail
              refine (HIN.out _ ((Below.refl _ _).alloc (Nat.le_refl _) _)).mono ?_
              rintro e w5 ⟨rfl, hb5⟩
              have HB5 := Lib.hid (((Below.refl _ _).alloc (Nat.le_refl _) _).trans (hb5.mono (by simp)) : Below wr.heap.size wr w5)
              clear hb5
              go_wp2_with fail
              go_ret
              refine ⟨?_, HB1.out.trans ((HB13.out.trans (HB5.out.mono HB13.out.size)).mono HB1.out.size)⟩
              have e1 : chkB m f ⟨code, ek, ea, eto, eel⟩ = r := by
                unfold chkB
                rw [fst0_app, fst0_at HAL2.out HIK.out HR0.out, if_neg HR0.out]
              have e2 : chkF m f = r := by
                unfold chkF
                rw [HHD.out, fst0, if_pos HD0.out]
                have := HBJ.out
                rw [e1] at this
                exact fst0_at HAL.out this HR0.out
              rw [← HRES.out, e2]
              rfl
          · obtain rfl : cn = k := by omega
            have z1 : Blk wr w2.heap.size tBl #[.slice cA cn cc, .int .i64 ek, .int .i64 ea, .int .i64 eto, .int .i64 eel] := (hbw2.block _ B3.out.lt).trans B3.out
            have y1 : wr.cell? ⟨w2.heap.size, 1, none⟩ = some (.int .i64 ek) := z1.cell 1
            have y2 : wr.cell? ⟨w2.heap.size, 2, none⟩ = some (.int .i64 ea) := z1.cell 2
            have y3 : wr.cell? ⟨w2.heap.size, 3, none⟩ = some (.int .i64 eto) := z1.cell 3
            have y4 : wr.cell? ⟨w2.heap.size, 4, none⟩ = some (.int .i64 eel) := z1.cell 4
            have yl := z1.lt
            have HEN := Lib.hid (end_any m f ⟨ek, ea, eto, eel⟩ HEW.out cb wr (HC1.out.on HB13.out))
            obtain ⟨r, hr⟩ : ∃ r, chkE f ⟨ek, ea, eto, eel⟩ = r := ⟨_, rfl⟩
            have HRE := Lib.hid hr
            rw [hr] at HEN
            unfold ebA at HEN
            simp only at HEN
            have hcode : fst0 (code.map (chkI m f)) = 0 := by
              have := HAL2.out
              rw [List.take_of_length_le (by rw [List.length_map, HCN.out]; exact Nat.le_refl _)] at this
              exact this
            have HB9 : Hid (chkB m f ⟨code, ek, ea, eto, eel⟩ = r) := Lib.hid (by
              unfold chkB
              rw [fst0_app, if_pos hcode, hr]
              simp [fst0]
              exact fun h => h.symm)
            clear z1 hr hcode hbw2 hb13
            by_cases hr0 : r = 0
            · have d1 : (r != 0) = false := by simpa using hr0
              have HR0 := Lib.hid hr0
              clear hr0
              go_wp2_with fail
              refine HEN.out.mono ?_
              rintro e w5 ⟨rfl, hb5⟩
              have HB5 := Lib.hid hb5
              clear hb5
              go_wp2_with fail
              go_roundw
              case rel => exact ⟨j + 1, by omega, by go_num, fst0_up HAL.out HBJ.out (HB9.out.trans HR0.out), HB13.out.trans (HB5.out.mono HB13.out.size)⟩
              case measure => simp [intOf]; omega
            · have d1 : (r != 0) = true := by simpa using hr0
              have HR0 := Lib.hid hr0
              clear hr0
              go_wp2_with fail
              refine HEN.out.mono ?_
              rintro e w5 ⟨rfl, hb5⟩
              have HB5 := Lib.hid hb5
              clear hb5
              go_wp2_with fail
              go_ret
              refine ⟨?_, HB1.out.trans ((HB13.out.trans (HB5.out.mono HB13.out.size)).mono HB1.out.size)⟩
              have e2 : chkF m f = r := by
                unfold chkF
                rw [HHD.out, fst0, if_pos HD0.out]
                have := HBJ.out
                rw [HB9.out] at this
                exact fst0_at HAL.out this HR0.out
              rw [← HRES.out, e2]
              rfl
      · obtain rfl : n = j := by omega
        clear hbw
        go_wp2_with fail
        go_ret
        refine ⟨?_, HB1.out.trans (HBW.out.mono HB1.out.size)⟩
        have e2 : chkF m f = 0 := by
          unfold chkF
          rw [HHD.out, fst0, if_pos HD0.out]
          have := HAL.out
          rw [List.take_of_length_le (by rw [List.length_map, HN.out]; exact Nat.le_refl _)] at this
          exact this
        rw [← HRES.out, e2]
        rfl
  · have d0 : (h != 0) = true := by simpa using h0
    have HD0 := Lib.hid h0
    clear h0 hb1
    go_wp2_with fail
    go_ret
    refine ⟨?_, HB1.out⟩
    have e2 : chkF m f = h := by
      unfold chkF
      rw [HHD.out, fst0, if_neg HD0.out]
    rw [← HRES.out, e2]
    rfl
end Go.Proofs.Ytgcjfbgfoiekmaa
