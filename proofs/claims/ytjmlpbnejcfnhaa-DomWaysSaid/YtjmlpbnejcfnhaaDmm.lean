/-
  Layer dom: walk of semidominators.
-/
import Derived.Test.YtjmlpbnejcfnhaaDml
namespace Go.Proofs.Ytjmlpbnejcfnhaa
open Go Go.RowKit Go.Maps
set_option linter.unusedVariables false
set_option linter.unusedSimpArgs false

theorem nz_set (s : List Nat) (n x : Nat) : (nz s).set n (x : Int) = nz (s.set n x) := by unfold nz; rw [List.map_set]
theorem nz_at {s : List Nat} {i y : Nat} (h : s[i]? = some y) : (nz s)[i]? = some (y : Int) := by unfold nz; rw [List.getElem?_map, h]; rfl
set_option maxHeartbeats 8000000 in
set_option maxRecDepth 100000 in
theorem semi_any {w : World} {a : Array Value} {T : List (List Nat)} {k : Wk} (h : WkO w a T k) (hc : WkC T k) (h0 : 0 < k.blk.length) (hs : ∀ j f, f ∈ (srcsM T k).getD j [] → f < k.blk.length) :
    Calls Try.prog 49 #[.agg a] w fun e w' => ∃ v b, e = .returned v ∧ w.heap.size ≤ b ∧ RwI w' b v (nz (semiM T k)) ∧ Below w.heap.size w w' := by
  obtain ⟨lo, hi, tb, vs, nv, bv, pv, ov, rfl, hp⟩ := h.parts
  have hw0 : Below w.heap.size w (w.alloc (.cells #[.slice (some ⟨tb, 0, none⟩) T.length T.length, nv, bv, pv, ov] tWk)) := (Below.refl _ _).alloc (Nat.le_refl _) _
  have hp0 := hp.on hw0
  have HSR := Lib.hid (sources_any (h.on hw0) hc)
  have hbx := Blk.new w tWk #[.slice (some ⟨tb, 0, none⟩) T.length T.length, nv, bv, pv, ov]
  obtain ⟨K, hK⟩ : ∃ K, k.blk.length = K := ⟨_, rfl⟩
  have hKm : K ≤ 400 := by rw [← hK]; exact hc.hK
  have hpl : k.par.length = K := by rw [← hK]; exact hc.ok.par
  rw [hK] at HSR h0 hs
  have HC := Lib.hid (And.intro hc (And.intro hK (And.intro hpl hs)))
  have H0 := Lib.hid (And.intro hw0 (And.intro hp0 hbx))
  have b1 := hbx
  clear h hp hc hs hw0 hp0 hK hpl hbx
  go_enter Try.func49, Try.ntmps49
  go_upto_region 1 with (fail)
  refine wp_region_list ?_
  refine wpList_load_row rfl tWk _ rfl w.heap.size rfl tWk _ (0, 0) _ b1 Try.underlying63 rfl wkInf ?_
  go_wp2_with fail
  refine HSR.out.mono ?_
  rintro e w1 ⟨sb, vals, rfl, hsb, hsr, hb1⟩
  have hbx1 := H0.out.2.2.on hb1
  have hp1 := H0.out.2.1.on hb1
  have c3 : w1.cell? ⟨w.heap.size, 3, none⟩ = some pv := hbx1.cell 3
  have cl := hbx1.lt
  have HCL := Lib.hid (iclone_any hp1.p (by rw [show (nz k.par).length = k.par.length by simp [nz], HC.out.2.2.1]; exact h0) (by rw [show (nz k.par).length = k.par.length by simp [nz], HC.out.2.2.1]; omega))
  have H1 := Lib.hid (And.intro hbx1 (And.intro hp1 (And.intro hsr (And.intro hb1 hsb))))
  clear hbx1 hp1 hsr hb1 b1
  go_wp2_with fail
  refine HCL.out.mono ?_
  rintro e w2 ⟨v2, b, rfl, hb, hrw, hb2⟩
  obtain ⟨cap, rfl, hcl, hcm⟩ := hrw.sl
  rw [show (nz k.par).length = K by simp [nz]; exact HC.out.2.2.1] at hcl
  rw [show (nz k.par).length = K by simp [nz]; exact HC.out.2.2.1]
  have H2 := Lib.hid (And.intro hrw hb2)
  clear hrw hb2 HCL c3 cl
  go_wp2_with fail
  obtain ⟨R, hR⟩ : ∃ R, semiM T k = R := ⟨_, rfl⟩
  obtain ⟨FR, hFR⟩ : ∃ FR, srcsM T k = FR := ⟨_, rfl⟩
  obtain ⟨PR, hPR⟩ : ∃ PR, k.par = PR := ⟨_, rfl⟩
  obtain ⟨B1, hB1⟩ : ∃ B1, w1.heap.size = B1 := ⟨_, rfl⟩
  obtain ⟨pA, pc, rfl⟩ : ∃ A c, pv = .slice A K c := by
    obtain ⟨A, c, e, _⟩ := H1.out.2.1.p
    exact ⟨A, c, by rw [e]; simp [nz]; exact HC.out.2.2.1⟩
  have hR2 : semiN PR FR K PR = R := by rw [← hR, ← hFR, ← hPR]; unfold semiM; rw [HC.out.2.2.1]
  have HFR := Lib.hid (And.intro hFR (And.intro hPR (And.intro hR hB1)))
  have hst : RwI w2 b (.slice (some ⟨b, 0, none⟩) K cap) (nz PR) := by
    have h9 := H2.out.1
    rw [show (nz k.par).length = K by simp [nz]; exact HC.out.2.2.1, hPR] at h9
    exact h9
  have hbe2 : Below B1 w1 w2 := by rw [← hB1]; exact H2.out.2
  have HST := Lib.hid (And.intro hst (And.intro hbe2 hR2))
  rw [hB1] at hb
  clear hst hbe2 hR2 hFR hPR hR hB1
  go_loopw [5] (fun v wr => ∃ (n : Nat) (s : List Nat), n < K ∧ v = .int .i64 n ∧ RwI wr b (.slice (some ⟨b, 0, none⟩) K cap) (nz s) ∧ s.length = K ∧ Below B1 w1 wr ∧ semiN PR FR (n + 1) s = R) (fun v _ => (intOf v).toNat)
  case atStart => exact ⟨K - 1, PR, by omega, by go_num, HST.out.1, by rw [← HFR.out.2.1]; exact HC.out.2.2.1, HST.out.2.1, by rw [show K - 1 + 1 = K by omega]; exact HST.out.2.2⟩
  case round =>
    obtain ⟨n, s, hn, rfl, hrw, hsl, hbe, hse⟩ := hrel
    obtain ⟨wo, hwo⟩ : ∃ x, x = wr := ⟨_, rfl⟩
    subst hwo
    by_cases hn0 : 0 < n
    · unfold semiN at hse
      rw [if_neg (by omega)] at hse
      have hsrW : ∀ W, Below B1 w1 W → SrcR W (sb + 1) sb K vals FR := fun W hW => by
        have h9 := H1.out.2.2.1
        rw [HFR.out.1] at h9
        exact h9.same fun i _ hi => hW.block i (by rw [← HFR.out.2.2.2]; exact hi)
      have hs0 := hsrW wo hbe
      obtain ⟨L, hL⟩ : ∃ L, FR[n]? = some L := ⟨_, List.getElem?_eq_getElem (by rw [hs0.fl]; exact hn)⟩
      obtain ⟨rv, hrv⟩ : ∃ v, vals[n]? = some v := ⟨_, List.getElem?_eq_getElem (by rw [hs0.len]; exact hn)⟩
      obtain ⟨rA, rc, rfl⟩ := own_slice (hs0.row n rv L hrv hL)
      have hLs : FR.getD n [] = L := by rw [List.getD_eq_getElem?_getD, hL]; rfl
      obtain ⟨ln, hln⟩ : ∃ x, L.length = x := ⟨_, rfl⟩
      have e0 : wo.cell? ⟨sb, n, none⟩ = some (.slice rA ln rc) := by
        rw [hs0.blk.cell, List.getElem?_toArray, ← hln]
        exact hrv
      have el0 := hs0.blk.lt
      obtain ⟨S1, hS1⟩ : ∃ S1, L.foldl (semi1 PR n) s = S1 := ⟨_, rfl⟩
      rw [hLs, hS1] at hse
      have HR := Lib.hid (And.intro hrw (And.intro hsl (And.intro hbe (And.intro hse (And.intro hL (And.intro hrv (And.intro hLs (And.intro hln hS1))))))))
      have HSW := Lib.hid hsrW
      rw [hln] at hrv
      have HRV := Lib.hid hrv
      have hlm : ln ≤ maxLen := by
        obtain ⟨A, c, h8, h7, h6, _⟩ := rdV_row (l := nz L) (by have h9 := hs0.row n _ L hrv hL; rw [show (nz L).length = L.length by simp [nz]]; exact h9)
        have h5 : (nz L).length = L.length := by simp [nz]
        omega
      unfold maxLen at hlm
      clear hrw hsl hbe hse hs0 hsrW hL hrv hLs hln hS1
      go_wp2_with fail
      go_loopw [25] (fun v wq => ∃ (m : Nat) (s2 : List Nat), m ≤ ln ∧ v = .int .i64 m ∧ RwI wq b (.slice (some ⟨b, 0, none⟩) K cap) (nz s2) ∧ s2.length = K ∧ Below B1 w1 wq ∧ (L.drop m).foldl (semi1 PR n) s2 = S1) (fun v _ => ln - (intOf v).toNat)
      case atStart => exact ⟨0, s, by omega, rfl, HR.out.1, HR.out.2.1, HR.out.2.2.1, HR.out.2.2.2.2.2.2.2.2⟩
      case round =>
        obtain ⟨m, s2, hm, rfl, hrw, hsl, hbe, hfo⟩ := hrel
        obtain ⟨wq, hwq⟩ : ∃ x, x = wr := ⟨_, rfl⟩
        subst hwq
        by_cases hml : m < ln
        · have hm2 : m < L.length := by rw [HR.out.2.2.2.2.2.2.2.1]; exact hml
          have hx9 := List.getElem?_eq_getElem hm2
          rw [← List.getElem_cons_drop hm2, List.foldl_cons] at hfo
          have hfK : L[m] < K := HC.out.2.2.2 n L[m] (by rw [HFR.out.1, HR.out.2.2.2.2.2.2.1]; exact List.getElem_mem hm2)
          generalize L[m] = f at *
          have hrd : RdV wq wq.heap.size (.slice rA ln rc) (nz L) := by
            have h9 := (HSW.out wq hbe).row n _ L HRV.out HR.out.2.2.2.2.1
            rw [← HR.out.2.2.2.2.2.2.2.1]
            exact rdV_row (l := nz L) (by rw [show (nz L).length = L.length by simp [nz]]; rw [HR.out.2.2.2.2.2.2.2.1] at h9 ⊢; exact h9)
          obtain ⟨g1, o1, y1, rfl, hg1, hy1, hc1⟩ := hrd.at hml
          obtain rfl : y1 = (f : Int) := by
            unfold nz at hy1
            rw [List.getElem?_map, hx9] at hy1
            exact (Option.some.inj hy1).symm
          obtain ⟨yn, hyn⟩ : ∃ y, s2[n]? = some y := ⟨_, List.getElem?_eq_getElem (by rw [hsl]; exact hn)⟩
          have hgn : s2.getD n 0 = yn := by rw [List.getD_eq_getElem?_getD, hyn]; rfl
          have d1 : wq.cell? ⟨b, n, none⟩ = some (.int .i64 yn) := hrw.cell (nz_at hyn)
          have df := hrw.frozen n
          have dl := hrw.lt
          obtain ⟨s3, hs3⟩ : ∃ s3, (if f < n then s2.set n (min (s2.getD n 0) f) else s2) = s3 := ⟨_, rfl⟩
          obtain ⟨S2, hS2⟩ : ∃ S2, climbM PR n (f + 1) f s3 = S2 := ⟨_, rfl⟩
          have hfo2 : (L.drop (m + 1)).foldl (semi1 PR n) S2 = S1 := by
            rw [← hfo, ← hS2, ← hs3]
            rfl
          have HM := Lib.hid (And.intro hrw (And.intro hsl (And.intro hbe (And.intro hs3 (And.intro hS2 (And.intro hfo2 (And.intro hgn hyn)))))))
          clear hrw hsl hbe hs3 hS2 hfo hfo2 hx9 hy1 hrd hg1 hgn hyn
          have hcase : (f < n ∧ yn ≤ f) ∨ (f < n ∧ f < yn) ∨ ¬ f < n := by omega
          rcases hcase with ⟨hf, hle⟩ | ⟨hf, hle⟩ | hf
          case' inl =>
            have hleI : (yn : Int) ≤ (f : Int) := by omega
            go_wp2_with fail
            have hrw9 := HM.out.1.set (i := n) (by rw [show (nz s2).length = s2.length by simp [nz], HM.out.2.1]; exact hn) (yn : Int)
            have hs39 := HM.out.2.2.2.1
            rw [if_pos hf, HM.out.2.2.2.2.2.2.1, Nat.min_eq_left hle] at hs39
            rw [nz_set, hs39] at hrw9
            have hbe9 : Below B1 w1 (wq.setCell ⟨b, n, none⟩ (.int .i64 (yn : Int))) := HM.out.2.2.1.setCell (p := ⟨b, n, none⟩) hb _
            generalize wq.setCell ⟨b, n, none⟩ (.int .i64 (yn : Int)) = wl at *
            have hsl9 : s3.length = K := by rw [← hs39, List.length_set]; exact HM.out.2.1
            have HL9 := Lib.hid (And.intro hrw9 (And.intro hsl9 hbe9))
            clear hrw9 hs39 hbe9 hsl9 hleI
          case' inr.inl =>
            have hleI : (f : Int) < (yn : Int) := by omega
            go_wp2_with fail
            have hrw9 := HM.out.1.set (i := n) (by rw [show (nz s2).length = s2.length by simp [nz], HM.out.2.1]; exact hn) (f : Int)
            have hs39 := HM.out.2.2.2.1
            rw [if_pos hf, HM.out.2.2.2.2.2.2.1, Nat.min_eq_right (Nat.le_of_lt hle)] at hs39
            rw [nz_set, hs39] at hrw9
            have hbe9 : Below B1 w1 (wq.setCell ⟨b, n, none⟩ (.int .i64 (f : Int))) := HM.out.2.2.1.setCell (p := ⟨b, n, none⟩) hb _
            generalize wq.setCell ⟨b, n, none⟩ (.int .i64 (f : Int)) = wl at *
            have hsl9 : s3.length = K := by rw [← hs39, List.length_set]; exact HM.out.2.1
            have HL9 := Lib.hid (And.intro hrw9 (And.intro hsl9 hbe9))
            clear hrw9 hs39 hbe9 hsl9 hleI
          case' inr.inr =>
            go_wp2_with fail
            obtain ⟨wl, hwl⟩ : ∃ x, x = wq := ⟨_, rfl⟩
            have hs39 := HM.out.2.2.2.1
            rw [if_neg hf] at hs39
            have HL9 : Hid (RwI wl b (.slice (some ⟨b, 0, none⟩) K cap) (nz s3) ∧ s3.length = K ∧ Below B1 w1 wl) := Lib.hid (by rw [hwl, ← hs39]; exact ⟨HM.out.1, HM.out.2.1, HM.out.2.2.1⟩)
            rw [← hwl]
            clear hs39
          all_goals
            go_loopw [7] (fun v wi => ∃ (F f2 : Nat) (s4 : List Nat), v = .int .i64 f2 ∧ f2 < K ∧ f2 < F ∧ RwI wi b (.slice (some ⟨b, 0, none⟩) K cap) (nz s4) ∧ s4.length = K ∧ Below B1 w1 wi ∧ climbM PR n F f2 s4 = S2) (fun v _ => (intOf v).toNat)
            case atStart => exact ⟨f + 1, f, s3, rfl, hfK, by omega, HL9.out.1, HL9.out.2.1, HL9.out.2.2, HM.out.2.2.2.2.1⟩
            case round =>
              obtain ⟨F, f2, s4, rfl, hfK2, hfF, hrw, hsl, hbe, hcb⟩ := hrel
              obtain ⟨wi, hwi⟩ : ∃ x, x = wr := ⟨_, rfl⟩
              subst hwi
              obtain ⟨F2, rfl⟩ : ∃ m, F = m + 1 := ⟨F - 1, by omega⟩
              unfold climbM at hcb
              by_cases hnf : n < f2
              · rw [if_pos hnf] at hcb
                obtain ⟨y1, hy1⟩ : ∃ y, s4[n]? = some y := ⟨_, List.getElem?_eq_getElem (by rw [hsl]; exact hn)⟩
                obtain ⟨y2, hy2⟩ : ∃ y, s4[f2]? = some y := ⟨_, List.getElem?_eq_getElem (by rw [hsl]; exact hfK2)⟩
                obtain ⟨q2, hq2⟩ : ∃ y, PR[f2]? = some y := ⟨_, List.getElem?_eq_getElem (by rw [← HFR.out.2.1, HC.out.2.2.1]; exact hfK2)⟩
                have hq2f : q2 < f2 := by
                  rcases HC.out.1.ok.p f2 q2 (by rw [HFR.out.2.1]; exact hq2) with ⟨h9, _⟩ | h9
                  · omega
                  · exact h9
                rw [List.getD_eq_getElem?_getD (l := PR), hq2, List.getD_eq_getElem?_getD (i := n), hy1, List.getD_eq_getElem?_getD (i := f2), hy2] at hcb
                simp only [Option.getD_some] at hcb
                obtain ⟨gp, op, yq, rfl, hgp, hyq, hcq⟩ := H1.out.2.1.p.at hfK2
                obtain rfl : yq = (q2 : Int) := by
                  rw [HFR.out.2.1, nz_at hq2] at hyq
                  exact (Option.some.inj hyq).symm
                rw [HFR.out.2.2.2] at hgp
                have hcB : w.heap.size < B1 := by rw [← HFR.out.2.2.2]; exact H1.out.1.lt
                have hbx := H1.out.1.below hbe hcB
                have e1 : wi.cell? ⟨b, n, none⟩ = some (.int .i64 y1) := hrw.cell (nz_at hy1)
                have e2 : wi.cell? ⟨b, f2, none⟩ = some (.int .i64 y2) := hrw.cell (nz_at hy2)
                have ef := hrw.frozen n
                have el := hrw.lt
                have e3 : wi.cell? ⟨w.heap.size, 3, none⟩ = some (.slice (some ⟨gp, op, none⟩) K pc) := hbx.cell 3
                have e3l := hbx.lt
                have e4 : wi.cell? ⟨gp, op + f2, none⟩ = some (.int .i64 q2) := (hbe.cell (p := ⟨gp, op + f2, none⟩) hgp).trans hcq
                have e4l : gp < wi.heap.size := World.block_lt_of_cell? wi _ e4
                have hne1 : w.heap.size ≠ b := by omega
                have hne2 : gp ≠ b := by omega
                have hmin : ((min y1 y2 : Nat) : Int) = (if y2 < y1 then (y2 : Int) else (y1 : Int)) := by split <;> omega
                have hrw9 : RwI ((wi.setCell ⟨b, n, none⟩ (.int .i64 ((min y1 y2 : Nat) : Int))).drew) b _ _ := (hrw.set (i := n) (by rw [show (nz s4).length = s4.length by simp [nz], hsl]; exact hn) ((min y1 y2 : Nat) : Int)).drewN 1
                have hbe9 : Below B1 w1 ((wi.setCell ⟨b, n, none⟩ (.int .i64 ((min y1 y2 : Nat) : Int))).drew) := (hbe.setCell (p := ⟨b, n, none⟩) hb _).trans (below_drewN _ _ 1)
                rw [nz_set] at hrw9
                rw [hmin] at hrw9 hbe9
                have HS9 : Hid (((wi.setCell ⟨b, n, none⟩ (.int .i64 (if y2 < y1 then (y2 : Int) else (y1 : Int)))).drew).cell? ⟨b, f2, none⟩ = some (.int .i64 (y2 : Nat)) ∧ b < ((wi.setCell ⟨b, n, none⟩ (.int .i64 (if y2 < y1 then (y2 : Int) else (y1 : Int)))).drew).heap.size) := Lib.hid ⟨hrw9.cell (nz_at (by rw [List.getElem?_set_ne (by omega)]; exact hy2)), hrw9.lt⟩
                have H9 := Lib.hid (And.intro hrw9 (And.intro (show (s4.set n (min y1 y2)).length = K by rw [List.length_set]; exact hsl) (And.intro hbe9 hcb)))
                have HI9 := Lib.hid hbx
                clear hrw hsl hbe hcb hy1 hy2 hq2 hyq hcq hgp hbx hrw9 hbe9 hmin
                go_upto_region 13 with (fail)
                -- REGION 13
                refine wp_region_held_drew (S := (fun (Wx : World) => Wx.cell? ⟨b, f2, none⟩ = some (.int .i64 (y2 : Nat)) ∧ b < Wx.heap.size)) (by kernel_rfl) (by exact ⟨e2, el⟩) (fun hHeld => ?_)
                refine tQ 0 hHeld ?_
                refine tQ 1 hHeld ?_
                refine tQ 2 hHeld ?_
                refine tQ 3 hHeld ?_
                refine tQ 4 hHeld ?_
                refine tQ 6 hHeld ?_
                refine tQ 7 hHeld ?_
                refine tQ 8 hHeld ?_
                refine tQ 9 hHeld ?_
                refine oneL (i := 5) rfl (by kernel_rfl) (fun K hK => ?_)
                go_simp
                clear hHeld
                refine hK.out _ _ ?_ (fun hHeld => ?_)
                · exact ⟨e2, el⟩
                clear hK K
                try simp only [Act.put, List.setIfInBounds_toArray, List.set_cons_zero, List.set_cons_succ]
                refine tQ 10 hHeld ?_
                refine tQ 11 hHeld ?_
                refine oneL (i := 12) rfl (by kernel_rfl) (fun K hK => ?_)
                go_simp
                clear hHeld
                refine hK.out _ _ ?_ (fun hHeld => ?_)
                · exact HS9.out
                clear hK K
                try simp only [Act.put, List.setIfInBounds_toArray, List.set_cons_zero, List.set_cons_succ]
                refine wpAnyH_done (by kernel_rfl) ?_ _
                clear HI9
                go_wp2_with fail
                go_roundw
                case rel => exact ⟨F2, q2, _, by go_num, by omega, by omega, H9.out.1, H9.out.2.1, H9.out.2.2.1, H9.out.2.2.2⟩
                case measure => simp [intOf]; omega
                -- END 13
              · rw [if_neg hnf] at hcb
                subst hcb
                have HF := Lib.hid (And.intro hrw (And.intro hsl (And.intro hbe HM.out.2.2.2.2.2.1)))
                clear hrw hsl hbe
                go_wp2_with fail
                go_roundw
                case rel => exact ⟨m + 1, s4, by omega, by go_num, HF.out.1, HF.out.2.1, HF.out.2.2.1, HF.out.2.2.2⟩
                case measure => simp [intOf]; omega
        · obtain rfl : m = ln := by omega
          rw [← HR.out.2.2.2.2.2.2.2.1, List.drop_length, List.foldl_nil] at hfo
          subst hfo
          have HF := Lib.hid (And.intro hrw (And.intro hsl (And.intro hbe HR.out.2.2.2.1)))
          clear hrw hsl hbe
          go_wp2_with fail
          go_roundw
          case rel => exact ⟨n - 1, s2, by omega, by go_num, HF.out.1, HF.out.2.1, HF.out.2.2.1, by rw [show n - 1 + 1 = n by omega]; exact HF.out.2.2.2⟩
          case measure => simp [intOf]; omega
    · obtain rfl : n = 0 := by omega
      have hsR : s = R := by rw [← hse]; rfl
      subst hsR
      have hbw : Below w.heap.size w wo := H0.out.1.trans ((H1.out.2.2.2.1.mono (by simp)).trans (hbe.mono (by have h9 := H1.out.2.2.2.1.size; have h8 := HFR.out.2.2.2; simp at h9; omega)))
      have hwb : w.heap.size ≤ b := by have h9 := H1.out.2.2.2.1.size; have h8 := HFR.out.2.2.2; simp at h9; omega
      have HF := Lib.hid (And.intro hrw hbw)
      clear hrw hbw hbe hse
      go_wp2_with fail
      go_ret
      exact ⟨_, b, rfl, hwb, by rw [HFR.out.2.2.1]; exact HF.out.1, HF.out.2⟩
end Go.Proofs.Ytjmlpbnejcfnhaa
