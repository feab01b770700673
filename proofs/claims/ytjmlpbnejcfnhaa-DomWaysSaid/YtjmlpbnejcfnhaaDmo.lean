/-
  Layer dom: walk of dominators.
-/
import Derived.Test.YtjmlpbnejcfnhaaDmn
namespace Go.Proofs.Ytjmlpbnejcfnhaa
open Go Go.RowKit Go.Maps
set_option linter.unusedVariables false
set_option linter.unusedSimpArgs false

def cellN (w : World) (b n : Nat) : Nat := match w.cell? ⟨b, n, none⟩ with
  | some (.int _ x) => x.toNat
  | _ => 0
theorem cellN_eq {w : World} {b n y : Nat} (h : w.cell? ⟨b, n, none⟩ = some (.int .i64 (y : Int))) : cellN w b n = y := by unfold cellN; rw [h]; simp
set_option maxHeartbeats 8000000 in
set_option maxRecDepth 100000 in
theorem doms_any {w : World} {a : Array Value} {T : List (List Nat)} {k : Wk} (h : WkO w a T k) (hc : WkC T k) (h0 : 0 < k.blk.length) (hs : ∀ j f, f ∈ (srcsM T k).getD j [] → f < k.blk.length) (hsl : (semiM T k).length = k.blk.length) (hnr : NrOk k.blk.length k.par) :
    Calls Try.prog 35 #[.agg a] w fun e w' => ∃ v b, e = .returned v ∧ w.heap.size ≤ b ∧ RwI w' b v (domsM T k) ∧ Below w.heap.size w w' := by
  obtain ⟨lo, hi, tb, vs, nv, bv, pv, ov, rfl, hp⟩ := h.parts
  have hw0 : Below w.heap.size w (w.alloc (.cells #[.slice (some ⟨tb, 0, none⟩) T.length T.length, nv, bv, pv, ov] tWk)) := (Below.refl _ _).alloc (Nat.le_refl _) _
  have hp0 := hp.on hw0
  have HSR := Lib.hid (semi_any (h.on hw0) hc h0 hs)
  have hbx := Blk.new w tWk #[.slice (some ⟨tb, 0, none⟩) T.length T.length, nv, bv, pv, ov]
  obtain ⟨K, hK⟩ : ∃ K, k.blk.length = K := ⟨_, rfl⟩
  have hKm : K ≤ 400 := by rw [← hK]; exact hc.hK
  have hpl : k.par.length = K := by rw [← hK]; exact hc.ok.par
  rw [hK] at h0 hs hsl hnr
  have HC := Lib.hid (And.intro hc (And.intro hK (And.intro hpl (And.intro hs (And.intro hsl hnr)))))
  have H0 := Lib.hid (And.intro hw0 (And.intro hp0 hbx))
  have b1 := hbx
  clear h hp hc hs hw0 hp0 hK hpl hbx hsl hnr
  go_enter Try.func35, Try.ntmps35
  go_upto_region 1 with (fail)
  refine wp_region_list ?_
  refine wpList_load_row rfl tWk _ rfl w.heap.size rfl tWk _ (0, 0) _ b1 Try.underlying63 rfl wkInf ?_
  go_wp2_with fail
  refine HSR.out.mono ?_
  rintro e w1 ⟨sv, sb, rfl, hsb, hsr, hb1⟩
  obtain ⟨scap, rfl, hscl, hscm⟩ := hsr.sl
  rw [show (nz (semiM T k)).length = K by simp [nz]; exact HC.out.2.2.2.2.1] at hscl
  rw [show (nz (semiM T k)).length = K by simp [nz]; exact HC.out.2.2.2.2.1]
  have hbx1 := H0.out.2.2.on hb1
  have hp1 := H0.out.2.1.on hb1
  have c3 : w1.cell? ⟨w.heap.size, 3, none⟩ = some pv := hbx1.cell 3
  have cl := hbx1.lt
  have HCL := Lib.hid (iclone_any hp1.p (by rw [show (nz k.par).length = k.par.length by simp [nz], HC.out.2.2.1]; exact h0) (by rw [show (nz k.par).length = k.par.length by simp [nz], HC.out.2.2.1]; omega))
  have H1 := Lib.hid (And.intro hbx1 (And.intro hp1 (And.intro hsr (And.intro hb1 hsb))))
  clear hbx1 hp1 hsr hb1 b1
  go_wp2_with fail
  refine HCL.out.mono ?_
  rintro e w2 ⟨v2, b, rfl, hb, hrw, hb2⟩
  obtain ⟨cap, rfl, hcl, hcm⟩ := hrw.sl
  rw [show (nz k.par).length = K by simp [nz]; exact HC.out.2.2.1] at hcl
  rw [show (nz k.par).length = K by simp [nz]; exact HC.out.2.2.1]
  have H2 := Lib.hid (And.intro hrw hb2)
  clear hrw hb2 HCL c3 cl
  go_wp2_with fail
  obtain ⟨SE, hSE⟩ : ∃ SE, semiM T k = SE := ⟨_, rfl⟩
  obtain ⟨PR, hPR⟩ : ∃ PR, k.par = PR := ⟨_, rfl⟩
  obtain ⟨B1, hB1⟩ : ∃ B1, w1.heap.size = B1 := ⟨_, rfl⟩
  have hsr1 : RwI w1 sb (.slice (some ⟨sb, 0, none⟩) K scap) (nz SE) := by
    have h9 := H1.out.2.2.1
    rw [show (nz (semiM T k)).length = K by simp [nz]; exact HC.out.2.2.2.2.1, hSE] at h9
    exact h9
  have hst : RwI w2 b (.slice (some ⟨b, 0, none⟩) K cap) (nz PR) := by
    have h9 := H2.out.1
    rw [show (nz k.par).length = K by simp [nz]; exact HC.out.2.2.1, hPR] at h9
    exact h9
  have hSl : SE.length = K := by rw [← hSE]; exact HC.out.2.2.2.2.1
  have hnp : NrOk K PR := by rw [← hPR]; exact HC.out.2.2.2.2.2
  have hsB : sb < B1 := by rw [← hB1]; exact hsr1.lt
  rw [hB1] at hb
  have hbe2 : Below B1 w1 w2 := by rw [← hB1]; exact H2.out.2
  have HFR := Lib.hid (And.intro hSE (And.intro hPR (And.intro hB1 (And.intro hsr1 (And.intro hst (And.intro hnp hbe2))))))
  clear hSE hPR hB1 hsr1 hst hnp hbe2
  go_loopw [16] (fun v wr => ∃ (n : Nat) (s : List Nat), n ≤ K ∧ v = .int .i64 n ∧ RwI wr b (.slice (some ⟨b, 0, none⟩) K cap) (nz s) ∧ NrOk K s ∧ Below B1 w1 wr ∧ (List.range n).foldl (fun s n => nearN SE n (K + 1) s) PR = s) (fun v _ => K - (intOf v).toNat)
  case atStart => exact ⟨0, PR, by omega, rfl, HFR.out.2.2.2.2.1, HFR.out.2.2.2.2.2.1, HFR.out.2.2.2.2.2.2, rfl⟩
  case round =>
    obtain ⟨n, s, hn, rfl, hrw, hno, hbe, hfo⟩ := hrel
    obtain ⟨wo, hwo⟩ : ∃ x, x = wr := ⟨_, rfl⟩
    subst hwo
    by_cases hlt : n < K
    · have HR := Lib.hid (And.intro hrw (And.intro hno (And.intro hbe hfo)))
      obtain ⟨S1, hS1⟩ : ∃ S1, nearN SE n (K + 1) s = S1 := ⟨_, rfl⟩
      have HS1 := Lib.hid hS1
      clear hrw hno hbe hfo hS1
      go_wp2_with fail
      go_loopw [] (fun wi => ∃ (F : Nat) (s2 : List Nat), s2.getD n 0 < F ∧ RwI wi b (.slice (some ⟨b, 0, none⟩) K cap) (nz s2) ∧ NrOk K s2 ∧ Below B1 w1 wi ∧ nearN SE n F s2 = S1) (fun wi => cellN wi b n)
      case atStart => exact ⟨K + 1, s, (Nat.eq_zero_or_pos n).elim (fun e => by rw [e, HR.out.2.1.z]; omega) (fun e => by have := HR.out.2.1.lt n e hlt; omega), HR.out.1, HR.out.2.1, HR.out.2.2.1, HS1.out⟩
      case round =>
        obtain ⟨F, s2, hF, hrw, hno, hbe, hst⟩ := hrel
        obtain ⟨wi, hwi⟩ : ∃ x, x = wr := ⟨_, rfl⟩
        subst hwi
        obtain ⟨y, hy⟩ : ∃ y, s2[n]? = some y := ⟨_, List.getElem?_eq_getElem (by rw [hno.len]; exact hlt)⟩
        obtain ⟨z, hz⟩ : ∃ z, SE[n]? = some z := ⟨_, List.getElem?_eq_getElem (by rw [hSl]; exact hlt)⟩
        have gy : s2.getD n 0 = y := by rw [List.getD_eq_getElem?_getD, hy]; rfl
        have gz : SE.getD n 0 = z := by rw [List.getD_eq_getElem?_getD, hz]; rfl
        have hsr2 := HFR.out.2.2.2.1.below hbe hsB
        have e1 : wi.cell? ⟨b, n, none⟩ = some (.int .i64 y) := hrw.cell (nz_at hy)
        have e2 : wi.cell? ⟨sb, n, none⟩ = some (.int .i64 z) := hsr2.cell (nz_at hz)
        have ef := hrw.frozen n
        have el := hrw.lt
        have e2l := hsr2.lt
        have hmeas : cellN wi b n = y := cellN_eq e1
        obtain ⟨F2, rfl⟩ : ∃ m, F = m + 1 := ⟨F - 1, by omega⟩
        rw [nearN_step, gy, gz] at hst
        by_cases hzy : z < y
        · rw [if_pos hzy] at hst
          obtain ⟨hno2, hylt⟩ := hno.step hlt (by rw [gy]; omega)
          rw [gy] at hno2 hylt
          have hyK : y < K := by
            rcases Nat.eq_zero_or_pos n with e | e
            · have h9 := hno.z; rw [e] at gy; omega
            · have h9 := hno.lt n e hlt; omega
          obtain ⟨y2, hy2⟩ : ∃ y2, s2[y]? = some y2 := ⟨_, List.getElem?_eq_getElem (by rw [hno.len]; exact hyK)⟩
          have gy2 : s2.getD y 0 = y2 := by rw [List.getD_eq_getElem?_getD, hy2]; rfl
          rw [gy2] at hst hno2 hylt
          have e3 : wi.cell? ⟨b, y, none⟩ = some (.int .i64 y2) := hrw.cell (nz_at hy2)
          have hrw9 : ∀ d, RwI ((wi.drewN d).setCell ⟨b, n, none⟩ (.int .i64 (y2 : Int))) b _ _ := fun d => (hrw.drewN d).set (i := n) (by rw [show (nz s2).length = s2.length by simp [nz], hno.len]; exact hlt) (y2 : Int)
          rw [nz_set] at hrw9
          have hbe9 : ∀ d, Below B1 w1 ((wi.drewN d).setCell ⟨b, n, none⟩ (.int .i64 (y2 : Int))) := fun d => (hbe.trans (below_drewN _ _ d)).setCell (p := ⟨b, n, none⟩) hb _
          have hnx : (s2.set n y2).getD n 0 = y2 := by rw [List.getD_eq_getElem?_getD, List.getElem?_set_self (by rw [hno.len]; exact hlt)]; rfl
          have hm9 : ∀ d, cellN ((wi.drewN d).setCell ⟨b, n, none⟩ (.int .i64 (y2 : Int))) b n = y2 := fun d => cellN_eq ((hrw9 d).cell (nz_at (List.getElem?_set_self (by rw [hno.len]; exact hlt))))
          have H9 := Lib.hid (And.intro hrw9 (And.intro hno2 (And.intro hbe9 (And.intro hst (And.intro hnx (And.intro hm9 hmeas))))))
          have HY := Lib.hid (And.intro hylt (And.intro hF (And.intro gy gy2)))
          have hzyI : ((z : Nat) : Int) < (y : Int) := by omega
          clear hrw hno hbe hst hrw9 hno2 hbe9 hy hz hy2 hsr2 hnx hm9 gy gz gy2 hF hylt hmeas
          go_upto_region 6 with (fail)
          go_quiet (fail)
          go_wp2_with fail
          go_roundw
          case rel => exact ⟨F2, s2.set n y2, by have h1 := HY.out.1; have h2 := HY.out.2.1; have h3 := HY.out.2.2.1; rw [H9.out.2.2.2.2.1]; omega, H9.out.1 _, H9.out.2.1, H9.out.2.2.1 _, H9.out.2.2.2.1⟩
          case measure => rw [H9.out.2.2.2.2.2.1, H9.out.2.2.2.2.2.2]; exact HY.out.1
        · rw [if_neg hzy] at hst
          subst hst
          have hzyI : (y : Int) ≤ ((z : Nat) : Int) := by omega
          have HF : Hid (∀ d, RwI (wi.drewN d) b (.slice (some ⟨b, 0, none⟩) K cap) (nz s2) ∧ NrOk K s2 ∧ Below B1 w1 (wi.drewN d)) := Lib.hid fun d => ⟨hrw.drewN d, hno, hbe.trans (below_drewN _ _ d)⟩
          clear hrw hno hbe hy hz hsr2 gy gz hF hmeas
          go_upto_region 6 with (fail)
          go_quiet (fail)
          go_wp2_with fail
          go_roundw
          case rel => exact ⟨n + 1, s2, by omega, by go_num, (HF.out _).1, (HF.out 0).2.1, (HF.out _).2.2, by rw [List.range_succ, List.foldl_append, HR.out.2.2.2, List.foldl_cons, List.foldl_nil, HS1.out]⟩
          case measure => simp [intOf]; omega
    · have hnK : n = K := by omega
      rw [hnK] at hfo
      have hpl : PR.length = K := by rw [← HFR.out.2.1]; exact HC.out.2.2.1
      have hnear : nearM SE PR = s := by unfold nearM; rw [hpl]; exact hfo
      obtain ⟨bA, bc, rfl⟩ : ∃ A c, bv = .slice A K c := by
        obtain ⟨A, c, e, _⟩ := H1.out.2.1.b
        exact ⟨A, c, by rw [e]; simp [nz]; exact HC.out.2.1⟩
      have hwB : w.heap.size < B1 := by rw [← HFR.out.2.2.1]; exact H1.out.1.lt
      have hbx2 := H1.out.1.below hbe hwB
      have c0 : wo.cell? ⟨w.heap.size, 0, none⟩ = some (.slice (some ⟨tb, 0, none⟩) T.length T.length) := hbx2.cell 0
      have c2 : wo.cell? ⟨w.heap.size, 2, none⟩ = some (.slice bA K bc) := hbx2.cell 2
      have cl := hbx2.lt
      have hN : T.length ≤ 400 := HC.out.1.hN
      have hN0 : 0 < T.length := by
        have h9 : 0 < k.blk.length := by rw [HC.out.2.1]; exact h0
        have h8 := (HC.out.1.ok.b 0 _ (List.getElem?_eq_getElem h9)).1
        omega
      have HREP : Hid (∀ (W : World) (g c : Nat), g < W.heap.size → W.cell? ⟨g, 0, none⟩ = some (.int .i64 (-1)) → Calls Try.prog 46 #[.slice (some ⟨g, 0, none⟩) 1 c, .int .i64 T.length] W fun e w' => e = .returned (.slice (some ⟨W.heap.size, 0, none⟩) T.length T.length) ∧ ∃ d, w' = (W.alloc (.cells (intC (repC (-1) T.length T.length)) tI1)).drewN d) := Lib.hid fun W g c h1 h2 => irepeat_any (-1) T.length hN0 (by omega) h1 h2
      have HO := Lib.hid (And.intro hrw (And.intro hno (And.intro hbe (And.intro hnear (And.intro hbx2 (And.intro hN0 hN))))))
      clear hrw hno hbe hfo hnear hpl hnK hbx2 hN hN0
      go_wp2_with fail
      refine Calls.mono (HREP.out _ _ _ (by simp) ((Blk.new wo tI1 #[.int .i64 (-1)]).cell 0)) ?_
      rintro e w5 ⟨rfl, d5, hw5⟩
      obtain ⟨D, hD⟩ : ∃ D, wo.heap.size + 1 = D := ⟨_, rfl⟩
      have eD : (wo.alloc (.cells #[Value.int .i64 (-1)] tI1)).heap.size = D := by rw [← hD]; simp
      have hb5 : Below D (wo.alloc (.cells #[Value.int .i64 (-1)] tI1)) w5 := by
        rw [hw5, ← eD]; exact ((Below.refl _ _).alloc (Nat.le_refl _) _).trans (below_drewN _ _ _)
      have hb50 : Below wo.heap.size wo w5 := ((Below.refl _ wo).alloc (Nat.le_refl _) _).trans (hb5.mono (by omega))
      have hbR : Blk w5 D tI1 (intC (repC (-1) T.length T.length)) := by rw [hw5, ← eD]; exact Blk.new _ tI1 _
      have hrD := rwRep hbR (by have := HO.out.2.2.2.2.2.2; omega)
      rw [eD]
      have hst5 := HO.out.1.below hb50 HO.out.1.lt
      have hbx5 := HO.out.2.2.2.2.1.below hb50 cl
      have hlo : w.heap.size < D ∧ b < D ∧ B1 ≤ wo.heap.size := ⟨by omega, by have := HO.out.1.lt; omega, by have := HO.out.2.2.1.size; have := HFR.out.2.2.1; have h9 : w1.heap.size ≤ wo.heap.size := HO.out.2.2.1.size; omega⟩
      have hpb : RdV w5 D (.slice bA K bc) (nz k.blk) := by
        have h9 := H1.out.2.1.b
        rw [HFR.out.2.2.1] at h9
        exact ((h9.below (HO.out.2.2.1.trans (hb50.mono hlo.2.2))).more (by omega))
      have H5 := Lib.hid (And.intro hrD (And.intro hst5 (And.intro hbx5 (And.intro hpb (And.intro hb50 (And.intro hlo hD))))))
      have c2' : w5.cell? ⟨w.heap.size, 2, none⟩ = some (.slice bA K bc) := hbx5.cell 2
      have cl' := hbx5.lt
      clear hrD hst5 hbx5 hpb hb50 hlo hb5 hbR hw5 eD c0 c2 cl hD
      go_wp2_with fail
      have hbl : k.blk.length = K := HC.out.2.1
      obtain ⟨BL, hBL⟩ : ∃ BL, k.blk = BL := ⟨_, rfl⟩
      obtain ⟨NT, hNT⟩ : ∃ NT, T.length = NT := ⟨_, rfl⟩
      rw [hBL] at hbl
      have hDM : (List.range K).foldl (fun d n => d.set (BL.getD n 0) ((BL.getD (s.getD n 0) 0 : Nat) : Int)) (List.replicate NT (-1)) = domsM T k := by
        unfold domsM
        rw [HFR.out.1, HFR.out.2.1, HO.out.2.2.2.1, hBL, hbl, hNT]
      have hpb : RdV w5 D (.slice bA K bc) (nz BL) := by have h9 := H5.out.2.2.2.1; rw [hBL] at h9; exact h9
      have hrD : RwI w5 D (.slice (some ⟨D, 0, none⟩) NT NT) (List.replicate NT (-1)) := by have h9 := H5.out.1; rw [hNT] at h9; exact h9
      have hbN : ∀ i b, BL[i]? = some b → b < NT := fun i b hi => by rw [← hNT]; exact (HC.out.1.ok.b i b (by rw [hBL]; exact hi)).1
      have HB := Lib.hid (And.intro hbl (And.intro hDM (And.intro hpb (And.intro hrD hbN))))
      rw [hNT]
      clear hbl hBL hNT hDM hpb hrD hbN
      go_loopw [47] (fun v wr => ∃ (m : Nat) (d : List Int), m ≤ K ∧ v = .int .i64 m ∧ RwI wr D (.slice (some ⟨D, 0, none⟩) NT NT) d ∧ d.length = NT ∧ Below D w5 wr ∧ (List.range m).foldl (fun d n => d.set (BL.getD n 0) ((BL.getD (s.getD n 0) 0 : Nat) : Int)) (List.replicate NT (-1)) = d) (fun v _ => K - (intOf v).toNat)
      case atStart => exact ⟨0, _, by omega, rfl, HB.out.2.2.2.1, by simp, Below.refl _ _, rfl⟩
      case round =>
        obtain ⟨m, d, hm, rfl, hrw, hdl, hbe, hfo⟩ := hrel
        obtain ⟨wq, hwq⟩ : ∃ x, x = wr := ⟨_, rfl⟩
        subst hwq
        by_cases hmk : m < K
        · obtain ⟨a, ha⟩ : ∃ a, BL[m]? = some a := ⟨_, List.getElem?_eq_getElem (by rw [HB.out.1]; exact hmk)⟩
          obtain ⟨x, hx⟩ : ∃ x, s[m]? = some x := ⟨_, List.getElem?_eq_getElem (by rw [HO.out.2.1.len]; exact hmk)⟩
          have ga : BL.getD m 0 = a := getD_some ha
          have gx : s.getD m 0 = x := getD_some hx
          have hxK : x < K := by
            rcases Nat.eq_zero_or_pos m with e | e
            · have h9 := HO.out.2.1.z; rw [e] at gx; omega
            · have h9 := HO.out.2.1.lt m e hmk; omega
          obtain ⟨c, hc⟩ : ∃ c, BL[x]? = some c := ⟨_, List.getElem?_eq_getElem (by rw [HB.out.1]; exact hxK)⟩
          have gc : BL.getD x 0 = c := getD_some hc
          have haN := HB.out.2.2.2.2 m a ha
          obtain ⟨g, o, y1, rfl, hg, hy1, hc1⟩ := HB.out.2.2.1.at hmk
          obtain ⟨g2, o2, y2, e2, hg2, hy2, hc2⟩ := HB.out.2.2.1.at hxK
          cases e2
          rw [nz_at ha] at hy1
          rw [nz_at hc] at hy2
          obtain rfl := Option.some.inj hy1
          obtain rfl := Option.some.inj hy2
          have e1 : wq.cell? ⟨g, o + m, none⟩ = some (.int .i64 (a : Nat)) := (hbe.cell (p := ⟨g, o + m, none⟩) hg).trans hc1
          have e2 : wq.cell? ⟨g, o + x, none⟩ = some (.int .i64 (c : Nat)) := (hbe.cell (p := ⟨g, o + x, none⟩) hg).trans hc2
          have hbxq := H5.out.2.2.1.below hbe H5.out.2.2.2.2.2.1.1
          have hstq := H5.out.2.1.below hbe H5.out.2.2.2.2.2.1.2.1
          have e3 : wq.cell? ⟨w.heap.size, 2, none⟩ = some (.slice (some ⟨g, o, none⟩) K bc) := hbxq.cell 2
          have e4 : wq.cell? ⟨b, m, none⟩ = some (.int .i64 (x : Nat)) := hstq.cell (nz_at hx)
          have l1 : g < wq.heap.size := World.block_lt_of_cell? wq _ e1
          have l3 := hbxq.lt
          have l4 := hstq.lt
          have lD := hrw.lt
          have fD := hrw.frozen a
          obtain ⟨z0, hz0⟩ : ∃ z, d[a]? = some z := ⟨_, List.getElem?_eq_getElem (by rw [hdl]; exact haN)⟩
          have e5 : wq.cell? ⟨D, a, none⟩ = some (.int .i64 z0) := hrw.cell hz0
          have n1 : g ≠ D := by omega
          have n2 : w.heap.size ≠ D := by have := H5.out.2.2.2.2.2.1.1; omega
          have n3 : b ≠ D := by have := H5.out.2.2.2.2.2.1.2.1; omega
          have hrw9 : ∀ j, RwI ((wq.setCell ⟨D, a, none⟩ (.int .i64 (c : Nat))).drewN j) D (.slice (some ⟨D, 0, none⟩) NT NT) (d.set a (c : Int)) := fun j => (hrw.set (i := a) (by rw [hdl]; exact haN) (c : Int)).drewN j
          have hbe9 : ∀ j, Below D w5 ((wq.setCell ⟨D, a, none⟩ (.int .i64 (c : Nat))).drewN j) := fun j => (hbe.setCell (p := ⟨D, a, none⟩) (Nat.le_refl _) _).trans (below_drewN _ _ j)
          have hfo9 : (List.range (m + 1)).foldl (fun d n => d.set (BL.getD n 0) ((BL.getD (s.getD n 0) 0 : Nat) : Int)) (List.replicate NT (-1)) = d.set a (c : Int) := by
            rw [List.range_succ, List.foldl_append, hfo, List.foldl_cons, List.foldl_nil, gx, ga, gc]
          have H9 := Lib.hid (And.intro hrw9 (And.intro (show (d.set a (c : Int)).length = NT by rw [List.length_set]; exact hdl) (And.intro hbe9 hfo9)))
          clear hrw hdl hbe hfo ha hx hc hc1 hc2 hbxq hstq hrw9 hbe9 hfo9 ga gx gc hy1 hy2 hg hg2
          go_upto_region 13 with (fail)
          go_region
          all_goals
            go_wp2_with fail
            go_roundw
            case rel => exact ⟨m + 1, _, by omega, by go_num, H9.out.1 1, H9.out.2.1, H9.out.2.2.1 1, H9.out.2.2.2⟩
            case measure => simp [intOf]; omega
        · have hmK : m = K := by omega
          rw [hmK, HB.out.2.1] at hfo
          have h5 := H5.out.2.2.2.2.1
          have hbw : Below w.heap.size w wq := H0.out.1.trans ((H1.out.2.2.2.1.mono (by simp)).trans ((HO.out.2.2.1.mono (by omega)).trans ((h5.mono (by have := HO.out.2.2.2.2.1.lt; omega)).trans (hbe.mono (by have := H5.out.2.2.2.2.2.1.1; omega)))))
          have hwD : w.heap.size ≤ D := by have := H5.out.2.2.2.2.2.1.1; omega
          rw [← hfo] at hrw
          have HF := Lib.hid (And.intro hrw hbw)
          clear hrw hbw hbe hfo h5
          go_wp2_with fail
          go_ret
          exact ⟨_, D, rfl, hwD, HF.out.1, HF.out.2⟩
end Go.Proofs.Ytjmlpbnejcfnhaa
