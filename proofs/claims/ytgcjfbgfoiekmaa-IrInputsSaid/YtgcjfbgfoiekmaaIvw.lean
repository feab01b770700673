/-
  Layer ir: the instructions of a block are run.
-/
import Derived.Test.YtgcjfbgfoiekmaaIvv
namespace Go.Proofs.Ytgcjfbgfoiekmaa
open Go Go.RowKit Go.Maps
set_option linter.unusedVariables false
set_option linter.unusedSimpArgs false

theorem stepM_ok {s s2 : Mst} {v : List Int} (h : stepM s = .ok v s2) : 0 ≤ s2.st := by
  unfold stepM at h
  split at h
  · cases h
  · simp only [Rn.ok.injEq] at h
    obtain ⟨-, rfl⟩ := h
    simp only
    omega
theorem bind_ne {r : Rn} {k : List Int → Mst → Rn} (h : r.bind k ≠ .out) : r ≠ .out := by
  rintro rfl
  exact h rfl
theorem InA.of {w : World} {B g p : Nat} {i : Ins} {av : Value} (h : i.w) (hg : g < B) (hx : ∀ j y, (insC i av)[j]? = some y → w.cell? ⟨g, p + j, none⟩ = some y) : InA w B g p i av := ⟨h, hg, hx⟩
/-- The answer of a list of instructions. -/
def CoP (X : Mc) (rb : Nat) (w : World) (ov : Value) (f : Cod) (r : Rn) (e : Ending) (w' : World) : Prop := match r with
  | .ok r' s' => e = .returned (.tuple #[]) ∧ r'.length = f.regs.length ∧ ∃ ov', McV X 0 w' s' ov' ∧ RgV X w' rb r' ov' ∧ Kb X rb w ov w' ov'
  | .er a b s' => e = PanE a b ∧ ∃ ov', McV X 0 w' s' ov' ∧ Kb X rb w ov w' ov'
  | .out => False
theorem put0_len (r : List Int) (a b : Int) : (put0 r a b).length = r.length := by unfold put0; split <;> simp
set_option maxHeartbeats 4000000 in
set_option maxRecDepth 100000 in
theorem code_any {X : Mc} {F : Nat} {f : Cod} (HC : ∀ G, G < F → CallC X G) {w : World} {s : Mst} {ov : Value} {rb : Nat} {r : List Int} (h : McV X 0 w s ov) (hr : RgV X w rb r ov) (hrl : r.length = f.regs.length) (l : List Ins) (lv : Value) (hl : IsN w X.base lv l)
    (hk : ∀ i ∈ l, InsK X.m f i ∧ (i.op = 9 → i.args.length ≤ 100000)) (hM : ex X.m F (.code r l) s ≠ .out) :
    Calls Try.prog 31 #[mcp X, rgs rb r.length, lv] w (CoP X rb w ov f (ex X.m F (.code r l) s)) := by
  obtain ⟨A, c, rfl, hlc, hcm, hA0⟩ := hl.sl
  unfold maxLen at hcm
  obtain ⟨n, hn⟩ : ∃ n, l.length = n := ⟨_, rfl⟩
  obtain ⟨rn, hrn⟩ : ∃ rn, f.regs.length = rn := ⟨_, rfl⟩
  obtain ⟨M, hMM⟩ : ∃ M, ex X.m F (.code r l) s = M := ⟨_, rfl⟩
  rw [hn] at hlc ⊢
  rw [hrn] at hrl
  rw [hrl]
  have HN := Lib.hid (And.intro hn hrn)
  have HL := Lib.hid hl
  have HH := Lib.hid (And.intro h (And.intro hr hrl))
  have HK := Lib.hid hk
  have HMo : Hid (M ≠ .out) := Lib.hid (by rw [← hMM]; exact hM)
  have HM0 := Lib.hid hMM
  have HCC := Lib.hid HC
  rw [hMM]
  have HP : Hid (X.base ≤ rb) := Lib.hid hr.base
  clear hn h hr hrl hl hk hM hMM HC hA0 hrn
  unfold mcp rgs
  go_enter Try.func31, Try.ntmps31
  go_wp2_with fail
  go_loopw [11] (fun v wr => ∃ (j : Nat) (r' : List Int) (s' : Mst) (ov' : Value) (G : Nat), j ≤ n ∧ v = .int .i64 j ∧ McV X 0 wr s' ov' ∧ RgV X wr rb r' ov' ∧ r'.length = rn ∧ Kb X rb w ov wr ov' ∧ G ≤ F ∧ ex X.m G (.code r' (l.drop j)) s' = M) (fun v _ => n - (intOf v).toNat)
  case atStart => exact ⟨0, r, s, ov, F, by omega, rfl, HH.out.1, HH.out.2.1, HH.out.2.2, .refl _ _ _ _, Nat.le_refl _, HM0.out⟩
  case round =>
    obtain ⟨j, r', s', ov', G, hj, rfl, hmc, hrg, hrl, hkb, hGF, hex⟩ := hrel
    cases G with
    | zero => exact absurd hex.symm HMo.out
    | succ G =>
    by_cases hlt : j < n
    · have hjl : j < l.length := by rw [HN.out.1]; exact hlt
      obtain ⟨g, o, c9, hv9, hg, -, -, hiw, av, hav, hx⟩ := HL.out.at hjl
      simp only [Value.slice.injEq] at hv9
      obtain ⟨rfl, -, -⟩ := hv9
      rw [← List.getElem_cons_drop hjl] at hex
      have hmem := HK.out _ (List.getElem_mem hjl)
      generalize l[j] = i at *
      have hB : Below X.base w wr := hkb.low HH.out.1 HP.out
      have hia : InA w X.base g (o + j * 8) i av := ⟨hiw, hg, hx⟩
      have hst := step_any hmc (by omega)
      unfold crp at hst
      have HST := Lib.hid hst
      have hlt' : (j : Int) < n := by omega
      unfold ex at hex
      have HR := Lib.hid (And.intro hmc (And.intro hrg (And.intro hrl (And.intro hkb (And.intro hGF (And.intro hex (And.intro hmem (And.intro hB (And.intro hia hav)))))))))
      clear hmc hrg hrl hkb hGF hex hmem hB hia hx hiw hst
      obtain ⟨A0, n0, c0, hA0⟩ : ∃ A n c, av = .slice A n c := by obtain ⟨A, c, h, -⟩ := hav.sl; exact ⟨_, _, _, h⟩
      have HAV := Lib.hid hA0
      clear hav hA0
      go_wp2_with fail
      refine HST.out.mono ?_
      clear HST
      intro e w1 hR
      rcases hR.cases with ⟨ea, eb, s2, ov2, hm, rfl, h2, k2⟩ | ⟨v0, s2, ov2, hm, rfl, h2, k2⟩
      · have HX : Hid (CoP X rb w ov f M (PanE ea eb) w1) := Lib.hid (by
          rw [← HR.out.2.2.2.2.2.1, hm]
          exact ⟨rfl, ov2, h2, HR.out.2.2.2.1.trans (.of k2)⟩)
        clear hR hm h2 k2
        unfold PanE at HX ⊢
        go_wp2_with fail
        exact pan_end rfl HX.out
      · have hM2 : (if i.op = 9 then ex X.m G (.call i.n (i.args.map (at0 r'))) s2 else doM X.m r' i s2).bind (fun v s => ex X.m G (.code (put0 r' (wrs i) (v.getD 0 0)) (l.drop (j + 1))) s) = M := by
          have := HR.out.2.2.2.2.2.1
          rw [hm] at this
          exact this
        have hne : (if i.op = 9 then ex X.m G (.call i.n (i.args.map (at0 r'))) s2 else doM X.m r' i s2) ≠ .out := bind_ne (by rw [hM2]; exact HMo.out)
        have hrg2 := HR.out.2.1.km k2
        have hia2 := HR.out.2.2.2.2.2.2.2.2.1.below (HR.out.2.2.2.2.2.2.2.1.trans (k2.low HR.out.1))
        have hst2 := stepM_ok hm
        have hdo := do_any (HCC.out G (by have := HR.out.2.2.2.2.1; omega)) (h2.less (k' := 1) (by omega)) hst2 hrg2 (by rw [HR.out.2.2.1, HN.out.2]) hia2 (HR.out.2.2.2.2.2.2.2.2.2.below (HR.out.2.2.2.2.2.2.2.1.trans (k2.low HR.out.1))) HR.out.2.2.2.2.2.2.1.2 HR.out.2.2.2.2.2.2.1.1 hne
        have hvw : RnW (if i.op = 9 then ex X.m G (.call i.n (i.args.map (at0 r'))) s2 else doM X.m r' i s2) := by
          split
          · exact ex_w h2.mod.mdw _ _ _ h2.stw (fun x hx => by
              obtain ⟨a, -, rfl⟩ := List.mem_map.1 hx
              exact at0_iw hrg2.wf a)
          · exact doM_w h2.stw hrg2.wf hia2.1.n
        obtain ⟨D, hD⟩ : ∃ D, (if i.op = 9 then ex X.m G (.call i.n (i.args.map (at0 r'))) s2 else doM X.m r' i s2) = D := ⟨_, rfl⟩
        rw [hD] at hM2 hdo hvw
        unfold mcp rgs at hdo
        rw [HR.out.2.2.1] at hdo
        have HDO := Lib.hid hdo
        have H2 := Lib.hid (And.intro h2 (And.intro k2 (And.intro hM2 (And.intro hvw (And.intro hrg2 hia2)))))
        clear hR hm h2 k2 hM2 hne hrg2 hia2 hst2 hdo hvw hD
        go_wp2_with fail
        refine HDO.out.mono ?_
        clear HDO
        intro e w2 hR
        rcases hR.cases with ⟨ea, eb, s3, ov3, hm, rfl, h3, k3⟩ | ⟨v, s3, ov3, hm, he, h3, k3⟩
        · have HX : Hid (CoP X rb w ov f M (PanE ea eb) w2) := Lib.hid (by
            rw [← H2.out.2.2.1, hm]
            exact ⟨rfl, ov3, h3, HR.out.2.2.2.1.trans (.of (H2.out.2.1.trans k3))⟩)
          clear hR hm h3 k3
          unfold PanE at HX ⊢
          go_wp2_with fail
          exact pan_end rfl HX.out
        · obtain ⟨x, hxv⟩ : ∃ x, v.getD 0 0 = x := ⟨_, rfl⟩
          obtain rfl : e = .returned (.int .i64 x) := by rw [he, ← hxv]
          have hM3 : ex X.m G (.code (put0 r' (wrs i) (v.getD 0 0)) (l.drop (j + 1))) s3 = M := by
            have := H2.out.2.2.1
            rw [hm] at this
            exact this
          have hvi : iw (v.getD 0 0) := by
            have := H2.out.2.2.2.1
            rw [hm] at this
            exact iw_getD this.1 0
          rw [hxv] at hM3 hvi
          have hrg3 := H2.out.2.2.2.2.1.km k3
          have hia3 := H2.out.2.2.2.2.2.below (k3.low H2.out.1)
          have hkb3 := HR.out.2.2.2.1.trans (Kb.of (H2.out.2.1.trans k3))
          have hww := fun W => writes_any i av W HR.out.2.2.2.2.2.2.1.1.op
          have hto := fun h0 => wrs_in HR.out.2.2.2.2.2.2.1.1 h0
          have y0 := hia3.2.2 0 _ rfl
          have y1 := hia3.2.2 1 _ rfl
          have y2 := hia3.2.2 2 _ rfl
          have y3 := hia3.2.2 3 _ rfl
          have y4 := hia3.2.2 4 _ rfl
          have y5 := hia3.2.2 5 _ rfl
          have y6 := hia3.2.2 6 _ rfl
          have y7 := hia3.2.2 7 _ rfl
          have hgw : g < w2.heap.size := by have := World.block_lt_of_cell? _ _ y0; simpa using this
          simp only [Nat.add_zero] at y0
          rw [HAV.out] at y7 hww
          obtain ⟨to, hto2⟩ : ∃ to, wrs i = to := ⟨_, rfl⟩
          rw [hto2] at hM3 hww hto
          unfold insA at hww
          have HWW := Lib.hid hww
          have HTO := Lib.hid hto
          have H3 := Lib.hid (And.intro h3 (And.intro hrg3 (And.intro hM3 (And.intro hvi hkb3))))
          have HLR := Lib.hid (And.intro HR.out.2.2.1 HR.out.2.2.2.2.1)
          clear hR hm h3 k3 hM3 hrg3 hia3 hkb3 hvi hww hto hto2 HR H2 he hxv
          obtain ⟨op, ty, dst, a, b, nn, st, args⟩ := i
          simp only at HWW y0 y1 y2 y3 y4 y5 y6 y7
          by_cases h0 : 0 ≤ to
          · have d1 : decide (0 ≤ to) = true := by simpa using h0
            obtain ⟨k, rfl, hkl⟩ := inR_nat (HTO.out h0)
            have hkr : k < r'.length := by rw [HLR.out.1, ← HN.out.2]; exact hkl
            have hkl' : (k : Int) < rn := by rw [HLR.out.1] at hkr; omega
            clear h0 hkl
            go_wp2_with fail
            refine (HWW.out _).mono ?_
            rintro e w4 ⟨rfl, hb4⟩
            have h4 := H3.out.1.below hb4
            have hrg4 := H3.out.2.1.km (.of hb4)
            have hs := hrg4.set h4 (j := k) H3.out.2.2.2.1
            have r0 := (hrg4.cell hkr).1
            have rf := hrg4.blk.frozen k
            have rl := hrg4.blk.lt
            have H4 := Lib.hid (And.intro hs (H3.out.2.2.2.2.trans (.of (.of hb4))))
            clear hb4 h4 hrg4 hs y0 y1 y2 y3 y4 y5 y6 y7 hgw
            go_wp2_with fail
            go_roundw
            case rel =>
              refine ⟨j + 1, r'.set k x, s3, ov3, G, by omega, by go_num, H4.out.1.2.1, H4.out.1.1, by rw [List.length_set]; exact HLR.out.1, H4.out.2.trans H4.out.1.2.2, by have := HLR.out.2; omega, ?_⟩
              have := H3.out.2.2.1
              unfold put0 at this
              rw [if_pos (by omega)] at this
              exact this
            case measure => simp [intOf]; omega
          · have d1 : decide (0 ≤ to) = false := by simpa using h0
            have H0 := Lib.hid h0
            clear h0
            go_wp2_with fail
            refine (HWW.out _).mono ?_
            rintro e w4 ⟨rfl, hb4⟩
            have H4 := Lib.hid (And.intro (H3.out.1.below hb4) (And.intro (H3.out.2.1.km (.of hb4)) (H3.out.2.2.2.2.trans (.of (.of hb4)))))
            clear hb4 y0 y1 y2 y3 y4 y5 y6 y7 hgw
            go_wp2_with fail
            go_roundw
            case rel =>
              refine ⟨j + 1, r', s3, ov3, G, by omega, by go_num, H4.out.1, H4.out.2.1, HLR.out.1, H4.out.2.2, by have := HLR.out.2; omega, ?_⟩
              have := H3.out.2.2.1
              unfold put0 at this
              rw [if_neg (by have := H0.out; omega)] at this
              exact this
            case measure => simp [intOf]; omega
    · obtain rfl : n = j := by omega
      have hlt' : ¬ (n : Int) < n := by omega
      have HX : Hid (CoP X rb w ov f M (.returned (.tuple #[])) wr) := Lib.hid (by
        rw [List.drop_of_length_le (by rw [HN.out.1]; omega)] at hex
        rw [← hex]
        exact ⟨rfl, by rw [hrl, HN.out.2], ov', hmc, hrg, hkb⟩)
      clear hmc hrg hrl hkb hGF hex hlt
      go_wp2_with fail
      go_end0
      exact HX.out
end Go.Proofs.Ytgcjfbgfoiekmaa
