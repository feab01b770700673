/-
  Layer dom: walk of the law's ways.
-/
import Derived.Test.YtjmlpbnejcfnhaaDni
namespace Go.Proofs.Ytjmlpbnejcfnhaa
open Go Go.RowKit Go.Maps
set_option linter.unusedVariables false
set_option linter.unusedSimpArgs false

/-- What ways reads, once it has been made. -/
structure WyV (W : World) (P N M H : Nat) (c : Cod) (rv bv ov dv : Value) (aB : Nat) (sA : List Bool) : Prop where
  cd : CdD W c rv bv
  box : Blk W H 34 (codA c rv bv)
  o : RdV W P ov (nz (walkM (tosC c)).ord)
  d : RdV W P dv (domsM (tosC c) (walkM (tosC c)))
  al : Blk W aB tBo (blC sA)
theorem WyV.on {W W' : World} {P N M H : Nat} {c : Cod} {rv bv ov dv : Value} {aB : Nat} {sA : List Bool} (h : WyV W P N M H c rv bv ov dv aB sA) (hP : P ≤ W.heap.size) (hb : Below W.heap.size W W') : WyV W' P N M H c rv bv ov dv aB sA :=
  ⟨h.cd.on hb, h.box.on hb, h.o.below (hb.mono hP), h.d.below (hb.mono hP), h.al.on hb⟩
set_option maxHeartbeats 16000000 in
set_option maxRecDepth 100000 in
theorem ways_any {w : World} {c : Cod} {rv bv : Value} (h : CdD w c rv bv) : Calls Try.prog 8 #[.agg (codA c rv bv)] w fun e w' => e = .returned (.bool true) ∧ Below w.heap.size w w' := by
  obtain ⟨rA, rn, rc, rfl⟩ := h.r
  obtain ⟨bA, bc, rfl⟩ : ∃ A k, bv = .slice A c.bl.length k := by obtain ⟨A, k, e, _⟩ := h.b; exact ⟨A, k, e⟩
  obtain ⟨N, hN⟩ : ∃ N, c.bl.length = N := ⟨_, rfl⟩
  have hTN : (tosC c).length = N := by unfold tosC; rw [List.length_map, h.len, hN]
  have hN4 : N ≤ 400 := by rw [← hN]; exact h.m
  have hN0 : 0 < N := by rw [← hN]; exact List.length_pos_iff.2 h.ne
  have hfin := h.fin
  rw [hTN] at hfin
  obtain ⟨K, hK⟩ : ∃ K, walkM (tosC c) = K := ⟨_, rfl⟩
  rw [hN] at h ⊢
  obtain ⟨H, hH⟩ : ∃ x, x = w.heap.size := ⟨_, rfl⟩
  obtain ⟨w1, hw1⟩ : ∃ x, x = w.alloc (.cells (codA c (.slice rA rn rc) (.slice bA N bc)) 34) := ⟨_, rfl⟩
  have hb1 : Below H w w1 := by rw [hw1, hH]; exact (Below.refl _ w).alloc (Nat.le_refl _) _
  have hs1 : w1.heap.size = H + 1 := by rw [hw1, hH]; simp
  have hbx : Blk w1 H 34 (codA c (.slice rA rn rc) (.slice bA N bc)) := by rw [hw1, hH]; exact Blk.new w _ _
  have hc1 : CdD w1 c (.slice rA rn rc) (.slice bA N bc) := h.on (by rw [← hH]; exact hb1)
  have HO := Lib.hid (order_any hc1)
  have hcells : ∀ W, Below w1.heap.size w1 W → W.cell? ⟨H, 0, none⟩ = some (.string (str c.nm)) ∧ W.cell? ⟨H, 1, none⟩ = some (.int .i64 c.ty) ∧ W.cell? ⟨H, 2, none⟩ = some (.int .i64 c.pr) ∧ W.cell? ⟨H, 3, none⟩ = some (.slice rA rn rc) ∧ W.cell? ⟨H, 4, none⟩ = some (.slice bA N bc) ∧ H < W.heap.size := fun W hW => by
    have hbx := hbx.on hW
    unfold codA at hbx
    exact ⟨hbx.cell 0, hbx.cell 1, hbx.cell 2, hbx.cell 3, hbx.cell 4, hbx.lt⟩
  have HCL := Lib.hid hcells
  have hf : N = c.bl.length := hN.symm
  have HW := Lib.hid hw1
  have HC := Lib.hid (And.intro hc1 (And.intro hbx (And.intro hfin (And.intro hTN (And.intro hK (And.intro hb1 (And.intro hs1 (And.intro hN hH))))))))
  clear h hTN hfin hK hw1 hb1 hbx hc1 hcells hN hf
  unfold codA at HW HO ⊢
  go_enter Try.func8, Try.ntmps8
  go_upto_region 1 with (fail)
  rw [← HW.out, ← hH]
  clear hH
  obtain ⟨e0, e1, e2, e3, e4, el⟩ := HCL.out w1 (Below.refl _ _)
  go_wp2_with fail
  refine HO.out.mono ?_
  rintro e w2 ⟨ov, rfl, ho, hb2⟩
  clear e0 e1 e2 e3 e4 el HO HW
  have HD := Lib.hid (dom_any (HC.out.1.on hb2))
  have hj2 := hb2
  obtain ⟨e0, e1, e2, e3, e4, el⟩ := HCL.out w2 hj2
  have H2 := Lib.hid (And.intro ho hb2)
  clear ho hb2 hj2
  unfold codA at HD
  go_wp2_with fail
  refine HD.out.mono ?_
  rintro e w3 ⟨dv, rfl, hd, hb3⟩
  clear e0 e1 e2 e3 e4 el HD
  have hj3 := H2.out.2.trans (hb3.mono H2.out.2.size)
  have HR := Lib.hid (reaches_any (HC.out.1.on hj3) (-1))
  obtain ⟨e0, e1, e2, e3, e4, el⟩ := HCL.out w3 hj3
  have H3 := Lib.hid (And.intro hd (And.intro hb3 hj3))
  clear hd hb3 hj3
  unfold codA at HR
  rw [HC.out.2.2.2.2.2.2.2.1] at HR
  go_wp2_with fail
  refine HR.out.mono ?_
  rintro e w4 ⟨aB, sA, rfl, haB, hal, hsl, hsA, hb4⟩
  clear e0 e1 e2 e3 e4 el HR
  have hj4 := H3.out.2.2.trans (hb4.mono H3.out.2.2.size)
  obtain ⟨e0, e1, e2, e3, e4, el⟩ := HCL.out w4 hj4
  have hc4 := HC.out.1.on hj4
  have hbx4 := HC.out.2.1.on hj4
  have ho4 := H2.out.1.on (H3.out.2.1.trans (hb4.mono H3.out.2.1.size))
  have hd4 := H3.out.1.on hb4
  obtain ⟨M, hM⟩ : ∃ M, (walkM (tosC c)).ord.length = M := ⟨_, rfl⟩
  obtain ⟨oA, oc, rfl⟩ : ∃ A k, ov = .slice A M k := by obtain ⟨A, k, e, _⟩ := H2.out.1; exact ⟨A, k, by rw [e]; simp only [nz, List.length_map]; rw [hM]⟩
  have hdl : (domsM (tosC c) (walkM (tosC c))).length = N := (HC.out.2.2.1.doms HC.out.2.2.2.1).1
  obtain ⟨dA, dc, rfl⟩ : ∃ A k, dv = .slice A N k := by obtain ⟨A, k, e, _⟩ := H3.out.1; exact ⟨A, k, by rw [e, hdl]⟩
  obtain ⟨P, hP⟩ : ∃ x, x = w4.heap.size := ⟨_, rfl⟩
  have HV : Hid (∀ W, Below P w4 W → WyV W P N M H c (.slice rA rn rc) (.slice bA N bc) (.slice oA M oc) (.slice dA N dc) aB sA) := Lib.hid fun W hW => by
    rw [hP] at hW ⊢
    exact ⟨hc4.on hW, hbx4.on hW, ho4.below hW, hd4.below hW, hal.on hW⟩
  obtain ⟨w5, hw5⟩ : ∃ x, x = w4.alloc (.cells (intC (List.replicate N 0)) tI1) := ⟨_, rfl⟩
  have hmk := make_all N (by omega) w4
  rw [← hw5, ← hP] at hmk
  have hb5 : Below P w4 w5 := by rw [hw5, hP]; exact (Below.refl _ _).alloc (Nat.le_refl _) _
  have hrw5 : RwI w5 P (.slice (some ⟨P, 0, none⟩) N N) (nz (List.replicate N 0)) := by
    refine ⟨N, [], by simp [nz], by simp [nz], by unfold maxLen; omega, ?_⟩
    have h9 : Blk w5 P tI1 (intC (List.replicate N 0)) := by rw [hw5, hP]; exact Blk.new _ _ _
    simpa [intC, nz] using h9
  have hMl : M ≤ N := by rw [← hM]; exact bound_len N _ HC.out.2.2.1.nd fun x hx => by obtain ⟨i, hi⟩ := List.getElem?_of_mem hx; exact HC.out.2.2.1.ordN hi
  obtain ⟨o9, ho9⟩ := HC.out.2.2.1.head
  have hM0 : 0 < M := by rw [← hM, ho9]; simp
  have hv5 := HV.out w5 hb5
  obtain ⟨g1, o1, x1, e1v, hg1, hx1, y1⟩ := hv5.o.at hM0
  subst e1v
  rw [ho9] at hx1
  obtain rfl : x1 = 0 := by simpa [nz] using hx1.symm
  obtain ⟨g2, o2, x2, e2v, hg2, hx2, y2⟩ := hv5.d.at hN0
  subst e2v
  obtain rfl : x2 = 0 := by
    have h9 := HC.out.2.2.1.dom_zero HC.out.2.2.2.1
    rw [List.getD_eq_getElem?_getD, hx2] at h9
    exact h9
  simp only [Nat.add_zero] at y1 y2
  have z4 : w5.cell? ⟨H, 4, none⟩ = some (.slice bA N bc) := by have h9 := hv5.box; unfold codA at h9; exact h9.cell 4
  have zl := hv5.box.lt
  have l1 : g1 < w5.heap.size := World.block_lt_of_cell? w5 _ y1
  have l2 : g2 < w5.heap.size := World.block_lt_of_cell? w5 _ y2
  have dM : (((M : Nat) : Int) == 0) = false := by simp; omega
  have hjw : Below H w w4 := HC.out.2.2.2.2.2.1.trans (hj4.mono (by rw [HC.out.2.2.2.2.2.2.1]; omega))
  have hsP : w1.heap.size ≤ P := by rw [hP]; exact hj4.size
  have H5 := Lib.hid (And.intro hsl (And.intro hsA (And.intro hM (And.intro hb5 (And.intro hrw5 (And.intro hjw (And.intro hsP hP)))))))
  clear hj4 hc4 hbx4 ho4 hd4 hal hsl hsA hM hb5 hrw5 hjw hsP hP hv5 hb4 hw5 hdl ho9 hx1 hx2 hg1 hg2 haB
  go_wp2_with fail
  go_loopw [7] (fun v wr => ∃ (i : Nat) (p : List Nat), v = .int .i64 i ∧ i ≤ M ∧ RwI wr P (.slice (some ⟨P, 0, none⟩) N N) (nz p) ∧ PlM N (walkM (tosC c)).ord i p ∧ Below P w4 wr) (fun v _ => M - (intOf v).toNat)
  case atStart => exact ⟨0, _, rfl, by omega, H5.out.2.2.2.2.1, PlM.start _ _, H5.out.2.2.2.1⟩
  case round =>
    clear y1 y2 z4 zl l1 l2 dM e0 e1 e2 e3 e4 el hmk
    obtain ⟨i, p, rfl, hi, hrw, hpl, hbe⟩ := hrel
    obtain ⟨wo, hwo⟩ : ∃ x, x = wr := ⟨_, rfl⟩
    subst hwo
    have hv := HV.out wo hbe
    by_cases hin : i < M
    · have hin2 : i < (walkM (tosC c)).ord.length := by rw [H5.out.2.2.1]; exact hin
      obtain ⟨b, hb⟩ : ∃ b, (walkM (tosC c)).ord[i]? = some b := ⟨_, List.getElem?_eq_getElem hin2⟩
      have hbN := HC.out.2.2.1.ordN hb
      obtain ⟨g3, o3, x3, e3v, hg3, hx3, y3⟩ := hv.o.at hin
      simp only [Option.some.injEq, Addr.mk.injEq, and_true] at e3v
      obtain ⟨rfl, rfl⟩ := e3v
      rw [nz_at hb] at hx3
      obtain rfl := Option.some.inj hx3
      have l3 : g1 < wo.heap.size := World.block_lt_of_cell? wo _ y3
      obtain ⟨x, hx⟩ : ∃ x, p[b]? = some x := ⟨_, List.getElem?_eq_getElem (by rw [hpl.len]; exact hbN)⟩
      obtain rfl := hpl.zero HC.out.2.2.1.nd hb hx
      have y4 : wo.cell? ⟨P, b, none⟩ = some (.int .i64 0) := hrw.cell (nz_at hx)
      have f4 := hrw.frozen b
      have l4 := hrw.lt
      have hsb : sA[b]? = some true := (H5.out.2.1 b).2 (HC.out.2.2.1.rb_all.2 ((HC.out.2.2.1.ord b).1 (List.mem_of_getElem? hb)))
      have y5 : wo.cell? ⟨aB, b, none⟩ = some (.bool true) := hv.al.bl hsb
      have l5 := hv.al.lt
      have d1 : ¬ ((b : Nat) : Int) < 0 := by omega
      have d2 : ((b : Nat) : Int) < (N : Int) := by omega
      have HI := Lib.hid (And.intro hrw (And.intro hpl (And.intro hbe (And.intro hb hbN))))
      clear hrw hpl hbe hb hbN hv hx hx3 hg3 hsb hin2
      go_wp2_with fail
      go_roundw
      case rel =>
        obtain ⟨hrw, hpl, hbe, hb, hbN⟩ := HI.out
        refine ⟨i + 1, p.set b (i + 1), by go_num, by omega, ?_, hpl.next hb hbN, hbe.setCell (p := ⟨P, b, none⟩) (Nat.le_refl _) _⟩
        rw [← nz_set]
        have h9 := hrw.set (i := b) (by rw [show (nz p).length = p.length by simp [nz], hpl.len]; exact hbN) (((i + 1 : Nat)) : Int)
        first | exact h9 | simpa using h9
      case measure => simp [intOf]; omega
    · obtain rfl : i = M := by omega
      clear hv
      have hP1 : P + 1 ≤ wo.heap.size := hrw.lt
      have HW6 : Hid (∀ W, Below (P + 1) wo W → WyV W P N i H c (.slice rA rn rc) (.slice bA N bc) (.slice (some ⟨g1, o1, none⟩) i oc) (.slice (some ⟨g2, o2, none⟩) N dc) aB sA ∧ RwI W P (.slice (some ⟨P, 0, none⟩) N N) (nz p) ∧ P + 1 ≤ W.heap.size) := Lib.hid fun W hW => ⟨HV.out W (hbe.trans (hW.mono (by omega))), hrw.below hW (by omega), Nat.le_trans hP1 hW.size⟩
      have hpo : ∀ (b x : Nat), p[b]? = some x → (x = 0 ∧ b ∉ (walkM (tosC c)).blk) ∨ (0 < x ∧ b ∈ (walkM (tosC c)).blk) := fun b x hx => by
        rcases PlM.out (by rw [H5.out.2.2.1]; exact hpl) hx with ⟨h1, h2⟩ | ⟨j, h1, h2⟩
        · exact .inl ⟨h1, fun hm => h2 ((HC.out.2.2.1.ord b).2 hm)⟩
        · exact .inr ⟨by omega, (HC.out.2.2.1.ord b).1 (List.mem_of_getElem? h1)⟩
      have H6 := Lib.hid (And.intro (show PlM N (walkM (tosC c)).ord (walkM (tosC c)).ord.length p by rw [H5.out.2.2.1]; exact hpl) (And.intro hbe hpo))
      clear hrw hpl hbe hpo
      go_wp2_with fail
      go_loopw [9] (fun v wr => ∃ b : Nat, v = .int .i64 b ∧ 0 < b ∧ b ≤ N ∧ Below (P + 1) wo wr) (fun v _ => N - (intOf v).toNat)
      case atStart => exact ⟨1, rfl, by omega, by omega, Below.refl _ _⟩
      case round =>
        obtain ⟨b, rfl, hb0, hbN, hbe⟩ := hrel
        obtain ⟨wq, hwq⟩ : ∃ x, x = wr := ⟨_, rfl⟩
        subst hwq
        obtain ⟨hv, hrw, hsz⟩ := HW6.out wq hbe
        have z4 : wq.cell? ⟨H, 4, none⟩ = some (.slice bA N bc) := by have h9 := hv.box; unfold codA at h9; exact h9.cell 4
        have zl := hv.box.lt
        by_cases hlt : b < N
        · obtain ⟨x, hx⟩ : ∃ x, p[b]? = some x := ⟨_, List.getElem?_eq_getElem (by rw [H6.out.1.len]; exact hlt)⟩
          obtain ⟨t, ht⟩ : ∃ t, sA[b]? = some t := ⟨_, List.getElem?_eq_getElem (by rw [H5.out.1]; exact hlt)⟩
          have c1 : wq.cell? ⟨aB, b, none⟩ = some (.bool t) := hv.al.bl ht
          have c2 : wq.cell? ⟨P, b, none⟩ = some (.int .i64 (x : Nat)) := hrw.cell (nz_at hx)
          have l1 := hv.al.lt
          have l2 := hrw.lt
          obtain ⟨g3, o3, x3, e3v, hg3, hx3, c3⟩ := hv.d.at hlt
          simp only [Option.some.injEq, Addr.mk.injEq, and_true] at e3v
          obtain ⟨rfl, rfl⟩ := e3v
          have l3 : g2 < wq.heap.size := World.block_lt_of_cell? wq _ c3
          rcases H6.out.2.2 b x hx with ⟨rfl, hn⟩ | ⟨hx0, hm⟩
          · obtain rfl : t = false := by
              cases t
              · rfl
              · exact absurd (HC.out.2.2.1.rb_all.1 ((H5.out.2.1 b).1 ht)) hn
            obtain rfl : x3 = -1 := by
              have h9 := (HC.out.2.2.1.doms HC.out.2.2.2.1).2.2 b hlt hn
              rw [List.getD_eq_getElem?_getD, hx3] at h9
              exact h9
            replace c2 : wq.cell? ⟨P, b, none⟩ = some (.int .i64 0) := c2
            have HK := Lib.hid hbe
            clear hv hrw hx ht hn hx3 hbe hg3 hsz
            go_upto_region 17 with (fail)
            go_region
            all_goals
              go_wp2_with fail
              go_roundw
              case rel => exact ⟨b + 1, by go_num, by omega, by omega, HK.out.trans (below_drewN _ _ _)⟩
              case measure => simp [intOf]; omega
          · obtain rfl : t = true := by
              have h9 := (H5.out.2.1 b).2 (HC.out.2.2.1.rb_all.2 hm)
              rw [ht] at h9
              exact Option.some.inj h9
            obtain ⟨q, y, hq1, hqN, hy, hy0, hyx⟩ := HC.out.2.2.1.way HC.out.2.2.2.1 H6.out.1 hb0 hx hx0
            rw [hx3] at hq1
            obtain rfl := Option.some.inj hq1
            have c4 : wq.cell? ⟨P, q, none⟩ = some (.int .i64 (y : Nat)) := hrw.cell (nz_at hy)
            have d1 : (0 : Int) < (x : Int) := by omega
            have d2 : (0 : Int) ≤ (q : Int) := by omega
            have d3 : ¬ (N : Int) ≤ (q : Int) := by omega
            have d4 : (((y : Nat) : Int) == 0) = false := by simp; omega
            have d5 : ¬ ((x : Nat) : Int) ≤ (y : Int) := by omega
            have HK := Lib.hid hbe
            clear hv hrw hx ht hm hx3 hbe hg3 hsz hy hq1
            go_upto_region 17 with (fail)
            go_region
            all_goals
              go_upto_region 20 with (fail)
              go_region
              all_goals
                go_wp2_with fail
                go_roundw
                case rel => exact ⟨b + 1, by go_num, by omega, by omega, HK.out.trans ((below_drewN _ _ _).trans (below_drewN _ _ _))⟩
                case measure => simp [intOf]; omega
        · obtain rfl : b = N := by omega
          have HK := Lib.hid hbe
          clear hv hrw hbe hsz
          go_wp2_with fail
          go_loopw [10] (fun v wr => ∃ a : Nat, v = .int .i64 a ∧ a ≤ b ∧ Below (P + 1) wo wr) (fun v _ => b - (intOf v).toNat)
          case atStart => exact ⟨0, rfl, by omega, HK.out⟩
          case round =>
            clear HK z4 zl
            obtain ⟨a, rfl, haN, hbe⟩ := hrel
            obtain ⟨wz, hwz⟩ : ∃ x, x = wr := ⟨_, rfl⟩
            subst hwz
            obtain ⟨hv, hrw, hsz⟩ := HW6.out wz hbe
            obtain ⟨e0, e1, e2, e3, e4, el⟩ : wz.cell? ⟨H, 0, none⟩ = some (.string (str c.nm)) ∧ wz.cell? ⟨H, 1, none⟩ = some (.int .i64 c.ty) ∧ wz.cell? ⟨H, 2, none⟩ = some (.int .i64 c.pr) ∧ wz.cell? ⟨H, 3, none⟩ = some (.slice rA rn rc) ∧ wz.cell? ⟨H, 4, none⟩ = some (.slice bA b bc) ∧ H < wz.heap.size := by
              have h9 := hv.box
              unfold codA at h9
              exact ⟨h9.cell 0, h9.cell 1, h9.cell 2, h9.cell 3, h9.cell 4, h9.lt⟩
            by_cases hlt : a < b
            · have HR := Lib.hid (reaches_any hv.cd (a : Int))
              have HZ := Lib.hid (And.intro hbe hsz)
              unfold codA at HR
              rw [HC.out.2.2.2.2.2.2.2.1] at HR
              clear hv hrw hbe hsz
              go_wp2_with fail
              refine HR.out.mono ?_
              rintro e w7 ⟨lB, sL, rfl, hlB, hlal, hlsl, hlsL, hb7⟩
              clear e0 e1 e2 e3 e4 el HR
              have hbe7 := HZ.out.1.trans (hb7.mono HZ.out.2)
              obtain ⟨hv, hrw, hsz⟩ := HW6.out w7 hbe7
              have z4 : w7.cell? ⟨H, 4, none⟩ = some (.slice bA b bc) := by have h9 := hv.box; unfold codA at h9; exact h9.cell 4
              have zl := hv.box.lt
              have H7 := Lib.hid (And.intro hbe7 (And.intro hv (And.intro hlal (And.intro hlsl hlsL))))
              clear hbe7 hv hrw hsz hlal hlsl hlsL hb7 hlB
              go_wp2_with fail
              go_loopw [12] (fun v wr => wr = w7 ∧ ∃ d : Nat, v = .int .i64 d ∧ d ≤ b) (fun v _ => b - (intOf v).toNat)
              case atStart => exact ⟨by first | rfl | trivial, 0, rfl, by omega⟩
              case round =>
                obtain ⟨rfl, d, rfl, hd⟩ := hrel
                by_cases hdb : d < b
                · obtain ⟨hbe7, hv, hlal, hlsl, hlsL⟩ := H7.out
                  have hsAl : sA.length = b := by rw [H5.out.1]
                  obtain ⟨ta, hta⟩ : ∃ t, sA[a]? = some t := ⟨_, List.getElem?_eq_getElem (by rw [hsAl]; exact hlt)⟩
                  obtain ⟨td, htd⟩ : ∃ t, sA[d]? = some t := ⟨_, List.getElem?_eq_getElem (by rw [hsAl]; exact hdb)⟩
                  obtain ⟨tl, htl⟩ : ∃ t, sL[d]? = some t := ⟨_, List.getElem?_eq_getElem (by rw [hlsl]; exact hdb)⟩
                  have y1 : wr.cell? ⟨aB, a, none⟩ = some (.bool ta) := hv.al.bl hta
                  have y2 : wr.cell? ⟨aB, d, none⟩ = some (.bool td) := hv.al.bl htd
                  have y3 : wr.cell? ⟨lB, d, none⟩ = some (.bool tl) := hlal.bl htl
                  have l1 := hv.al.lt
                  have l3 := hlal.lt
                  have HT := Lib.hid (And.intro hta (And.intro htd htl))
                  clear hbe7 hv hlal hlsl hlsL hsAl hta htd htl
                  cases ta with
                  | false =>
                    go_wp2_with fail
                    go_roundw
                    case rel => exact ⟨by first | rfl | trivial, d + 1, by go_num, by omega⟩
                    case measure => simp [intOf]; omega
                  | true =>
                    cases td with
                    | false =>
                      go_wp2_with fail
                      go_roundw
                      case rel => exact ⟨by first | rfl | trivial, d + 1, by go_num, by omega⟩
                      case measure => simp [intOf]; omega
                    | true =>
                      by_cases had : a = d
                      · have d1 : (((a : Nat) : Int) == (d : Int)) = true := by simp [had]
                        go_wp2_with fail
                        go_roundw
                        case rel => exact ⟨by first | rfl | trivial, d + 1, by go_num, by omega⟩
                        case measure => simp [intOf]; omega
                      · have d1 : (((a : Nat) : Int) == (d : Int)) = false := by simp; omega
                        have hma := HC.out.2.2.1.rb_all.1 ((H5.out.2.1 a).1 HT.out.1)
                        have hmd := HC.out.2.2.1.rb_all.1 ((H5.out.2.1 d).1 HT.out.2.1)
                        have HUP := Lib.hid (And.intro hma (And.intro hmd (HC.out.2.2.1.up_iff hma hmd had)))
                        clear hma hmd
                        go_wp2_with fail
                        go_loopw [13] (fun v wi => wi = wr ∧ ∃ u : Nat, v = .int .i64 u ∧ u ∈ (walkM (tosC c)).blk ∧ (UpM (tosC c) (walkM (tosC c)) a d ↔ UpM (tosC c) (walkM (tosC c)) a u)) (fun v _ => (placesM b (walkM (tosC c)).ord).getD (intOf v).toNat 0)
                        case atStart => exact ⟨by first | rfl | trivial, d, rfl, HUP.out.2.1, Iff.rfl⟩
                        case round =>
                          obtain ⟨hwi, u, rfl, hu, hup⟩ := hrel
                          subst hwi
                          by_cases hua : u = a
                          · obtain rfl : tl = false := by
                              cases tl
                              · rfl
                              · have h9 := (H7.out.2.2.2.2 d).1 HT.out.2.2
                                rw [hua] at hup
                                exact absurd h9 (HUP.out.2.2.2 (hup.2 (HC.out.2.2.1.up_self HUP.out.1)))
                            have e1 : (((u : Nat) : Int) != (a : Int)) = false := by simp [hua]
                            have e2 : (((u : Nat) : Int) == (a : Int)) = true := by simp [hua]
                            clear hu hup
                            go_wp2_with fail
                            go_roundw
                            case rel => exact ⟨by first | rfl | trivial, d + 1, by go_num, by omega⟩
                            case measure => simp [intOf]; omega
                          · have e1 : (((u : Nat) : Int) != (a : Int)) = true := by simp; omega
                            have e2 : (((u : Nat) : Int) == (a : Int)) = false := by simp; omega
                            by_cases hu0 : u = 0
                            · obtain rfl : tl = true := by
                                cases tl
                                · refine absurd (hup.1 (HUP.out.2.2.1 fun hr => ?_)) (by rw [hu0]; exact HC.out.2.2.1.up_zero (by omega))
                                  have h9 := (H7.out.2.2.2.2 d).2 hr
                                  rw [HT.out.2.2] at h9
                                  cases h9
                                · rfl
                              have e3 : (((u : Nat) : Int) != 0) = false := by simp [hu0]
                              clear hu hup
                              go_wp2_with fail
                              go_roundw
                              case rel => exact ⟨by first | rfl | trivial, d + 1, by go_num, by omega⟩
                              case measure => simp [intOf]; omega
                            · have e3 : (((u : Nat) : Int) != 0) = true := by simp; omega
                              obtain ⟨j9, hj9⟩ := List.getElem?_of_mem hu
                              have huN := (HC.out.2.2.1.ok.b j9 u hj9).1
                              obtain ⟨g3, o3, x3, e3v, hg3, hx3, c3⟩ := H7.out.2.1.d.at huN
                              simp only [Option.some.injEq, Addr.mk.injEq, and_true] at e3v
                              obtain ⟨rfl, rfl⟩ := e3v
                              obtain ⟨q, hq⟩ : ∃ q : Nat, x3 = (q : Int) := by
                                have h9 := (HC.out.2.2.1.doms HC.out.2.2.2.1).2.1 j9 u hj9
                                rw [getD_some hx3] at h9
                                exact ⟨_, h9⟩
                              subst hq
                              obtain ⟨h1, h2, h3⟩ := HC.out.2.2.1.up_step HC.out.2.2.2.1 hu hu0 (fun e => hua e.symm) hx3
                              have l4 := World.block_lt_of_cell? _ _ c3
                              have HX := Lib.hid (And.intro h1 (And.intro (hup.trans h2) h3))
                              clear h1 h2 h3 hu hup hj9 hx3 hg3
                              go_wp2_with fail
                              go_roundw
                              case rel => exact ⟨by first | rfl | trivial, q, by first | rfl | go_num, HX.out.1, HX.out.2.1⟩
                              case measure => simpa [intOf] using HX.out.2.2
                · obtain rfl : d = b := by omega
                  have HQ := Lib.hid H7.out.1
                  go_wp2_with fail
                  go_roundw
                  case rel => exact ⟨a + 1, by go_num, by omega, HQ.out⟩
                  case measure => simp [intOf]; omega
            · obtain rfl : a = b := by omega
              have HQ := Lib.hid (H5.out.2.2.2.2.2.1.trans ((H6.out.2.1.trans (hbe.mono (by omega))).mono (by have := H5.out.2.2.2.2.2.2; have h9 := H5.out.2.2.2.2.2.1.size; rw [HC.out.2.2.2.2.2.2.2.2]; omega)))
              clear hv hrw hsz hbe
              go_wp2_with fail
              go_ret
              exact ⟨rfl, by rw [← HC.out.2.2.2.2.2.2.2.2]; exact HQ.out⟩
end Go.Proofs.Ytjmlpbnejcfnhaa
