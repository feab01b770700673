/-
  Layer parse: the walks of the functions that read a program's head: globals.
-/
import Derived.Test.YtfaoiajhoifalaaGreatDoorParr
namespace Go.Proofs.YtfaoiajhoifalaaGreatDoor
open Go.RowKit
set_option linter.unusedVariables false
set_option linter.unusedSimpArgs false

def glA (g : Gl) : Array Value := #[.string (str g.s), .int .i64 g.ty, .int .i64 g.n, .int .i64 g.p]
def glV (g : Gl) : Value := .agg (glA g)
abbrev tG : TypeId := 47
theorem glInfo : (Tryz.prog.info? tG).map (·.size) = some 4 := by kernel_rfl
theorem ret_gl {fn : Func} {R : Ending → World → Prop} {a : Act} {w : World} {b : Nat} {p : Nat} {x : Gl} {T : TypeId} {fr : Nat × Nat} (hf : fn.results = #[.cell p tG]) (hd : a.defers = [])
    (h2 : a.tmps.getD p undef = .pointer (some ⟨b, 0, none⟩)) (hb : w.heap[b]? = some (.cells (glA x) T fr))
    (hR : R (.returned (glV x)) w) : bodyPost Tryz.prog fn R .ret a w :=
  bodyPost_ret (v := glV x) (results_cell_row hf _ _ b T _ fr _ h2 hb Tryz.underlying47 rfl glInfo) hd hR
theorem Blk.gl {W : World} {j : Nat} {T : TypeId} {g : Gl} (h : Blk W j T (glA g)) :
    W.cell? ⟨j, 0, none⟩ = some (.string (str g.s)) ∧ W.cell? ⟨j, 1, none⟩ = some (.int .i64 g.ty) ∧ W.cell? ⟨j, 2, none⟩ = some (.int .i64 g.n) ∧ W.cell? ⟨j, 3, none⟩ = some (.int .i64 g.p) ∧ j < W.heap.size ∧
    (W.frozen? ⟨j, 0, none⟩ = false ∧ W.frozen? ⟨j, 1, none⟩ = false ∧ W.frozen? ⟨j, 2, none⟩ = false ∧ W.frozen? ⟨j, 3, none⟩ = false) :=
  ⟨h.cell 0, h.cell 1, h.cell 2, h.cell 3, h.lt, h.frozen 0, h.frozen 1, h.frozen 2, h.frozen 3⟩

set_option maxHeartbeats 4000000 in
set_option maxRecDepth 100000 in
theorem global_any {X : Rdr} {w W : World} {s : St} {ns : List NV} {v u : Value} (h : Cur X w v W s ns u) (kind : Int) (t : Tok) :
    Calls Tryz.prog 84 #[rd X, .int .i64 kind, tokV t] W (RC X w v W ns u glV (globalM X.e kind t s)) := by
  obtain ⟨M, hM⟩ : ∃ M, globalM X.e kind t s = M := ⟨_, rfl⟩
  rw [hM]
  have C0 := Lib.hid (((h.alloc (.cells (tokA t) tE)).alloc (.cells (glA ⟨[], 0, 0, 0⟩) tG)).alloc (.cells (glA ⟨t.s, kind, 0, t.p⟩) tG))
  have R0' := Lib.hid (((h.alloc (.cells (tokA t) tE)).new tG (glA ⟨[], 0, 0, 0⟩)).alloc (.cells (glA ⟨t.s, kind, 0, t.p⟩) tG))
  have N0 := Lib.hid (((h.alloc (.cells (tokA t) tE)).alloc (.cells (glA ⟨[], 0, 0, 0⟩) tG)).new tG (glA ⟨t.s, kind, 0, t.p⟩))
  have hWl := h.kp.size
  have KW : Hid (Kp X W u (((W.alloc (.cells (tokA t) tE)).alloc (.cells (glA ⟨[], 0, 0, 0⟩) tG)).alloc (.cells (glA ⟨t.s, kind, 0, t.p⟩) tG)) u) := Lib.hid (Kp.of ((((Below.refl _ W).alloc (Nat.le_refl _) _).alloc (by simp) _).alloc (by simp; omega) _))
  have e1 : (W.alloc (.cells (tokA t) tE)).heap.size = W.heap.size + 1 := by simp
  have e2 : ((W.alloc (.cells (tokA t) tE)).alloc (.cells (glA ⟨[], 0, 0, 0⟩) tG)).heap.size = W.heap.size + 1 + 1 := by simp
  rw [e1] at R0'
  rw [e2] at N0
  have hdef : globalM X.e kind t s = if kind = 3 ∨ isT X.e [91] s then (must X.e [91] s).bind fun _ s => (sizeM X.e s).bind fun n s => (must X.e [93] s).bind fun _ s => (must X.e [59] s).bind fun _ s => .ok ⟨t.s, kind, n, t.p⟩ s
    else (must X.e [59] s).bind fun _ s => .ok ⟨t.s, kind, 0, t.p⟩ s := rfl
  rw [hM] at hdef
  clear h hM e1 e2
  rw [str_eta]
  go_enter Tryz.func84, Tryz.ntmps84
  by_cases hk : kind = 3
  · subst hk
    rw [if_pos (.inl rfl)] at hdef
    have HM := Lib.hid hdef
    clear hdef
    go_wp2_with fail
    refine (c_must C0.out (by simp) [91] (by simp)).mono ?_
    intro e w1 hR
    rcases hR.cases with ⟨no, p, hm, rfl, hb⟩ | ⟨a1, s1, hm, rfl, hC, hK⟩
    · have HE : M = .er no p := by rw [HM.out]; simp only [hm, Rs.bind_ok, Rs.bind_er]
      have HH := Lib.hid (And.intro HE hb)
      clear HE hb hm
      go_wp2_with fail
      refine panic_end rfl ?_
      rw [HH.out.1]
      exact ⟨rfl, HH.out.2⟩
    have E1 := Lib.hid hm
    have C1 := Lib.hid hC
    have K1 := Lib.hid ((KW.out).trans hK)
    have R1 := Lib.hid ((R0'.out).kept hK)
    have N1 := Lib.hid ((N0.out).kept hK)
    clear hm hC hK hR
    go_wp2_with fail
    refine (size_any C1.out).mono ?_
    intro e w2 hR
    rcases hR.cases with ⟨no, p, hm, rfl, hb⟩ | ⟨a2, s2, hm, rfl, hC, hK⟩
    · have HE : M = .er no p := by rw [HM.out]; simp only [E1.out, hm, Rs.bind_ok, Rs.bind_er]
      have HH := Lib.hid (And.intro HE hb)
      clear HE hb hm
      go_wp2_with fail
      refine panic_end rfl ?_
      rw [HH.out.1]
      exact ⟨rfl, HH.out.2⟩
    have E2 := Lib.hid hm
    have C2 := Lib.hid hC
    have K2 := Lib.hid ((K1.out).trans hK)
    have R2 := Lib.hid ((R1.out).kept hK)
    have N2 := Lib.hid ((N1.out).kept hK)
    clear hm hC hK hR
    obtain ⟨Nc0, Nc1, Nc2, Nc3, Ncl, Nf0, Nf1, Nf2, Nf3⟩ := N2.out.blk.gl
    have C2s := Lib.hid (C2.out.set_ N2.out (by omega) (by decide) 2 (.int .i64 a2))
    have N2s : Hid (Loc X (w2.setCell ⟨W.heap.size + 1 + 1, 2, none⟩ (.int .i64 a2)) u (W.heap.size + 1 + 1) tG (glA ⟨t.s, 3, a2, t.p⟩)) := Lib.hid (N2.out.set_ 2 (.int .i64 a2))
    have R2s := Lib.hid (R2.out.far (by omega) 2 (.int .i64 a2) : Loc X (w2.setCell ⟨W.heap.size + 1 + 1, 2, none⟩ (.int .i64 a2)) u (W.heap.size + 1) tG (glA ⟨[], 0, 0, 0⟩))
    have K2s := Lib.hid (K2.out.down ((Below.refl _ _).setCell (p := ⟨W.heap.size + 1 + 1, 2, none⟩) (by simp; omega) (.int .i64 a2)))
    clear Nc0 Nc1 Nc3 Nf0 Nf1 Nf3
    go_wp2_with fail
    clear Nc2 Nf2 Ncl
    refine (c_must C2s.out (by simp) [93] (by simp)).mono ?_
    intro e w3 hR
    rcases hR.cases with ⟨no, p, hm, rfl, hb⟩ | ⟨a3, s3, hm, rfl, hC, hK⟩
    · have HE : M = .er no p := by rw [HM.out]; simp only [E1.out, E2.out, hm, Rs.bind_ok, Rs.bind_er]
      have HH := Lib.hid (And.intro HE hb)
      clear HE hb hm
      go_wp2_with fail
      refine panic_end rfl ?_
      rw [HH.out.1]
      exact ⟨rfl, HH.out.2⟩
    have E3 := Lib.hid hm
    have C3 := Lib.hid hC
    have K3 := Lib.hid ((K2s.out).trans hK)
    have R3 := Lib.hid ((R2s.out).kept hK)
    have N3 := Lib.hid ((N2s.out).kept hK)
    clear hm hC hK hR
    go_wp2_with fail
    refine (c_must C3.out rfl [59] (by simp)).mono ?_
    intro e w4 hR
    rcases hR.cases with ⟨no, p, hm, rfl, hb⟩ | ⟨a4, s4, hm, rfl, hC, hK⟩
    · have HE : M = .er no p := by rw [HM.out]; simp only [E1.out, E2.out, E3.out, hm, Rs.bind_ok, Rs.bind_er]
      have HH := Lib.hid (And.intro HE hb)
      clear HE hb hm
      go_wp2_with fail
      refine panic_end rfl ?_
      rw [HH.out.1]
      exact ⟨rfl, HH.out.2⟩
    have E4 := Lib.hid hm
    have C4 := Lib.hid hC
    have K4 := Lib.hid ((K3.out).trans hK)
    have R4 := Lib.hid ((R3.out).kept hK)
    have N4 := Lib.hid ((N3.out).kept hK)
    clear hm hC hK hR
    have HE := Lib.hid (show M = .ok ⟨t.s, 3, a2, t.p⟩ s4 by rw [HM.out]; simp only [E1.out, E2.out, E3.out, E4.out, Rs.bind_ok])
    obtain ⟨Nc0, Nc1, Nc2, Nc3, Ncl, -⟩ := N4.out.blk.gl
    obtain ⟨Rc0, Rc1, Rc2, Rc3, Rcl, Rf0, Rf1, Rf2, Rf3⟩ := R4.out.blk.gl
    go_wp2_with fail
    have C9 := ((((C4.out.set_ R4.out (by omega) (by decide) 0 (.string (str t.s))).set_ (R4.out.set_ 0 (.string (str t.s))) (by omega) (by decide) 1 (.int .i64 3)).set_ ((R4.out.set_ 0 (.string (str t.s))).set_ 1 (.int .i64 3)) (by omega) (by decide) 2 (.int .i64 a2)).set_ (((R4.out.set_ 0 (.string (str t.s))).set_ 1 (.int .i64 3)).set_ 2 (.int .i64 a2)) (by omega) (by decide) 3 (.int .i64 t.p))
    have R9 := ((((R4.out.set_ 0 (.string (str t.s))).set_ 1 (.int .i64 3)).set_ 2 (.int .i64 a2)).set_ 3 (.int .i64 t.p)).blk
    refine ret_gl (x := ⟨t.s, 3, a2, t.p⟩) rfl rfl rfl R9 ?_
    rw [HE.out]
    exact ⟨rfl, C9, K4.out.down (((((Below.refl _ _).setCell (p := ⟨W.heap.size + 1, 0, none⟩) (by simp) (.string (str t.s))).setCell (p := ⟨W.heap.size + 1, 1, none⟩) (by simp) (.int .i64 3)).setCell (p := ⟨W.heap.size + 1, 2, none⟩) (by simp) (.int .i64 a2)).setCell (p := ⟨W.heap.size + 1, 3, none⟩) (by simp) (.int .i64 t.p))⟩
  · have hd3 : decide (kind = 3) = false := by simpa using hk
    have HK3 := Lib.hid hk
    have HDEF := Lib.hid hdef
    clear hk hdef
    go_wp2_with fail
    refine (c_is C0.out [91]).mono ?_
    rintro e w1 ⟨rfl, hC, hK⟩
    have C1 := Lib.hid hC
    have R1 := Lib.hid (R0'.out.kept hK)
    have N1 := Lib.hid (N0.out.kept hK)
    have K1 := Lib.hid (KW.out.trans hK)
    have hdef := HDEF.out
    clear hC hK
    cases hq : isT X.e [91] s
    · rw [if_neg (by simp [HK3.out, hq])] at hdef
      have HM := Lib.hid hdef
      clear hdef
      go_wp2_with fail
      refine (c_must C1.out (by simp) [59] (by simp)).mono ?_
      intro e w2 hR
      rcases hR.cases with ⟨no, p, hm, rfl, hb⟩ | ⟨a2, s2, hm, rfl, hC, hK⟩
      · have HE : M = .er no p := by rw [HM.out]; simp only [hm, Rs.bind_ok, Rs.bind_er]
        have HH := Lib.hid (And.intro HE hb)
        clear HE hb hm
        go_wp2_with fail
        refine panic_end rfl ?_
        rw [HH.out.1]
        exact ⟨rfl, HH.out.2⟩
      have E2 := Lib.hid hm
      have C2 := Lib.hid hC
      have K2 := Lib.hid ((K1.out).trans hK)
      have R2 := Lib.hid ((R1.out).kept hK)
      have N2 := Lib.hid ((N1.out).kept hK)
      clear hm hC hK hR
      have HE := Lib.hid (show M = .ok ⟨t.s, kind, 0, t.p⟩ s2 by rw [HM.out]; simp only [E2.out, Rs.bind_ok])
      obtain ⟨Nc0, Nc1, Nc2, Nc3, Ncl, -⟩ := N2.out.blk.gl
      obtain ⟨Rc0, Rc1, Rc2, Rc3, Rcl, Rf0, Rf1, Rf2, Rf3⟩ := R2.out.blk.gl
      go_wp2_with fail
      have C9 := ((((C2.out.set_ R2.out (by omega) (by decide) 0 (.string (str t.s))).set_ (R2.out.set_ 0 (.string (str t.s))) (by omega) (by decide) 1 (.int .i64 kind)).set_ ((R2.out.set_ 0 (.string (str t.s))).set_ 1 (.int .i64 kind)) (by omega) (by decide) 2 (.int .i64 0)).set_ (((R2.out.set_ 0 (.string (str t.s))).set_ 1 (.int .i64 kind)).set_ 2 (.int .i64 0)) (by omega) (by decide) 3 (.int .i64 t.p))
      have R9 := ((((R2.out.set_ 0 (.string (str t.s))).set_ 1 (.int .i64 kind)).set_ 2 (.int .i64 0)).set_ 3 (.int .i64 t.p)).blk
      refine ret_gl (x := ⟨t.s, kind, 0, t.p⟩) rfl rfl rfl R9 ?_
      rw [HE.out]
      exact ⟨rfl, C9, K2.out.down (((((Below.refl _ _).setCell (p := ⟨W.heap.size + 1, 0, none⟩) (by simp) (.string (str t.s))).setCell (p := ⟨W.heap.size + 1, 1, none⟩) (by simp) (.int .i64 kind)).setCell (p := ⟨W.heap.size + 1, 2, none⟩) (by simp) (.int .i64 0)).setCell (p := ⟨W.heap.size + 1, 3, none⟩) (by simp) (.int .i64 t.p))⟩
    · rw [if_pos (.inr hq)] at hdef
      have HM := Lib.hid hdef
      clear hdef
      go_wp2_with fail
      refine (c_must C1.out (by simp) [91] (by simp)).mono ?_
      intro e w2 hR
      rcases hR.cases with ⟨no, p, hm, rfl, hb⟩ | ⟨a2, s2, hm, rfl, hC, hK⟩
      · have HE : M = .er no p := by rw [HM.out]; simp only [hm, Rs.bind_ok, Rs.bind_er]
        have HH := Lib.hid (And.intro HE hb)
        clear HE hb hm
        go_wp2_with fail
        refine panic_end rfl ?_
        rw [HH.out.1]
        exact ⟨rfl, HH.out.2⟩
      have E2 := Lib.hid hm
      have C2 := Lib.hid hC
      have K2 := Lib.hid ((K1.out).trans hK)
      have R2 := Lib.hid ((R1.out).kept hK)
      have N2 := Lib.hid ((N1.out).kept hK)
      clear hm hC hK hR
      go_wp2_with fail
      refine (size_any C2.out).mono ?_
      intro e w3 hR
      rcases hR.cases with ⟨no, p, hm, rfl, hb⟩ | ⟨a3, s3, hm, rfl, hC, hK⟩
      · have HE : M = .er no p := by rw [HM.out]; simp only [E2.out, hm, Rs.bind_ok, Rs.bind_er]
        have HH := Lib.hid (And.intro HE hb)
        clear HE hb hm
        go_wp2_with fail
        refine panic_end rfl ?_
        rw [HH.out.1]
        exact ⟨rfl, HH.out.2⟩
      have E3 := Lib.hid hm
      have C3 := Lib.hid hC
      have K3 := Lib.hid ((K2.out).trans hK)
      have R3 := Lib.hid ((R2.out).kept hK)
      have N3 := Lib.hid ((N2.out).kept hK)
      clear hm hC hK hR
      obtain ⟨Nc0, Nc1, Nc2, Nc3, Ncl, Nf0, Nf1, Nf2, Nf3⟩ := N3.out.blk.gl
      have C3s := Lib.hid (C3.out.set_ N3.out (by omega) (by decide) 2 (.int .i64 a3))
      have N3s : Hid (Loc X (w3.setCell ⟨W.heap.size + 1 + 1, 2, none⟩ (.int .i64 a3)) u (W.heap.size + 1 + 1) tG (glA ⟨t.s, kind, a3, t.p⟩)) := Lib.hid (N3.out.set_ 2 (.int .i64 a3))
      have R3s := Lib.hid (R3.out.far (by omega) 2 (.int .i64 a3) : Loc X (w3.setCell ⟨W.heap.size + 1 + 1, 2, none⟩ (.int .i64 a3)) u (W.heap.size + 1) tG (glA ⟨[], 0, 0, 0⟩))
      have K3s := Lib.hid (K3.out.down ((Below.refl _ _).setCell (p := ⟨W.heap.size + 1 + 1, 2, none⟩) (by simp; omega) (.int .i64 a3)))
      clear Nc0 Nc1 Nc3 Nf0 Nf1 Nf3
      go_wp2_with fail
      clear Nc2 Nf2 Ncl
      refine (c_must C3s.out (by simp) [93] (by simp)).mono ?_
      intro e w4 hR
      rcases hR.cases with ⟨no, p, hm, rfl, hb⟩ | ⟨a4, s4, hm, rfl, hC, hK⟩
      · have HE : M = .er no p := by rw [HM.out]; simp only [E2.out, E3.out, hm, Rs.bind_ok, Rs.bind_er]
        have HH := Lib.hid (And.intro HE hb)
        clear HE hb hm
        go_wp2_with fail
        refine panic_end rfl ?_
        rw [HH.out.1]
        exact ⟨rfl, HH.out.2⟩
      have E4 := Lib.hid hm
      have C4 := Lib.hid hC
      have K4 := Lib.hid ((K3s.out).trans hK)
      have R4 := Lib.hid ((R3s.out).kept hK)
      have N4 := Lib.hid ((N3s.out).kept hK)
      clear hm hC hK hR
      go_wp2_with fail
      refine (c_must C4.out rfl [59] (by simp)).mono ?_
      intro e w5 hR
      rcases hR.cases with ⟨no, p, hm, rfl, hb⟩ | ⟨a5, s5, hm, rfl, hC, hK⟩
      · have HE : M = .er no p := by rw [HM.out]; simp only [E2.out, E3.out, E4.out, hm, Rs.bind_ok, Rs.bind_er]
        have HH := Lib.hid (And.intro HE hb)
        clear HE hb hm
        go_wp2_with fail
        refine panic_end rfl ?_
        rw [HH.out.1]
        exact ⟨rfl, HH.out.2⟩
      have E5 := Lib.hid hm
      have C5 := Lib.hid hC
      have K5 := Lib.hid ((K4.out).trans hK)
      have R5 := Lib.hid ((R4.out).kept hK)
      have N5 := Lib.hid ((N4.out).kept hK)
      clear hm hC hK hR
      have HE := Lib.hid (show M = .ok ⟨t.s, kind, a3, t.p⟩ s5 by rw [HM.out]; simp only [E2.out, E3.out, E4.out, E5.out, Rs.bind_ok])
      obtain ⟨Nc0, Nc1, Nc2, Nc3, Ncl, -⟩ := N5.out.blk.gl
      obtain ⟨Rc0, Rc1, Rc2, Rc3, Rcl, Rf0, Rf1, Rf2, Rf3⟩ := R5.out.blk.gl
      go_wp2_with fail
      have C9 := ((((C5.out.set_ R5.out (by omega) (by decide) 0 (.string (str t.s))).set_ (R5.out.set_ 0 (.string (str t.s))) (by omega) (by decide) 1 (.int .i64 kind)).set_ ((R5.out.set_ 0 (.string (str t.s))).set_ 1 (.int .i64 kind)) (by omega) (by decide) 2 (.int .i64 a3)).set_ (((R5.out.set_ 0 (.string (str t.s))).set_ 1 (.int .i64 kind)).set_ 2 (.int .i64 a3)) (by omega) (by decide) 3 (.int .i64 t.p))
      have R9 := ((((R5.out.set_ 0 (.string (str t.s))).set_ 1 (.int .i64 kind)).set_ 2 (.int .i64 a3)).set_ 3 (.int .i64 t.p)).blk
      refine ret_gl (x := ⟨t.s, kind, a3, t.p⟩) rfl rfl rfl R9 ?_
      rw [HE.out]
      exact ⟨rfl, C9, K5.out.down (((((Below.refl _ _).setCell (p := ⟨W.heap.size + 1, 0, none⟩) (by simp) (.string (str t.s))).setCell (p := ⟨W.heap.size + 1, 1, none⟩) (by simp) (.int .i64 kind)).setCell (p := ⟨W.heap.size + 1, 2, none⟩) (by simp) (.int .i64 a3)).setCell (p := ⟨W.heap.size + 1, 3, none⟩) (by simp) (.int .i64 t.p))⟩
end Go.Proofs.YtfaoiajhoifalaaGreatDoor
