/-
  Layer parse: the walks of the functions that read a program's head: sizes, parameters.
-/
import Derived.Test.YtfaoiajhoifalaaGreatDoorPark
namespace Go.Proofs.YtfaoiajhoifalaaGreatDoor
open Go.RowKit
set_option linter.unusedVariables false
set_option linter.unusedSimpArgs false

theorem fld_n (k p n : Int) (s : ByteArray) (w : World) : (Instr.field tE (.agg #[.int .i64 k, .int .i64 p, .int .i64 n, .string s]) 2).run Tryz.prog w = .ok (.int .i64 n) w := by
  kernel_rfl

set_option maxHeartbeats 2000000 in
set_option maxRecDepth 100000 in
theorem size_any {X : Rdr} {w W : World} {s : St} {ns : List NV} {v u : Value} (h : Cur X w v W s ns u) :
    Calls Tryz.prog 124 #[rd X] W (RC X w v W ns u (fun k => .int .i64 k) (sizeM X.e s)) := by
  obtain ⟨M, hM⟩ : ∃ M, sizeM X.e s = M := ⟨_, rfl⟩
  rw [hM]
  have hfl := fun k p n s W => fld_n k p n s W
  have C0 := Lib.hid h
  have hdef : sizeM X.e s = if (pk X.e s).k ≠ 2 then .er 2 (pk X.e s).p else if (pk X.e s).n < 1 ∨ 1024 < (pk X.e s).n then .er 11 (pk X.e s).p else .ok (pk X.e s).n s.nx := rfl
  have hne : (pk X.e s).k = 2 → s.l ≠ [] := fun h2 e => by
    have h3 := h.at_.fin
    simp only [pk, e, List.headD_nil] at h2
    rw [h3] at h2
    cases h2
  rw [hM] at hdef
  clear h hM
  go_enter Tryz.func124, Tryz.ntmps124
  go_wp2_with fail
  refine (c_peek C0.out).mono ?_
  rintro e w1 ⟨rfl, hC, hK⟩
  have C1 := Lib.hid hC
  have N1 := Lib.hid (hC.new tE (tokA (pk X.e s)))
  have K1 := Lib.hid hK
  clear hC hK
  rw [str_eta]
  generalize hpt : pk X.e s = t at *
  by_cases h2 : t.k = 2
  · have hd2 : decide (t.k = 2) = true := by simpa using h2
    have hn := hne h2
    rw [if_neg (by simpa using h2)] at hdef
    by_cases h3 : t.n < 1
    · have hd3 : decide (t.n < 1) = true := by simpa using h3
      rw [if_pos (.inl h3)] at hdef
      have HE := Lib.hid hdef
      clear hdef hne
      go_wp2_with fail
      refine (c_wrong (C1.out.alloc _) 11).mono ?_
      rintro e w2 ⟨rfl, hb⟩
      have HB := Lib.hid hb
      clear hb
      go_wp2_with fail
      refine panic_end rfl ?_
      rw [HE.out]
      exact ⟨rfl, HB.out⟩
    · have hd3 : decide (t.n < 1) = false := by simpa using h3
      by_cases h4 : 1024 < t.n
      · have hd4 : decide (1024 < t.n) = true := by simpa using h4
        rw [if_pos (.inr h4)] at hdef
        have HE := Lib.hid hdef
        clear hdef hne
        go_wp2_with fail
        refine (c_wrong (C1.out.alloc _) 11).mono ?_
        rintro e w2 ⟨rfl, hb⟩
        have HB := Lib.hid hb
        clear hb
        go_wp2_with fail
        refine panic_end rfl ?_
        rw [HE.out]
        exact ⟨rfl, HB.out⟩
      · have hd4 : decide (1024 < t.n) = false := by simpa using h4
        rw [if_neg (by omega)] at hdef
        have HE := Lib.hid hdef
        clear hdef hne
        go_wp2_with fail
        refine (c_next (C1.out.alloc _) hn).mono ?_
        rintro e w2 ⟨rfl, hC, hK⟩
        have HC := Lib.hid (And.intro hC (K1.out.trans ((Kp.of ((Below.refl _ _).alloc (Nat.le_refl _) _)).trans hK)))
        clear hC hK
        rw [hpt, str_eta]
        go_wp2_with fail
        go_ret
        rw [HE.out]
        exact ⟨rfl, HC.out⟩
  · have hd2 : decide (t.k = 2) = false := by simpa using h2
    rw [if_pos h2] at hdef
    have HE := Lib.hid hdef
    clear hdef hne
    go_wp2_with fail
    refine (c_wrong (C1.out.alloc _) 2).mono ?_
    rintro e w2 ⟨rfl, hb⟩
    have HB := Lib.hid hb
    clear hb
    go_wp2_with fail
    refine panic_end rfl ?_
    rw [HE.out]
    exact ⟨rfl, HB.out⟩

def pmA (p : Pm) : Array Value := #[.string (str p.s), .int .i64 p.ty]
def pmV (p : Pm) : Value := .agg (pmA p)
abbrev tP : TypeId := 45
theorem pmInfo : (Tryz.prog.info? tP).map (·.size) = some 2 := by kernel_rfl
theorem ret_pm {fn : Func} {R : Ending → World → Prop} {a : Act} {w : World} {b : Nat} {p : Nat} {x : Pm} {T : TypeId} {fr : Nat × Nat} (hf : fn.results = #[.cell p tP]) (hd : a.defers = [])
    (h2 : a.tmps.getD p undef = .pointer (some ⟨b, 0, none⟩)) (hb : w.heap[b]? = some (.cells (pmA x) T fr))
    (hR : R (.returned (pmV x)) w) : bodyPost Tryz.prog fn R .ret a w :=
  bodyPost_ret (v := pmV x) (results_cell_row hf _ _ b T _ fr _ h2 hb Tryz.underlying45 rfl pmInfo) hd hR

set_option maxHeartbeats 2000000 in
set_option maxRecDepth 100000 in
theorem param_any {X : Rdr} {w W : World} {s : St} {ns : List NV} {v u : Value} (h : Cur X w v W s ns u) :
    Calls Tryz.prog 149 #[rd X] W (RC X w v W ns u pmV (paramM X.e s)) := by
  obtain ⟨M, hM⟩ : ∃ M, paramM X.e s = M := ⟨_, rfl⟩
  rw [hM]
  have HM := Lib.hid hM
  have hfs := fun t W => fld_s t W
  have C0 := Lib.hid (h.alloc (.cells #[.string ⟨#[]⟩, .int .i64 0] tP))
  have N0 := Lib.hid (h.new tP #[.string ⟨#[]⟩, .int .i64 0])
  have hWl := h.kp.size
  clear h hM
  go_enter Tryz.func149, Tryz.ntmps149
  go_wp2_with fail
  refine (c_typed2 C0.out (by simp) 1 2).mono ?_
  intro e w1 hR
  rcases hR.cases with ⟨no, p, hm, rfl, hb⟩ | ⟨a1, s1, hm, rfl, hC, hK⟩
  · have HH := Lib.hid (And.intro (show M = .er no p by rw [← HM.out]; simp only [paramM, hm, Rs.bind_er]) hb)
    clear hm hb hR
    go_wp2_with fail
    refine panic_end rfl ?_
    rw [HH.out.1]
    exact ⟨rfl, HH.out.2⟩
  have E1 := Lib.hid hm
  have C1 := Lib.hid hC
  have N1 := Lib.hid (N0.out.kept hK)
  have K1 := Lib.hid hK
  clear hm hC hK hR
  go_wp2_with fail
  refine (c_name C1.out).mono ?_
  intro e w2 hR
  rcases hR.cases with ⟨no, p, hm, rfl, hb⟩ | ⟨a2, s2, hm, rfl, hC, hK⟩
  · have HH := Lib.hid (And.intro (show M = .er no p by rw [← HM.out]; simp only [paramM, E1.out, Rs.bind_ok, hm, Rs.bind_er]) hb)
    clear hm hb hR
    go_wp2_with fail
    refine panic_end rfl ?_
    rw [HH.out.1]
    exact ⟨rfl, HH.out.2⟩
  have HE := Lib.hid (show M = .ok ⟨a2.s, a1⟩ s2 by rw [← HM.out]; simp only [paramM, E1.out, Rs.bind_ok, hm])
  have C2 := Lib.hid hC
  have N2 := Lib.hid (N1.out.kept hK)
  have K2 := Lib.hid (K1.out.trans hK)
  have c0 := N2.out.blk.cell 0
  have c1 := N2.out.blk.cell 1
  have f0 := N2.out.blk.frozen 0
  have f1 := N2.out.blk.frozen 1
  have hl := N2.out.blk.lt
  simp only [List.getElem?_toArray, List.getElem?_cons_zero, List.getElem?_cons_succ] at c0 c1
  clear hm hC hK hR
  rw [str_eta]
  go_wp2_with fail
  have C3 := (C2.out.set_ N2.out hWl (by decide) 0 (.string (str a2.s))).set_ (N2.out.set_ 0 (.string (str a2.s))) hWl (by decide) 1 (.int .i64 a1)
  have N3 : Blk ((w2.setCell ⟨W.heap.size, 0, none⟩ (.string (str a2.s))).setCell ⟨W.heap.size, 1, none⟩ (.int .i64 a1)) W.heap.size tP (pmA ⟨a2.s, a1⟩) := ((N2.out.set_ 0 (.string (str a2.s))).set_ 1 (.int .i64 a1)).blk
  refine ret_pm (x := ⟨a2.s, a1⟩) rfl rfl rfl N3 ?_
  rw [HE.out]
  exact ⟨rfl, C3, ((Kp.of ((Below.refl _ W).alloc (Nat.le_refl _) _)).trans K2.out).down (((Below.refl _ _).setCell (p := ⟨W.heap.size, 0, none⟩) (Nat.le_refl _) _).setCell (p := ⟨W.heap.size, 1, none⟩) (Nat.le_refl _) _)⟩
end Go.Proofs.YtfaoiajhoifalaaGreatDoor
