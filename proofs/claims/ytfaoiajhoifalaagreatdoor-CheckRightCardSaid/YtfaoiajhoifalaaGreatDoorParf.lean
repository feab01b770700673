/-
  Layer parse: the walks of the functions that read operands: parentheses, operands.
-/
import Derived.Test.YtfaoiajhoifalaaGreatDoorPare
namespace Go.Proofs.YtfaoiajhoifalaaGreatDoor
open Go.RowKit
set_option linter.unusedVariables false
set_option linter.unusedSimpArgs false

theorem rk1 {h : Hd} {k : Fo} {c : Nat} : (Fo.one h k).roots c = [c + k.size] := rfl
/-- One kid, in a slice of its own. -/
theorem kid1 {X : Rdr} {w W : World} {v u : Value} {s : St} {ns : List NV} (h : Cur X w v W s ns u) (hh : Hd) (k : Fo) {c : Nat} : (W.alloc (.cells #[.int .i64 (c + k.size : Nat)] tI)).ownsRow X.base tI 1 (.slice (some ⟨W.heap.size, 0, none⟩) 1 1) ((Fo.one hh k).roots c).length (kidCells ((Fo.one hh k).roots c)) :=
  World.ownsRow_lit (base := X.base) (e := tI) (size := 1) W #[.int .i64 (c + k.size : Nat)] 1 h.at_.baselt (by decide) rfl

set_option maxHeartbeats 4000000 in
set_option maxRecDepth 100000 in
theorem enclosed_any {X : Rdr} {r : Md → St → Rs Fo} (hO : KOp X r) (hX : KEx X r) {w : World} {s : St} {ns : List NV} {v : Value} (h : At X w s ns v) (d : Nat) (hd : d ≤ 40) (hne : s.l ≠ []) (hno : encB X.e r d s ≠ .out) :
    Calls Tryz.prog 198 #[rd X, .int .i64 d] w (RT X w ns v (encB X.e r d s)) := by
  have hC := Cur.start h
  obtain ⟨M, hM⟩ : ∃ M, encB X.e r d s = M := ⟨_, rfl⟩
  rw [hM]
  have HM := Lib.hid hM
  have HO := Lib.hid hno
  have C0 := Lib.hid hC
  clear hM h hC hno
  have hfl := fun t W => fld_p t W
  have HCP : Hid (((d : Int) + 1) = ((d + 1 : Nat) : Int)) := Lib.hid (by simp)
  go_enter Tryz.func198, Tryz.ntmps198
  go_wp2_with fail
  refine (c_next C0.out hne).mono ?_
  rintro e w1 ⟨rfl, hC, hK⟩
  have C1 := Lib.hid hC
  clear hC hK
  rw [str_eta]
  generalize hpt : pk X.e s = t
  go_wp2_with fail
  refine (c_peek C1.out).mono ?_
  rintro e w2 ⟨rfl, hC, hK⟩
  have C2 := Lib.hid hC
  clear hC hK
  go_wp2_with fail
  refine (c_quoted C2.out _).mono ?_
  rintro e w3 ⟨rfl, hC, hK⟩
  have C3 := Lib.hid hC
  clear hC hK
  go_wp2_with fail
  refine (typeNamed_any _ (q (pk X.e s.nx)) (str_list _) w3 C3.out.at_.env).mono ?_
  rintro e w4 ⟨rfl, rfl⟩
  cases hk : typeNo (q (pk X.e s.nx))
  · have hno1 := hk
    have hno2 : r (.bin (d + 1) 1) s.nx ≠ .out := by
      have := HO.out
      simp only [encB, encE, hk, if_true, if_false] at this
      exact ne_out this
    go_wp2_with fail
    rw [HCP.out]
    refine (hX (d + 1) w3 s.nx ns v (by omega) C3.out.at_ hno2).mono ?_
    intro e w5 hR0
    have hR := (C3.out).rd hR0
    rcases hR.cases with ⟨no, p, hm, rfl, hb⟩ | ⟨h5, k5, s5, v5, nk5, hm, rfl, hC, hK, hF⟩
    · have HE : encB X.e r d s = .er no p := by simp only [encB, encE, hk, hm, Rs.bind_ok, Rs.bind_er, if_true, if_false, Bool.false_eq_true, ite_true, ite_false]
      have HH := Lib.hid (And.intro HE hb)
      clear HE hb hm
      go_wp2_with fail
      refine panic_end rfl ?_
      rw [← HM.out, HH.out.1]
      exact ⟨rfl, HH.out.2⟩
    have E5 := Lib.hid hm
    have C5 := Lib.hid hC
    have F5 := Lib.hid hF
    clear hm hC hK hR hR0 hF
    go_wp2_with fail
    refine (c_must C5.out (by simp) [41] (by simp)).mono ?_
    intro e w6 hR
    rcases hR.cases with ⟨no, p, hm, rfl, hb⟩ | ⟨a6, s6, hm, rfl, hC, hK⟩
    · have HE : encB X.e r d s = .er no p := by simp only [encB, encE, hk, E5.out, hm, Rs.bind_ok, Rs.bind_er, if_true, if_false, Bool.false_eq_true, ite_true, ite_false]
      have HH := Lib.hid (And.intro HE hb)
      clear HE hb hm
      go_wp2_with fail
      refine panic_end rfl ?_
      rw [← HM.out, HH.out.1]
      exact ⟨rfl, HH.out.2⟩
    have E6 := Lib.hid hm
    have C6 := Lib.hid hC
    clear hm hC hK hR
    have HE : encB X.e r d s = .ok (Fo.one h5 k5) s6 := by simp only [encB, encE, hk, E5.out, E6.out, Rs.bind_ok, Rs.bind_er, if_true, if_false, Bool.false_eq_true, ite_true, ite_false]
    have HE := Lib.hid HE
    go_wp2_with fail
    go_ret
    rw [← HM.out, HE.out]
    exact ⟨v5, nk5, h5, k5, rfl, rfl, C6.out.at_, C6.out.kp, F5.out⟩
  · have hno1 := hk
    rename_i k
    by_cases hk0 : k = 0
    · subst hk0
      have hno2 : r (.bin (d + 1) 1) s.nx ≠ .out := by
        have := HO.out
        simp only [encB, encE, hk, if_true, if_true, if_false] at this
        exact ne_out this
      go_wp2_with fail
      rw [HCP.out]
      refine (hX (d + 1) w3 s.nx ns v (by omega) C3.out.at_ hno2).mono ?_
      intro e w5 hR0
      have hR := (C3.out).rd hR0
      rcases hR.cases with ⟨no, p, hm, rfl, hb⟩ | ⟨h5, k5, s5, v5, nk5, hm, rfl, hC, hK, hF⟩
      · have HE : encB X.e r d s = .er no p := by simp only [encB, encE, hk, if_true, hm, Rs.bind_ok, Rs.bind_er, if_true, if_false, Bool.false_eq_true, ite_true, ite_false]
        have HH := Lib.hid (And.intro HE hb)
        clear HE hb hm
        go_wp2_with fail
        refine panic_end rfl ?_
        rw [← HM.out, HH.out.1]
        exact ⟨rfl, HH.out.2⟩
      have E5 := Lib.hid hm
      have C5 := Lib.hid hC
      have F5 := Lib.hid hF
      clear hm hC hK hR hR0 hF
      go_wp2_with fail
      refine (c_must C5.out (by simp) [41] (by simp)).mono ?_
      intro e w6 hR
      rcases hR.cases with ⟨no, p, hm, rfl, hb⟩ | ⟨a6, s6, hm, rfl, hC, hK⟩
      · have HE : encB X.e r d s = .er no p := by simp only [encB, encE, hk, if_true, E5.out, hm, Rs.bind_ok, Rs.bind_er, if_true, if_false, Bool.false_eq_true, ite_true, ite_false]
        have HH := Lib.hid (And.intro HE hb)
        clear HE hb hm
        go_wp2_with fail
        refine panic_end rfl ?_
        rw [← HM.out, HH.out.1]
        exact ⟨rfl, HH.out.2⟩
      have E6 := Lib.hid hm
      have C6 := Lib.hid hC
      clear hm hC hK hR
      have HE : encB X.e r d s = .ok (Fo.one h5 k5) s6 := by simp only [encB, encE, hk, if_true, E5.out, E6.out, Rs.bind_ok, Rs.bind_er, if_true, if_false, Bool.false_eq_true, ite_true, ite_false]
      have HE := Lib.hid HE
      go_wp2_with fail
      go_ret
      rw [← HM.out, HE.out]
      exact ⟨v5, nk5, h5, k5, rfl, rfl, C6.out.at_, C6.out.kp, F5.out⟩
    · have hk1 := hk0
      have hne2 : s.nx.l ≠ [] := fun e => by
        simp only [pk, e, List.headD_nil, q_end C3.out.at_.fin] at hk
        simp [typeNo, wVoid, wInt, wLong, wChar] at hk
      go_wp2_with fail
      refine (c_next C3.out hne2).mono ?_
      rintro e w5 ⟨rfl, hC, hK⟩
      have C5 := Lib.hid hC
      clear hC hK
      go_wp2_with fail
      refine (c_must C5.out (by simp) [41] (by simp)).mono ?_
      intro e w6 hR
      rcases hR.cases with ⟨no, p, hm, rfl, hb⟩ | ⟨a6, s6, hm, rfl, hC, hK⟩
      · have HE : encB X.e r d s = .er no p := by simp only [encB, encE, hk, if_neg hk0, hm, Rs.bind_ok, Rs.bind_er, if_true, if_false, Bool.false_eq_true, ite_true, ite_false]
        have HH := Lib.hid (And.intro HE hb)
        clear HE hb hm
        go_wp2_with fail
        refine panic_end rfl ?_
        rw [← HM.out, HH.out.1]
        exact ⟨rfl, HH.out.2⟩
      have E6 := Lib.hid hm
      have C6 := Lib.hid hC
      clear hm hC hK hR
      have hno2 : r (.opd (d + 1)) s6 ≠ .out := by
        have := HO.out
        simp only [encB, hk, if_neg hk0, E6.out, Rs.bind_ok] at this
        exact ne_out this
      go_wp2_with fail
      rw [HCP.out]
      refine (hO (d + 1) w6 s6 ns v (by omega) C6.out.at_ hno2).mono ?_
      intro e w7 hR0
      have hR := (C6.out).rd hR0
      rcases hR.cases with ⟨no, p, hm, rfl, hb⟩ | ⟨h7, k7, s7, v7, nk7, hm, rfl, hC, hK, hF⟩
      · have HE : encB X.e r d s = .er no p := by simp only [encB, encE, hk, if_neg hk0, E6.out, hm, Rs.bind_ok, Rs.bind_er, if_true, if_false, Bool.false_eq_true, ite_true, ite_false]
        have HH := Lib.hid (And.intro HE hb)
        clear HE hb hm
        go_wp2_with fail
        refine panic_end rfl ?_
        rw [← HM.out, HH.out.1]
        exact ⟨rfl, HH.out.2⟩
      have E7 := Lib.hid hm
      have C7 := Lib.hid hC
      have F7 := Lib.hid hF
      clear hm hC hK hR hR0 hF
      go_wp2_with fail
      have hr7 := rk1 (k := k7) (h := h7) (c := ns.length)
      refine (c_add ((C7.out.alloc _)) ⟨6, t.p, 0, [], k, 0⟩ (Fo.one h7 k7) F7.out (fr1 C7.out) (kid1 C7.out _ _)).mono ?_
      have HE : encB X.e r d s = addM ⟨6, t.p, 0, [], k, 0⟩ (Fo.one h7 k7) s7 := by rw [← hpt]; simp only [encB, encE, hk, if_neg hk0, E6.out, E7.out, Rs.bind_ok, Rs.bind_er, if_true, if_false, Bool.false_eq_true, ite_true, ite_false]
      have HE := Lib.hid HE
      intro e w99 hR
      have HR := Lib.hid hR
      rcases hR.form with ⟨i, rfl⟩ | ⟨ch, rfl⟩
      · clear hR
        go_wp2_with fail
        go_ret
        rw [← HM.out, HE.out]
        exact HR.out
      · clear hR
        go_wp2_with fail
        refine panic_end rfl ?_
        rw [← HM.out, HE.out]
        exact HR.out
end Go.Proofs.YtfaoiajhoifalaaGreatDoor
