/-
  Layer parse: the walks of the functions that read operands: names.
-/
import Derived.Test.YtfaoiajhoifalaaGreatDoorPard
namespace Go.Proofs.YtfaoiajhoifalaaGreatDoor
open Go.RowKit
set_option linter.unusedVariables false
set_option linter.unusedSimpArgs false

/-- What element is known to do. -/
def KEl (X : Rdr) (r : Md → St → Rs Fo) : Prop := ∀ (f : Tok) (d : Nat) (w : World) (s : St) (ns : List NV) (v : Value), d ≤ 100 → At X w s ns v → elemB X.e r f d s ≠ .out →
  Calls Tryz.prog 201 #[rd X, tokV f, .int .i64 d] w (RT X w ns v (elemB X.e r f d s))

set_option maxHeartbeats 4000000 in
set_option maxRecDepth 100000 in
theorem variable_any {X : Rdr} {r : Md → St → Rs Fo} (hA : KAr X r) (hL : KEl X r) {w : World} {s : St} {ns : List NV} {v : Value} (h : At X w s ns v) (d : Nat) (hd : d ≤ 40) (hno : varB X.e r d s ≠ .out) :
    Calls Tryz.prog 197 #[rd X, .int .i64 d] w (RT X w ns v (varB X.e r d s)) := by
  have hC := Cur.start h
  obtain ⟨M, hM⟩ : ∃ M, varB X.e r d s = M := ⟨_, rfl⟩
  rw [hM]
  have HM := Lib.hid hM
  have HO := Lib.hid hno
  have C0 := Lib.hid hC
  clear hM h hC hno
  go_enter Tryz.func197, Tryz.ntmps197
  go_wp2_with fail
  refine (c_name C0.out).mono ?_
  intro e w1 hR
  rcases hR.cases with ⟨no, p, hm, rfl, hb⟩ | ⟨a1, s1, hm, rfl, hC, hK⟩
  · have HE : varB X.e r d s = .er no p := by simp only [varB, hm, Rs.bind_ok, Rs.bind_er, if_true, if_false, Bool.false_eq_true, ite_true, ite_false]
    have HH := Lib.hid (And.intro HE hb)
    clear HE hb hm
    go_wp2_with fail
    refine panic_end rfl ?_
    rw [← HM.out, HH.out.1]
    exact ⟨rfl, HH.out.2⟩
  have E1 := Lib.hid hm
  have C1 := Lib.hid hC
  clear hm hC hK hR
  rw [str_eta]
  go_wp2_with fail
  refine (c_peek (C1.out.alloc _)).mono ?_
  rintro e w2 ⟨rfl, hC, hK⟩
  have C2 := Lib.hid hC
  have N2 := Lib.hid ((C1.out.new tE (tokA a1)).kept hK)
  clear hC hK
  go_wp2_with fail
  refine (c_quoted C2.out _).mono ?_
  rintro e w3 ⟨rfl, hC, hK⟩
  have C3 := Lib.hid hC
  have N3 := Lib.hid ((N2.out).kept hK)
  obtain ⟨Nc0, Nc1, Nc2, Nc3, Ncl⟩ := (N3.out).blk.tok
  clear hC hK
  have hcp : ((d : Int) + 1) = ((d + 1 : Nat) : Int) := by simp
  have hEq : varB X.e r d s = if q (pk X.e s1) = [40] then callB X.e r a1 (d + 1) s1 else if q (pk X.e s1) = [91] then elemB X.e r a1 (d + 1) s1 else addM ⟨2, a1.p, 0, a1.s, 0, 0⟩ .nil s1 := by simp only [varB, E1.out, Rs.bind_ok]
  generalize pk X.e s1 = t at *
  have HCP := Lib.hid hcp
  clear hcp
  by_cases hq : q t = [40]
  · rw [if_pos hq] at hEq
    have HE := Lib.hid hEq
    clear hEq
    rw [hq]
    go_wp2_with fail
    rw [HCP.out]
    rw [← str_eta]
    refine (call_any hA C3.out.at_ a1 (d + 1) (by omega) (by have := HO.out; rw [HE.out] at this; exact this)).mono ?_
    intro e w99 hR0
    have hR : RT X w ns v (callB X.e r a1 (d + 1) s1) e w99 := rt_of C3.out hR0
    have HR := Lib.hid hR
    rcases hR.form with ⟨i, rfl⟩ | ⟨ch, rfl⟩
    · clear hR
      go_wp2_with fail
      go_ret
      rw [← HM.out, HE.out]
      exact HR.out
    · clear hR
      go_wp2_with fail
      refine panic_end rfl ?_
      rw [← HM.out, HE.out]
      exact HR.out
  by_cases hq2 : q t = [91]
  · rw [if_neg hq, if_pos hq2] at hEq
    have HE := Lib.hid hEq
    clear hEq
    rw [hq2]
    go_wp2_with fail
    rw [HCP.out]
    rw [← str_eta]
    refine (hL a1 (d + 1) w3 s1 ns v (by omega) C3.out.at_ (by have := HO.out; rw [HE.out] at this; exact this)).mono ?_
    intro e w99 hR0
    have hR : RT X w ns v (elemB X.e r a1 (d + 1) s1) e w99 := rt_of C3.out hR0
    have HR := Lib.hid hR
    rcases hR.form with ⟨i, rfl⟩ | ⟨ch, rfl⟩
    · clear hR
      go_wp2_with fail
      go_ret
      rw [← HM.out, HE.out]
      exact HR.out
    · clear hR
      go_wp2_with fail
      refine panic_end rfl ?_
      rw [← HM.out, HE.out]
      exact HR.out
  rw [if_neg hq, if_neg hq2] at hEq
  have HE := Lib.hid hEq
  clear hEq
  have hq3 : (q t == [40]) = false := by simpa using hq
  have hq4 : (q t == [91]) = false := by simpa using hq2
  go_wp2_with fail
  refine (c_leaf C3.out ⟨2, a1.p, 0, a1.s, 0, 0⟩).mono ?_
  intro e w99 hR
  have HR := Lib.hid hR
  rcases hR.form with ⟨i, rfl⟩ | ⟨ch, rfl⟩
  · clear hR
    go_wp2_with fail
    go_ret
    rw [← HM.out, HE.out]
    exact HR.out
  · clear hR
    go_wp2_with fail
    refine panic_end rfl ?_
    rw [← HM.out, HE.out]
    exact HR.out
end Go.Proofs.YtfaoiajhoifalaaGreatDoor
