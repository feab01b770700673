/-
  Layer parse: the walks of the functions that read statements: simple ones.
-/
import Derived.Test.YtfaoiajhoifalaaGreatDoorParj
namespace Go.Proofs.YtfaoiajhoifalaaGreatDoor
open Go.RowKit
set_option linter.unusedVariables false
set_option linter.unusedSimpArgs false

theorem kid1H {X : Rdr} {w W : World} {v u : Value} {s : St} {ns : List NV} (h : Cur X w v W s ns u) (hh : Hd) (k : Fo) {c H : Nat} (hH : W.heap.size = H) : (W.alloc (.cells #[.int .i64 (c + k.size : Nat)] tI)).ownsRow X.base tI 1 (.slice (some ⟨H, 0, none⟩) 1 1) ((Fo.one hh k).roots c).length (kidCells ((Fo.one hh k).roots c)) := by
  subst hH
  exact kid1 h hh k

set_option maxHeartbeats 4000000 in
set_option maxRecDepth 100000 in
theorem jump_any {X : Rdr}  {w : World} {s : St} {ns : List NV} {v : Value} (h : At X w s ns v) (d : Nat) (hd : d ≤ 40) (hne : s.l ≠ []) :
    Calls Tryz.prog 113 #[rd X, .int .i64 d] w (RT X w ns v (gotoB X.e d s)) := by
  have hC := Cur.start h
  obtain ⟨M, hM⟩ : ∃ M, gotoB X.e d s = M := ⟨_, rfl⟩
  rw [hM]
  have HM := Lib.hid hM

  have C0 := Lib.hid hC
  clear hM h hC
  have hfl := fun t W => fld_p t W
  have hfs := fun t W => fld_s t W
  go_enter Tryz.func113, Tryz.ntmps113
  go_wp2_with fail
  refine (c_next C0.out hne).mono ?_
  rintro e w1 ⟨rfl, hC, hK⟩
  have C1 := Lib.hid hC
  clear hC hK
  rw [str_eta]
  generalize hpt : pk X.e s = t
  have hwl : w.heap.size ≤ w1.heap.size := C1.out.kp.size
  have N1 := Lib.hid (C1.out.new tN (cells8 ⟨⟨17, t.p, 0, [], 0, 0⟩, [], .slice none 0 0⟩).toArray)
  go_wp2_with fail
  refine (c_name (C1.out.alloc _)).mono ?_
  intro e w2 hR
  rcases hR.cases with ⟨no, p, hm, rfl, hb⟩ | ⟨a2, s2, hm, rfl, hC, hK⟩
  · have HE : gotoB X.e d s = .er no p := by first | (simp only [gotoB, hm, Rs.bind_ok, Rs.bind_er, if_true, if_false, Bool.false_eq_true, ite_true, ite_false]; done) | (simp only [gotoB, must2_er hm, Rs.bind_ok, Rs.bind_er, if_true, if_false, Bool.false_eq_true, ite_true, ite_false])
    have HH := Lib.hid (And.intro HE hb)
    clear HE hb hm
    go_wp2_with fail
    refine panic_end rfl ?_
    rw [← HM.out, HH.out.1]
    exact ⟨rfl, HH.out.2⟩
  have E2 := Lib.hid hm
  have C2 := Lib.hid hC
  have N2 := Lib.hid ((N1.out).kept hK)
  clear hm hC hK hR
  rw [str_eta]
  obtain ⟨-, -, -, Nc3, -, -, -, -, Ncl, -⟩ := N2.out.blk.node
  have Nf := N2.out.blk.thawed 3
  have C2s := Lib.hid (C2.out.set_ N2.out hwl (by decide) 3 (.string (str a2.s)))
  have N2s : Hid (Loc X (w2.setCell ⟨w1.heap.size, 3, none⟩ (.string (str a2.s))) v w1.heap.size tN (cells8 ⟨⟨17, t.p, 0, a2.s, 0, 0⟩, [], .slice none 0 0⟩).toArray) := Lib.hid (N2.out.set_ 3 (.string (str a2.s)))
  go_wp2_with fail
  refine (c_must C2s.out (by simp) [59] (by simp)).mono ?_
  intro e w3 hR
  rcases hR.cases with ⟨no, p, hm, rfl, hb⟩ | ⟨a3, s3, hm, rfl, hC, hK⟩
  · have HE : gotoB X.e d s = .er no p := by first | (simp only [gotoB, E2.out, hm, Rs.bind_ok, Rs.bind_er, if_true, if_false, Bool.false_eq_true, ite_true, ite_false]; done) | (simp only [gotoB, E2.out, must2_er hm, Rs.bind_ok, Rs.bind_er, if_true, if_false, Bool.false_eq_true, ite_true, ite_false])
    have HH := Lib.hid (And.intro HE hb)
    clear HE hb hm
    go_wp2_with fail
    refine panic_end rfl ?_
    rw [← HM.out, HH.out.1]
    exact ⟨rfl, HH.out.2⟩
  have E3 := Lib.hid hm
  have C3 := Lib.hid hC
  have N3 := Lib.hid ((N2s.out).kept hK)
  clear hm hC hK hR
  obtain ⟨n0, n1, n2, n3, n4, n5, n6, n7, nl, -⟩ := N3.out.blk.node
  go_wp2_with fail
  have HEE : gotoB X.e d s = addM ⟨17, t.p, 0, a2.s, 0, 0⟩ .nil s3 := by rw [← hpt]; simp only [gotoB, E2.out, E3.out, Rs.bind_ok, Rs.bind_er, if_true, if_false, Bool.false_eq_true, ite_true, ite_false]
  have HE := Lib.hid HEE
  clear HEE
  refine (c_leaf C3.out ⟨17, t.p, 0, a2.s, 0, 0⟩).mono ?_
  intro e w99 hR
  have HR := Lib.hid hR
  rcases hR.form with ⟨i, rfl⟩ | ⟨ch, rfl⟩
  · clear hR
    go_wp2_with fail
    go_ret
    rw [← HM.out, HE.out]
    exact HR.out
  · clear hR
    go_wp2_with fail
    refine panic_end rfl ?_
    rw [← HM.out, HE.out]
    exact HR.out

set_option maxHeartbeats 4000000 in
set_option maxRecDepth 100000 in
theorem output_any {X : Rdr} {r : Md → St → Rs Fo} (hX : KEx X r) {w : World} {s : St} {ns : List NV} {v : Value} (h : At X w s ns v) (d : Nat) (hd : d ≤ 40) (hne : s.l ≠ []) (hno : outB X.e r d s ≠ .out) :
    Calls Tryz.prog 115 #[rd X, .int .i64 d] w (RT X w ns v (outB X.e r d s)) := by
  have hC := Cur.start h
  obtain ⟨M, hM⟩ : ∃ M, outB X.e r d s = M := ⟨_, rfl⟩
  rw [hM]
  have HM := Lib.hid hM
  have HO := Lib.hid hno
  have C0 := Lib.hid hC
  clear hM h hC hno
  have hfl := fun t W => fld_p t W
  have hfs := fun t W => fld_s t W
  go_enter Tryz.func115, Tryz.ntmps115
  go_wp2_with fail
  refine (c_next C0.out hne).mono ?_
  rintro e w1 ⟨rfl, hC, hK⟩
  have C1 := Lib.hid hC
  clear hC hK
  rw [str_eta]
  generalize hpt : pk X.e s = t
  have hwl : w.heap.size ≤ w1.heap.size := C1.out.kp.size
  have N1 := Lib.hid (C1.out.new tN (cells8 ⟨⟨20, t.p, 0, [], 0, 0⟩, [], .slice none 0 0⟩).toArray)
  go_wp2_with fail
  have HCP : Hid (((d : Int) + 1) = ((d + 1 : Nat) : Int)) := Lib.hid (by simp)
  refine (c_must (C1.out.alloc _) (by simp) [40] (by simp)).mono ?_
  intro e w2 hR
  rcases hR.cases with ⟨no, p, hm, rfl, hb⟩ | ⟨a2, s2, hm, rfl, hC, hK⟩
  · have HE : outB X.e r d s = .er no p := by first | (simp only [outB, hm, Rs.bind_ok, Rs.bind_er, if_true, if_false, Bool.false_eq_true, ite_true, ite_false]; done) | (simp only [outB, must2_er hm, Rs.bind_ok, Rs.bind_er, if_true, if_false, Bool.false_eq_true, ite_true, ite_false])
    have HH := Lib.hid (And.intro HE hb)
    clear HE hb hm
    go_wp2_with fail
    refine panic_end rfl ?_
    rw [← HM.out, HH.out.1]
    exact ⟨rfl, HH.out.2⟩
  have E2 := Lib.hid hm
  have C2 := Lib.hid hC
  have N2 := Lib.hid ((N1.out).kept hK)
  clear hm hC hK hR
  have hno2 : r (.bin (d + 1) 1) s2 ≠ .out := by
    have := HO.out
    simp only [outB, E2.out, Rs.bind_ok, Rs.bind_er, if_true, if_false, Bool.false_eq_true, ite_true, ite_false] at this
    exact ne_out this
  go_wp2_with fail
  rw [HCP.out]
  refine (hX (d + 1) w2 s2 ns v (by omega) C2.out.at_ hno2).mono ?_
  intro e w3 hR0
  have hR := (C2.out).rd hR0
  rcases hR.cases with ⟨no, p, hm, rfl, hb⟩ | ⟨h3, k3, s3, v3, nk3, hm, rfl, hC, hK, hF⟩
  · have HE : outB X.e r d s = .er no p := by first | (simp only [outB, E2.out, hm, Rs.bind_ok, Rs.bind_er, if_true, if_false, Bool.false_eq_true, ite_true, ite_false]; done) | (simp only [outB, E2.out, must2_er hm, Rs.bind_ok, Rs.bind_er, if_true, if_false, Bool.false_eq_true, ite_true, ite_false])
    have HH := Lib.hid (And.intro HE hb)
    clear HE hb hm
    go_wp2_with fail
    refine panic_end rfl ?_
    rw [← HM.out, HH.out.1]
    exact ⟨rfl, HH.out.2⟩
  have E3 := Lib.hid hm
  have C3 := Lib.hid hC
  have F3 := Lib.hid hF
  have N3 := Lib.hid ((N2.out).kept hK)
  clear hm hC hK hR hR0 hF
  obtain ⟨-, -, -, -, -, Nc5, -, -, Ncl, Ncf⟩ := N3.out.blk.node
  have C3s := Lib.hid ((C3.out.set_ N3.out hwl (by decide) 5 (.slice (some ⟨w3.heap.size, 0, none⟩) 1 1)).alloc (.cells #[.int .i64 (ns.length + k3.size : Nat)] tI))
  have N3s : Hid (Loc X ((w3.setCell ⟨w1.heap.size, 5, none⟩ (.slice (some ⟨w3.heap.size, 0, none⟩) 1 1)).alloc (.cells #[.int .i64 (ns.length + k3.size : Nat)] tI)) v3 w1.heap.size tN (cells8 ⟨⟨20, t.p, 0, [], 0, 0⟩, [ns.length + k3.size], .slice (some ⟨w3.heap.size, 0, none⟩) 1 1⟩).toArray) := Lib.hid ((N3.out.set_ 5 (.slice (some ⟨w3.heap.size, 0, none⟩) 1 1)).alloc (.cells #[.int .i64 (ns.length + k3.size : Nat)] tI))
  have K3s := Lib.hid (kid1H (C3.out.set_ N3.out hwl (by decide) 5 (.slice (some ⟨w3.heap.size, 0, none⟩) 1 1)) h3 k3 (c := ns.length) (H := w3.heap.size) (by simp))
  go_wp2_with fail
  refine (c_must2 C3s.out (by simp) [41] [59] (by simp) (by simp)).mono ?_
  intro e w4 hR
  rcases hR.cases with ⟨no, p, hm, rfl, hb⟩ | ⟨a4, s4, hm, rfl, hC, hK⟩
  · have HE : outB X.e r d s = .er no p := by first | (simp only [outB, E2.out, E3.out, hm, Rs.bind_ok, Rs.bind_er, if_true, if_false, Bool.false_eq_true, ite_true, ite_false]; done) | (simp only [outB, E2.out, E3.out, must2_er hm, Rs.bind_ok, Rs.bind_er, if_true, if_false, Bool.false_eq_true, ite_true, ite_false])
    have HH := Lib.hid (And.intro HE hb)
    clear HE hb hm
    go_wp2_with fail
    refine panic_end rfl ?_
    rw [← HM.out, HH.out.1]
    exact ⟨rfl, HH.out.2⟩
  have E4 := Lib.hid hm
  have C4 := Lib.hid hC
  have N4 := Lib.hid ((N3s.out).kept hK)
  have K4 := Lib.hid (kid_kept (C3s.out).at_ K3s.out hK)
  clear hm hC hK hR
  obtain ⟨n0, n1, n2, n3, n4, n5, n6, n7, nl, -⟩ := N4.out.blk.node
  go_wp2_with fail
  have hfr : ∀ g, (Value.slice (some ⟨w3.heap.size, 0, none⟩) 1 1).ownBlock = some g → w.heap.size ≤ g := fr1 C3.out
  have HEE : outB X.e r d s = addM ⟨20, t.p, 0, [], 0, 0⟩ (Fo.one h3 k3) s4 := by rw [← hpt]; simp only [outB, E2.out, E3.out, must2_ok E4.out, Rs.bind_ok, Rs.bind_er, if_true, if_false, Bool.false_eq_true, ite_true, ite_false]
  have HE := Lib.hid HEE
  clear HEE
  refine (c_add C4.out ⟨20, t.p, 0, [], 0, 0⟩ (Fo.one h3 k3) F3.out hfr K4.out).mono ?_
  intro e w99 hR
  have HR := Lib.hid hR
  rcases hR.form with ⟨i, rfl⟩ | ⟨ch, rfl⟩
  · clear hR
    go_wp2_with fail
    go_ret
    rw [← HM.out, HE.out]
    exact HR.out
  · clear hR
    go_wp2_with fail
    refine panic_end rfl ?_
    rw [← HM.out, HE.out]
    exact HR.out

set_option maxHeartbeats 4000000 in
set_option maxRecDepth 100000 in
theorem leave_any {X : Rdr} {r : Md → St → Rs Fo} (hX : KEx X r) {w : World} {s : St} {ns : List NV} {v : Value} (h : At X w s ns v) (d : Nat) (hd : d ≤ 40) (hne : s.l ≠ []) (hno : retB X.e r d s ≠ .out) :
    Calls Tryz.prog 114 #[rd X, .int .i64 d] w (RT X w ns v (retB X.e r d s)) := by
  have hC := Cur.start h
  obtain ⟨M, hM⟩ : ∃ M, retB X.e r d s = M := ⟨_, rfl⟩
  rw [hM]
  have HM := Lib.hid hM
  have HO := Lib.hid hno
  have C0 := Lib.hid hC
  clear hM h hC hno
  have hfl := fun t W => fld_p t W
  have hfs := fun t W => fld_s t W
  go_enter Tryz.func114, Tryz.ntmps114
  go_wp2_with fail
  refine (c_next C0.out hne).mono ?_
  rintro e w1 ⟨rfl, hC, hK⟩
  have C1 := Lib.hid hC
  clear hC hK
  rw [str_eta]
  generalize hpt : pk X.e s = t
  have hwl : w.heap.size ≤ w1.heap.size := C1.out.kp.size
  have N1 := Lib.hid (C1.out.new tN (cells8 ⟨⟨19, t.p, 0, [], 0, 0⟩, [], .slice none 0 0⟩).toArray)
  go_wp2_with fail
  have HCP : Hid (((d : Int) + 1) = ((d + 1 : Nat) : Int)) := Lib.hid (by simp)
  refine (c_is (C1.out.alloc _) [59]).mono ?_
  rintro e w2 ⟨rfl, hC, hK⟩
  have C2 := Lib.hid hC
  have N2 := Lib.hid ((N1.out).kept hK)
  clear hC hK
  cases hq : isT X.e [59] s.nx
  · have hq0 := hq
    have hno2 : r (.bin (d + 1) 1) s.nx ≠ .out := by
      have := HO.out
      simp only [retB, hq, Rs.bind_ok, Rs.bind_er, if_true, if_false, Bool.false_eq_true, ite_true, ite_false] at this
      exact ne_out this
    go_wp2_with fail
    rw [HCP.out]
    refine (hX (d + 1) w2 s.nx ns v (by omega) C2.out.at_ hno2).mono ?_
    intro e w3 hR0
    have hR := (C2.out).rd hR0
    rcases hR.cases with ⟨no, p, hm, rfl, hb⟩ | ⟨h3, k3, s3, v3, nk3, hm, rfl, hC, hK, hF⟩
    · have HE : retB X.e r d s = .er no p := by first | (simp only [retB, hq, hm, Rs.bind_ok, Rs.bind_er, if_true, if_false, Bool.false_eq_true, ite_true, ite_false]; done) | (simp only [retB, hq, must2_er hm, Rs.bind_ok, Rs.bind_er, if_true, if_false, Bool.false_eq_true, ite_true, ite_false])
      have HH := Lib.hid (And.intro HE hb)
      clear HE hb hm
      go_wp2_with fail
      refine panic_end rfl ?_
      rw [← HM.out, HH.out.1]
      exact ⟨rfl, HH.out.2⟩
    have E3 := Lib.hid hm
    have C3 := Lib.hid hC
    have F3 := Lib.hid hF
    have N3 := Lib.hid ((N2.out).kept hK)
    clear hm hC hK hR hR0 hF
    obtain ⟨-, -, -, -, -, Nc5, -, -, Ncl, Ncf⟩ := N3.out.blk.node
    have C3s := Lib.hid ((C3.out.set_ N3.out hwl (by decide) 5 (.slice (some ⟨w3.heap.size, 0, none⟩) 1 1)).alloc (.cells #[.int .i64 (ns.length + k3.size : Nat)] tI))
    have N3s : Hid (Loc X ((w3.setCell ⟨w1.heap.size, 5, none⟩ (.slice (some ⟨w3.heap.size, 0, none⟩) 1 1)).alloc (.cells #[.int .i64 (ns.length + k3.size : Nat)] tI)) v3 w1.heap.size tN (cells8 ⟨⟨19, t.p, 0, [], 0, 0⟩, [ns.length + k3.size], .slice (some ⟨w3.heap.size, 0, none⟩) 1 1⟩).toArray) := Lib.hid ((N3.out.set_ 5 (.slice (some ⟨w3.heap.size, 0, none⟩) 1 1)).alloc (.cells #[.int .i64 (ns.length + k3.size : Nat)] tI))
    have K3s := Lib.hid (kid1H (C3.out.set_ N3.out hwl (by decide) 5 (.slice (some ⟨w3.heap.size, 0, none⟩) 1 1)) h3 k3 (c := ns.length) (H := w3.heap.size) (by simp))
    go_wp2_with fail
    refine (c_must C3s.out (by simp) [59] (by simp)).mono ?_
    intro e w4 hR
    rcases hR.cases with ⟨no, p, hm, rfl, hb⟩ | ⟨a4, s4, hm, rfl, hC, hK⟩
    · have HE : retB X.e r d s = .er no p := by first | (simp only [retB, hq, E3.out, hm, Rs.bind_ok, Rs.bind_er, if_true, if_false, Bool.false_eq_true, ite_true, ite_false]; done) | (simp only [retB, hq, E3.out, must2_er hm, Rs.bind_ok, Rs.bind_er, if_true, if_false, Bool.false_eq_true, ite_true, ite_false])
      have HH := Lib.hid (And.intro HE hb)
      clear HE hb hm
      go_wp2_with fail
      refine panic_end rfl ?_
      rw [← HM.out, HH.out.1]
      exact ⟨rfl, HH.out.2⟩
    have E4 := Lib.hid hm
    have C4 := Lib.hid hC
    have N4 := Lib.hid ((N3s.out).kept hK)
    have K4 := Lib.hid (kid_kept (C3s.out).at_ K3s.out hK)
    clear hm hC hK hR
    obtain ⟨n0, n1, n2, n3, n4, n5, n6, n7, nl, -⟩ := N4.out.blk.node
    go_wp2_with fail
    have hfr : ∀ g, (Value.slice (some ⟨w3.heap.size, 0, none⟩) 1 1).ownBlock = some g → w.heap.size ≤ g := fr1 C3.out
    have HEE : retB X.e r d s = addM ⟨19, t.p, 0, [], 0, 0⟩ (Fo.one h3 k3) s4 := by rw [← hpt]; simp only [retB, hq, E3.out, E4.out, Rs.bind_ok, Rs.bind_er, if_true, if_false, Bool.false_eq_true, ite_true, ite_false]
    have HE := Lib.hid HEE
    clear HEE
    refine (c_add C4.out ⟨19, t.p, 0, [], 0, 0⟩ (Fo.one h3 k3) F3.out hfr K4.out).mono ?_
    intro e w99 hR
    have HR := Lib.hid hR
    rcases hR.form with ⟨i, rfl⟩ | ⟨ch, rfl⟩
    · clear hR
      go_wp2_with fail
      go_ret
      rw [← HM.out, HE.out]
      exact HR.out
    · clear hR
      go_wp2_with fail
      refine panic_end rfl ?_
      rw [← HM.out, HE.out]
      exact HR.out
  · have hq0 := hq
    go_wp2_with fail
    refine (c_must C2.out rfl [59] (by simp)).mono ?_
    intro e w3 hR
    rcases hR.cases with ⟨no, p, hm, rfl, hb⟩ | ⟨a3, s3, hm, rfl, hC, hK⟩
    · have HE : retB X.e r d s = .er no p := by first | (simp only [retB, hq, hm, Rs.bind_ok, Rs.bind_er, if_true, if_false, Bool.false_eq_true, ite_true, ite_false]; done) | (simp only [retB, hq, must2_er hm, Rs.bind_ok, Rs.bind_er, if_true, if_false, Bool.false_eq_true, ite_true, ite_false])
      have HH := Lib.hid (And.intro HE hb)
      clear HE hb hm
      go_wp2_with fail
      refine panic_end rfl ?_
      rw [← HM.out, HH.out.1]
      exact ⟨rfl, HH.out.2⟩
    have E3 := Lib.hid hm
    have C3 := Lib.hid hC
    have N3 := Lib.hid ((N2.out).kept hK)
    clear hm hC hK hR
    obtain ⟨n0, n1, n2, n3, n4, n5, n6, n7, nl, -⟩ := N3.out.blk.node
    go_wp2_with fail
    have HEE : retB X.e r d s = addM ⟨19, t.p, 0, [], 0, 0⟩ .nil s3 := by rw [← hpt]; simp only [retB, hq, E3.out, Rs.bind_ok, Rs.bind_er, if_true, if_false, Bool.false_eq_true, ite_true, ite_false]
    have HE := Lib.hid HEE
    clear HEE
    refine (c_leaf C3.out ⟨19, t.p, 0, [], 0, 0⟩).mono ?_
    intro e w99 hR
    have HR := Lib.hid hR
    rcases hR.form with ⟨i, rfl⟩ | ⟨ch, rfl⟩
    · clear hR
      go_wp2_with fail
      go_ret
      rw [← HM.out, HE.out]
      exact HR.out
    · clear hR
      go_wp2_with fail
      refine panic_end rfl ?_
      rw [← HM.out, HE.out]
      exact HR.out

set_option maxHeartbeats 4000000 in
set_option maxRecDepth 100000 in
theorem local_any {X : Rdr} {r : Md → St → Rs Fo} (hX : KEx X r) {w : World} {s : St} {ns : List NV} {v : Value} (h : At X w s ns v) (d : Nat) (hd : d ≤ 40) (hno : localB X.e r d s ≠ .out) :
    Calls Tryz.prog 110 #[rd X, .int .i64 d] w (RT X w ns v (localB X.e r d s)) := by
  have hC := Cur.start h
  obtain ⟨M, hM⟩ : ∃ M, localB X.e r d s = M := ⟨_, rfl⟩
  rw [hM]
  have HM := Lib.hid hM
  have HO := Lib.hid hno
  have C0 := Lib.hid hC
  clear hM h hC hno
  have hfl := fun t W => fld_p t W
  have hfs := fun t W => fld_s t W
  have HCP : Hid (((d : Int) + 1) = ((d + 1 : Nat) : Int)) := Lib.hid (by simp)
  go_enter Tryz.func110, Tryz.ntmps110
  go_wp2_with fail
  refine (c_peek C0.out).mono ?_
  rintro e w1 ⟨rfl, hC, hK⟩
  have C1 := Lib.hid hC
  clear hC hK
  rw [str_eta]
  generalize hpt : pk X.e s = t
  have hwl : w.heap.size ≤ w1.heap.size := C1.out.kp.size
  have N1 := Lib.hid (C1.out.new tN (cells8 ⟨⟨12, t.p, 0, [], 0, 0⟩, [], .slice none 0 0⟩).toArray)
  go_wp2_with fail
  refine (c_typed2 (C1.out.alloc _) (by simp) 1 2).mono ?_
  intro e w2 hR
  rcases hR.cases with ⟨no, p, hm, rfl, hb⟩ | ⟨a2, s2, hm, rfl, hC, hK⟩
  · have HE : localB X.e r d s = .er no p := by first | (simp only [localB, hm, Rs.bind_ok, Rs.bind_er, if_true, if_false, Bool.false_eq_true, ite_true, ite_false]; done) | (simp only [localB, must2_er hm, Rs.bind_ok, Rs.bind_er, if_true, if_false, Bool.false_eq_true, ite_true, ite_false])
    have HH := Lib.hid (And.intro HE hb)
    clear HE hb hm
    go_wp2_with fail
    refine panic_end rfl ?_
    rw [← HM.out, HH.out.1]
    exact ⟨rfl, HH.out.2⟩
  have E2 := Lib.hid hm
  have C2 := Lib.hid hC
  have N2 := Lib.hid ((N1.out).kept hK)
  clear hm hC hK hR
  obtain ⟨-, -, -, -, Nc4, -, -, -, Ncl, -⟩ := N2.out.blk.node
  have Nf := N2.out.blk.thawed 4
  have C2s := Lib.hid (C2.out.set_ N2.out hwl (by decide) 4 (.int .i64 a2))
  have N2s : Hid (Loc X (w2.setCell ⟨w1.heap.size, 4, none⟩ (.int .i64 a2)) v w1.heap.size tN (cells8 ⟨⟨12, t.p, 0, [], a2, 0⟩, [], .slice none 0 0⟩).toArray) := Lib.hid (N2.out.set_ 4 (.int .i64 a2))
  go_wp2_with fail
  refine (c_name C2s.out).mono ?_
  intro e w3 hR
  rcases hR.cases with ⟨no, p, hm, rfl, hb⟩ | ⟨a3, s3, hm, rfl, hC, hK⟩
  · have HE : localB X.e r d s = .er no p := by first | (simp only [localB, E2.out, hm, Rs.bind_ok, Rs.bind_er, if_true, if_false, Bool.false_eq_true, ite_true, ite_false]; done) | (simp only [localB, E2.out, must2_er hm, Rs.bind_ok, Rs.bind_er, if_true, if_false, Bool.false_eq_true, ite_true, ite_false])
    have HH := Lib.hid (And.intro HE hb)
    clear HE hb hm
    go_wp2_with fail
    refine panic_end rfl ?_
    rw [← HM.out, HH.out.1]
    exact ⟨rfl, HH.out.2⟩
  have E3 := Lib.hid hm
  have C3 := Lib.hid hC
  have N3 := Lib.hid ((N2s.out).kept hK)
  clear hm hC hK hR
  rw [str_eta]
  obtain ⟨-, -, -, Nc3, -, -, -, -, Ncl, -⟩ := N3.out.blk.node
  have Nf := N3.out.blk.thawed 3
  have C3s := Lib.hid (C3.out.set_ N3.out hwl (by decide) 3 (.string (str a3.s)))
  have N3s : Hid (Loc X (w3.setCell ⟨w1.heap.size, 3, none⟩ (.string (str a3.s))) v w1.heap.size tN (cells8 ⟨⟨12, t.p, 0, a3.s, a2, 0⟩, [], .slice none 0 0⟩).toArray) := Lib.hid (N3.out.set_ 3 (.string (str a3.s)))
  go_wp2_with fail
  refine (c_must C3s.out (by simp) [61] (by simp)).mono ?_
  intro e w4 hR
  rcases hR.cases with ⟨no, p, hm, rfl, hb⟩ | ⟨a4, s4, hm, rfl, hC, hK⟩
  · have HE : localB X.e r d s = .er no p := by first | (simp only [localB, E2.out, E3.out, hm, Rs.bind_ok, Rs.bind_er, if_true, if_false, Bool.false_eq_true, ite_true, ite_false]; done) | (simp only [localB, E2.out, E3.out, must2_er hm, Rs.bind_ok, Rs.bind_er, if_true, if_false, Bool.false_eq_true, ite_true, ite_false])
    have HH := Lib.hid (And.intro HE hb)
    clear HE hb hm
    go_wp2_with fail
    refine panic_end rfl ?_
    rw [← HM.out, HH.out.1]
    exact ⟨rfl, HH.out.2⟩
  have E4 := Lib.hid hm
  have C4 := Lib.hid hC
  have N4 := Lib.hid ((N3s.out).kept hK)
  clear hm hC hK hR
  have hno2 : r (.bin (d + 1) 1) s4 ≠ .out := by
    have := HO.out
    simp only [localB, E2.out, E3.out, E4.out, Rs.bind_ok, Rs.bind_er, if_true, if_false, Bool.false_eq_true, ite_true, ite_false] at this
    exact ne_out this
  go_wp2_with fail
  rw [HCP.out]
  refine (hX (d + 1) w4 s4 ns v (by omega) C4.out.at_ hno2).mono ?_
  intro e w5 hR0
  have hR := (C4.out).rd hR0
  rcases hR.cases with ⟨no, p, hm, rfl, hb⟩ | ⟨h5, k5, s5, v5, nk5, hm, rfl, hC, hK, hF⟩
  · have HE : localB X.e r d s = .er no p := by first | (simp only [localB, E2.out, E3.out, E4.out, hm, Rs.bind_ok, Rs.bind_er, if_true, if_false, Bool.false_eq_true, ite_true, ite_false]; done) | (simp only [localB, E2.out, E3.out, E4.out, must2_er hm, Rs.bind_ok, Rs.bind_er, if_true, if_false, Bool.false_eq_true, ite_true, ite_false])
    have HH := Lib.hid (And.intro HE hb)
    clear HE hb hm
    go_wp2_with fail
    refine panic_end rfl ?_
    rw [← HM.out, HH.out.1]
    exact ⟨rfl, HH.out.2⟩
  have E5 := Lib.hid hm
  have C5 := Lib.hid hC
  have F5 := Lib.hid hF
  have N5 := Lib.hid ((N4.out).kept hK)
  clear hm hC hK hR hR0 hF
  obtain ⟨-, -, -, -, -, Nc5, -, -, Ncl, Ncf⟩ := N5.out.blk.node
  have C5s := Lib.hid ((C5.out.set_ N5.out hwl (by decide) 5 (.slice (some ⟨w5.heap.size, 0, none⟩) 1 1)).alloc (.cells #[.int .i64 (ns.length + k5.size : Nat)] tI))
  have N5s : Hid (Loc X ((w5.setCell ⟨w1.heap.size, 5, none⟩ (.slice (some ⟨w5.heap.size, 0, none⟩) 1 1)).alloc (.cells #[.int .i64 (ns.length + k5.size : Nat)] tI)) v5 w1.heap.size tN (cells8 ⟨⟨12, t.p, 0, a3.s, a2, 0⟩, [ns.length + k5.size], .slice (some ⟨w5.heap.size, 0, none⟩) 1 1⟩).toArray) := Lib.hid ((N5.out.set_ 5 (.slice (some ⟨w5.heap.size, 0, none⟩) 1 1)).alloc (.cells #[.int .i64 (ns.length + k5.size : Nat)] tI))
  have K5s := Lib.hid (kid1H (C5.out.set_ N5.out hwl (by decide) 5 (.slice (some ⟨w5.heap.size, 0, none⟩) 1 1)) h5 k5 (c := ns.length) (H := w5.heap.size) (by simp))
  go_wp2_with fail
  refine (c_must C5s.out (by simp) [59] (by simp)).mono ?_
  intro e w6 hR
  rcases hR.cases with ⟨no, p, hm, rfl, hb⟩ | ⟨a6, s6, hm, rfl, hC, hK⟩
  · have HE : localB X.e r d s = .er no p := by first | (simp only [localB, E2.out, E3.out, E4.out, E5.out, hm, Rs.bind_ok, Rs.bind_er, if_true, if_false, Bool.false_eq_true, ite_true, ite_false]; done) | (simp only [localB, E2.out, E3.out, E4.out, E5.out, must2_er hm, Rs.bind_ok, Rs.bind_er, if_true, if_false, Bool.false_eq_true, ite_true, ite_false])
    have HH := Lib.hid (And.intro HE hb)
    clear HE hb hm
    go_wp2_with fail
    refine panic_end rfl ?_
    rw [← HM.out, HH.out.1]
    exact ⟨rfl, HH.out.2⟩
  have E6 := Lib.hid hm
  have C6 := Lib.hid hC
  have N6 := Lib.hid ((N5s.out).kept hK)
  have K6 := Lib.hid (kid_kept (C5s.out).at_ K5s.out hK)
  clear hm hC hK hR
  obtain ⟨n0, n1, n2, n3, n4, n5, n6, n7, nl, -⟩ := N6.out.blk.node
  go_wp2_with fail
  have hfr : ∀ g, (Value.slice (some ⟨w5.heap.size, 0, none⟩) 1 1).ownBlock = some g → w.heap.size ≤ g := fr1 C5.out
  have HEE : localB X.e r d s = addM ⟨12, t.p, 0, a3.s, a2, 0⟩ (Fo.one h5 k5) s6 := by rw [← hpt]; simp only [localB, E2.out, E3.out, E4.out, E5.out, E6.out, Rs.bind_ok, Rs.bind_er, if_true, if_false, Bool.false_eq_true, ite_true, ite_false]
  have HE := Lib.hid HEE
  clear HEE
  refine (c_add C6.out ⟨12, t.p, 0, a3.s, a2, 0⟩ (Fo.one h5 k5) F5.out hfr K6.out).mono ?_
  intro e w99 hR
  have HR := Lib.hid hR
  rcases hR.form with ⟨i, rfl⟩ | ⟨ch, rfl⟩
  · clear hR
    go_wp2_with fail
    go_ret
    rw [← HM.out, HE.out]
    exact HR.out
  · clear hR
    go_wp2_with fail
    refine panic_end rfl ?_
    rw [← HM.out, HE.out]
    exact HR.out
end Go.Proofs.YtfaoiajhoifalaaGreatDoor
