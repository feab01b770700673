/-
  Layer parse: the walk of the function that reads an element.
-/
import Derived.Test.YtfaoiajhoifalaaGreatDoorPark
import Derived.Deep.RegionHeld2
namespace Go.Proofs.YtfaoiajhoifalaaGreatDoor
open Go.RowKit
set_option linter.unusedVariables false
set_option linter.unusedSimpArgs false

set_option maxHeartbeats 4000000 in
set_option maxRecDepth 100000 in
theorem element_any {X : Rdr} {r : Md → St → Rs Fo} (hX : KEx X r) {w : World} {s : St} {ns : List NV} {v : Value} (h : At X w s ns v) (f : Tok) (d : Nat) (hd : d ≤ 100) (hno : elemB X.e r f d s ≠ .out) :
    Calls Tryz.prog 201 #[rd X, tokV f, .int .i64 d] w (RT X w ns v (elemB X.e r f d s)) := by
  have hC := Cur.start h
  obtain ⟨M, hM⟩ : ∃ M, elemB X.e r f d s = M := ⟨_, rfl⟩
  rw [hM]
  have HM := Lib.hid hM
  have HO := Lib.hid hno
  have T0 := Lib.hid (hC.new tE (tokA f))
  have C0 := Lib.hid hC
  clear hM h hC hno
  rw [str_eta]
  go_enter Tryz.func201, Tryz.ntmps201
  go_wp2_with fail
  refine (c_must (C0.out.alloc _) (by simp) [91] (by simp)).mono ?_
  intro e w1 hR
  rcases hR.cases with ⟨no, p, hm, rfl, hb⟩ | ⟨a1, s1, hm, rfl, hC, hK⟩
  · have HE : elemB X.e r f d s = .er no p := by first | (simp only [elemB, hm, Rs.bind_ok, Rs.bind_er, if_true, if_false, Bool.false_eq_true, ite_true, ite_false]; done) | (simp only [elemB, must2_er hm, Rs.bind_ok, Rs.bind_er, if_true, if_false, Bool.false_eq_true, ite_true, ite_false])
    have HH := Lib.hid (And.intro HE hb)
    clear HE hb hm
    go_wp2_with fail
    refine panic_end rfl ?_
    rw [← HM.out, HH.out.1]
    exact ⟨rfl, HH.out.2⟩
  have E1 := Lib.hid hm
  have C1 := Lib.hid hC
  have T1 := Lib.hid ((T0.out).kept hK)
  obtain ⟨Tc0, Tc1, Tc2, Tc3, Tcl⟩ := (T1.out).blk.tok
  clear hm hC hK hR
  have hno2 : r (.bin d 1) s1 ≠ .out := by
    have := HO.out
    simp only [elemB, E1.out, Rs.bind_ok] at this
    exact ne_out this
  have hwl : w.heap.size ≤ w1.heap.size := C1.out.kp.size
  have hX2 := C1.out.tree fun W hW => hX d W s1 ns v hd hW hno2
  have hE2 := fun no p (hm : r (.bin d 1) s1 = .er no p) => (by simp only [elemB, E1.out, hm, Rs.bind_ok, Rs.bind_er] : elemB X.e r f d s = .er no p)
  have HX2 := Lib.hid hX2
  have HE2 := Lib.hid hE2
  clear hX2 hE2 hno2 hd
  go_wp2_with fail
  go_region_held2 (fun W => W.cell? ⟨w.heap.size, 1, none⟩ = some (.int .i64 f.p) ∧ W.cell? ⟨w.heap.size, 3, none⟩ = some (.string (str f.s)) ∧ w.heap.size < W.heap.size) (repeat (first | (with_reducible exact ⟨Tc1, Tc3, Tcl⟩) | (with_reducible exact ⟨T21, T23, T2l⟩) | (with_reducible refine ss_drew ?_) | (with_reducible refine ss_alloc ?_ _) | (with_reducible refine ss_set ?_ (by omega) _ _))) (first | (go_at_call 145; refine (HX2.out _ (by first | exact bd1 _ | exact bd2 _ _)).mono ?_; intro e w2 hR; rcases hR.cases with ⟨no, p, hm, rfl, hb⟩ | ⟨h2, k2, s2, v2, nk2, hm, rfl, hC, hK, hF⟩; (refine panic_end rfl ?_; rw [← HM.out, HE2.out no p hm]; exact ⟨rfl, hb⟩); generalize hn2 : ns.length + k2.size = n2; have HN := Lib.hid hn2; clear hn2; have C2 := Lib.hid hC; have F2 := Lib.hid hF; have E2 := Lib.hid hm; have T2 := (T1.out.go (by first | exact bd1 _ | exact bd2 _ _)).kept hK; obtain ⟨-, T21, -, T23, T2l⟩ := T2.blk.tok; (first | (have N2 := ((C1.out.new tN (cells8 nz).toArray).go (bd1 _)).kept hK; obtain ⟨⟨N20, N21, N22, N23, N24, N25, N26, N27⟩, ⟨M20, M21, M22, M23, M24, M25, M26, M27⟩, N2l⟩ := N2.blk.zero8; have HN2 := Lib.hid N2; clear N2) | skip); clear hR hm hC hF hK T2))
  · have hk := kid1 C2.out h2 k2 (c := ns.length)
    rw [HN.out] at hk
    have CX := Lib.hid ((C2.out.alloc (.cells #[.int .i64 (n2 : Nat)] tI)).alloc (.cells (cells8 ⟨⟨3, f.p, 0, f.s, 0, 0⟩, (Fo.one h2 k2).roots ns.length, .slice (some ⟨w2.heap.size, 0, none⟩) 1 1⟩).toArray tN))
    have NX := (C2.out.alloc (.cells #[.int .i64 (n2 : Nat)] tI)).new tN (cells8 ⟨⟨3, f.p, 0, f.s, 0, 0⟩, (Fo.one h2 k2).roots ns.length, .slice (some ⟨w2.heap.size, 0, none⟩) 1 1⟩).toArray
    rw [show (w2.alloc (.cells #[.int .i64 (n2 : Nat)] tI)).heap.size = w2.heap.size + 1 by simp] at NX
    have NX := Lib.hid NX
    have KX := Lib.hid (hk.alloc (.cells (cells8 ⟨⟨3, f.p, 0, f.s, 0, 0⟩, (Fo.one h2 k2).roots ns.length, .slice (some ⟨w2.heap.size, 0, none⟩) 1 1⟩).toArray tN))
    clear hk
    go_wp2_with fail
    refine (c_must CX.out (by simp) [93] (by simp)).mono ?_
    intro e w6 hR
    rcases hR.cases with ⟨no, p, hm, rfl, hb⟩ | ⟨a6, s6, hm, rfl, hC, hK⟩
    · have HE : elemB X.e r f d s = .er no p := by first | (simp only [elemB, E1.out, E2.out, hm, Rs.bind_ok, Rs.bind_er, if_true, if_false, Bool.false_eq_true, ite_true, ite_false]; done) | (simp only [elemB, E1.out, E2.out, must2_er hm, Rs.bind_ok, Rs.bind_er, if_true, if_false, Bool.false_eq_true, ite_true, ite_false])
      have HH := Lib.hid (And.intro HE hb)
      clear HE hb hm
      go_wp2_with fail
      refine panic_end rfl ?_
      rw [← HM.out, HH.out.1]
      exact ⟨rfl, HH.out.2⟩
    have E6 := Lib.hid hm
    have C6 := Lib.hid hC
    have N6 := Lib.hid (NX.out.kept hK)
    have K6 := Lib.hid (kid_kept CX.out.at_ KX.out hK)
    obtain ⟨n0, n1, nn2, n3, n4, n5, n6, n7, nl, -⟩ := N6.out.blk.node
    clear hm hC hK hR
    go_wp2_with fail
    have hfr : ∀ g, (Value.slice (some ⟨w2.heap.size, 0, none⟩) 1 1).ownBlock = some g → w.heap.size ≤ g := fun g hg => by
      simp [Value.ownBlock] at hg
      have := C2.out.kp.size
      omega
    have HEE : elemB X.e r f d s = addM ⟨3, f.p, 0, f.s, 0, 0⟩ (Fo.one h2 k2) s6 := by simp only [elemB, E1.out, E2.out, E6.out, Rs.bind_ok, Rs.bind_er, if_true, if_false, Bool.false_eq_true, ite_true, ite_false]
    have HE := Lib.hid HEE
    clear HEE
    refine (c_add C6.out ⟨3, f.p, 0, f.s, 0, 0⟩ (Fo.one h2 k2) F2.out hfr K6.out).mono ?_
    intro e w99 hR
    have HR := Lib.hid hR
    rcases hR.form with ⟨i, rfl⟩ | ⟨ch, rfl⟩
    · clear hR
      go_wp2_with fail
      go_ret
      rw [← HM.out, HE.out]
      exact HR.out
    · clear hR
      go_wp2_with fail
      refine panic_end rfl ?_
      rw [← HM.out, HE.out]
      exact HR.out
  · have hk := kid1H (C2.out.alloc (.cells (cells8 ⟨⟨3, f.p, 0, f.s, 0, 0⟩, (Fo.one h2 k2).roots ns.length, .slice (some ⟨w2.heap.size + 1, 0, none⟩) 1 1⟩).toArray tN)) h2 k2 (c := ns.length) (H := w2.heap.size + 1) (by simp)
    rw [HN.out] at hk
    have CX := Lib.hid ((C2.out.alloc (.cells (cells8 ⟨⟨3, f.p, 0, f.s, 0, 0⟩, (Fo.one h2 k2).roots ns.length, .slice (some ⟨w2.heap.size + 1, 0, none⟩) 1 1⟩).toArray tN)).alloc (.cells #[.int .i64 (n2 : Nat)] tI))
    have NX := Lib.hid ((C2.out.new tN (cells8 ⟨⟨3, f.p, 0, f.s, 0, 0⟩, (Fo.one h2 k2).roots ns.length, .slice (some ⟨w2.heap.size + 1, 0, none⟩) 1 1⟩).toArray).alloc (.cells #[.int .i64 (n2 : Nat)] tI))
    have KX := Lib.hid hk
    clear hk
    go_wp2_with fail
    refine (c_must CX.out (by simp) [93] (by simp)).mono ?_
    intro e w6 hR
    rcases hR.cases with ⟨no, p, hm, rfl, hb⟩ | ⟨a6, s6, hm, rfl, hC, hK⟩
    · have HE : elemB X.e r f d s = .er no p := by first | (simp only [elemB, E1.out, E2.out, hm, Rs.bind_ok, Rs.bind_er, if_true, if_false, Bool.false_eq_true, ite_true, ite_false]; done) | (simp only [elemB, E1.out, E2.out, must2_er hm, Rs.bind_ok, Rs.bind_er, if_true, if_false, Bool.false_eq_true, ite_true, ite_false])
      have HH := Lib.hid (And.intro HE hb)
      clear HE hb hm
      go_wp2_with fail
      refine panic_end rfl ?_
      rw [← HM.out, HH.out.1]
      exact ⟨rfl, HH.out.2⟩
    have E6 := Lib.hid hm
    have C6 := Lib.hid hC
    have N6 := Lib.hid (NX.out.kept hK)
    have K6 := Lib.hid (kid_kept CX.out.at_ KX.out hK)
    obtain ⟨n0, n1, nn2, n3, n4, n5, n6, n7, nl, -⟩ := N6.out.blk.node
    clear hm hC hK hR
    go_wp2_with fail
    have hfr : ∀ g, (Value.slice (some ⟨w2.heap.size + 1, 0, none⟩) 1 1).ownBlock = some g → w.heap.size ≤ g := fun g hg => by
      simp [Value.ownBlock] at hg
      have := C2.out.kp.size
      omega
    have HEE : elemB X.e r f d s = addM ⟨3, f.p, 0, f.s, 0, 0⟩ (Fo.one h2 k2) s6 := by simp only [elemB, E1.out, E2.out, E6.out, Rs.bind_ok, Rs.bind_er, if_true, if_false, Bool.false_eq_true, ite_true, ite_false]
    have HE := Lib.hid HEE
    clear HEE
    refine (c_add C6.out ⟨3, f.p, 0, f.s, 0, 0⟩ (Fo.one h2 k2) F2.out hfr K6.out).mono ?_
    intro e w99 hR
    have HR := Lib.hid hR
    rcases hR.form with ⟨i, rfl⟩ | ⟨ch, rfl⟩
    · clear hR
      go_wp2_with fail
      go_ret
      rw [← HM.out, HE.out]
      exact HR.out
    · clear hR
      go_wp2_with fail
      refine panic_end rfl ?_
      rw [← HM.out, HE.out]
      exact HR.out
  · have c8 := ((((((((C2.out.set_ HN2.out hwl (by decide) 0 (.int .i64 3)).set_ (HN2.out.set_ 0 (.int .i64 3)) hwl (by decide) 1 (.int .i64 f.p)).set_ ((HN2.out.set_ 0 (.int .i64 3)).set_ 1 (.int .i64 f.p)) hwl (by decide) 2 (.int .i64 0)).set_ (((HN2.out.set_ 0 (.int .i64 3)).set_ 1 (.int .i64 f.p)).set_ 2 (.int .i64 0)) hwl (by decide) 3 (.string (str f.s))).set_ ((((HN2.out.set_ 0 (.int .i64 3)).set_ 1 (.int .i64 f.p)).set_ 2 (.int .i64 0)).set_ 3 (.string (str f.s))) hwl (by decide) 4 (.int .i64 0)).set_ (((((HN2.out.set_ 0 (.int .i64 3)).set_ 1 (.int .i64 f.p)).set_ 2 (.int .i64 0)).set_ 3 (.string (str f.s))).set_ 4 (.int .i64 0)) hwl (by decide) 5 (.slice (some ⟨w2.heap.size, 0, none⟩) 1 1)).set_ ((((((HN2.out.set_ 0 (.int .i64 3)).set_ 1 (.int .i64 f.p)).set_ 2 (.int .i64 0)).set_ 3 (.string (str f.s))).set_ 4 (.int .i64 0)).set_ 5 (.slice (some ⟨w2.heap.size, 0, none⟩) 1 1)) hwl (by decide) 6 (.int .i64 0)).set_ (((((((HN2.out.set_ 0 (.int .i64 3)).set_ 1 (.int .i64 f.p)).set_ 2 (.int .i64 0)).set_ 3 (.string (str f.s))).set_ 4 (.int .i64 0)).set_ 5 (.slice (some ⟨w2.heap.size, 0, none⟩) 1 1)).set_ 6 (.int .i64 0)) hwl (by decide) 7 (.int .i64 0))
    have hk := kid1H c8 h2 k2 (c := ns.length) (H := w2.heap.size) (by simp)
    rw [HN.out] at hk
    have CX := Lib.hid (c8.alloc (.cells #[.int .i64 (n2 : Nat)] tI))
    have n8 : Loc X ((((((((w2.setCell ⟨w1.heap.size, 0, none⟩ (.int .i64 3)).setCell ⟨w1.heap.size, 1, none⟩ (.int .i64 f.p)).setCell ⟨w1.heap.size, 2, none⟩ (.int .i64 0)).setCell ⟨w1.heap.size, 3, none⟩ (.string (str f.s))).setCell ⟨w1.heap.size, 4, none⟩ (.int .i64 0)).setCell ⟨w1.heap.size, 5, none⟩ (.slice (some ⟨w2.heap.size, 0, none⟩) 1 1)).setCell ⟨w1.heap.size, 6, none⟩ (.int .i64 0)).setCell ⟨w1.heap.size, 7, none⟩ (.int .i64 0)) v2 w1.heap.size tN (cells8 ⟨⟨3, f.p, 0, f.s, 0, 0⟩, (Fo.one h2 k2).roots ns.length, .slice (some ⟨w2.heap.size, 0, none⟩) 1 1⟩).toArray := ((((((((HN2.out.set_ 0 (.int .i64 3)).set_ 1 (.int .i64 f.p)).set_ 2 (.int .i64 0)).set_ 3 (.string (str f.s))).set_ 4 (.int .i64 0)).set_ 5 (.slice (some ⟨w2.heap.size, 0, none⟩) 1 1)).set_ 6 (.int .i64 0)).set_ 7 (.int .i64 0))
    have NX := Lib.hid (n8.alloc (.cells #[.int .i64 (n2 : Nat)] tI))
    have KX := Lib.hid hk
    clear c8 n8
    clear hk
    go_wp2_with fail
    refine (c_must CX.out (by simp) [93] (by simp)).mono ?_
    intro e w6 hR
    rcases hR.cases with ⟨no, p, hm, rfl, hb⟩ | ⟨a6, s6, hm, rfl, hC, hK⟩
    · have HE : elemB X.e r f d s = .er no p := by first | (simp only [elemB, E1.out, E2.out, hm, Rs.bind_ok, Rs.bind_er, if_true, if_false, Bool.false_eq_true, ite_true, ite_false]; done) | (simp only [elemB, E1.out, E2.out, must2_er hm, Rs.bind_ok, Rs.bind_er, if_true, if_false, Bool.false_eq_true, ite_true, ite_false])
      have HH := Lib.hid (And.intro HE hb)
      clear HE hb hm
      go_wp2_with fail
      refine panic_end rfl ?_
      rw [← HM.out, HH.out.1]
      exact ⟨rfl, HH.out.2⟩
    have E6 := Lib.hid hm
    have C6 := Lib.hid hC
    have N6 := Lib.hid (NX.out.kept hK)
    have K6 := Lib.hid (kid_kept CX.out.at_ KX.out hK)
    obtain ⟨n0, n1, nn2, n3, n4, n5, n6, n7, nl, -⟩ := N6.out.blk.node
    clear hm hC hK hR
    go_wp2_with fail
    have hfr : ∀ g, (Value.slice (some ⟨w2.heap.size, 0, none⟩) 1 1).ownBlock = some g → w.heap.size ≤ g := fun g hg => by
      simp [Value.ownBlock] at hg
      have := C2.out.kp.size
      omega
    have HEE : elemB X.e r f d s = addM ⟨3, f.p, 0, f.s, 0, 0⟩ (Fo.one h2 k2) s6 := by simp only [elemB, E1.out, E2.out, E6.out, Rs.bind_ok, Rs.bind_er, if_true, if_false, Bool.false_eq_true, ite_true, ite_false]
    have HE := Lib.hid HEE
    clear HEE
    refine (c_add C6.out ⟨3, f.p, 0, f.s, 0, 0⟩ (Fo.one h2 k2) F2.out hfr K6.out).mono ?_
    intro e w99 hR
    have HR := Lib.hid hR
    rcases hR.form with ⟨i, rfl⟩ | ⟨ch, rfl⟩
    · clear hR
      go_wp2_with fail
      go_ret
      rw [← HM.out, HE.out]
      exact HR.out
    · clear hR
      go_wp2_with fail
      refine panic_end rfl ?_
      rw [← HM.out, HE.out]
      exact HR.out
end Go.Proofs.YtfaoiajhoifalaaGreatDoor
