/-
  Layer parse: the walks of the functions that read statements: those that begin with a name.
-/
import Derived.Test.YtfaoiajhoifalaaGreatDoorParo
import Derived.Test.YtfaoiajhoifalaaGreatDoorParv
namespace Go.Proofs.YtfaoiajhoifalaaGreatDoor
open Go.RowKit
set_option linter.unusedVariables false
set_option linter.unusedSimpArgs false

section
variable {W : World} {b : Nat} {x0 x1 x2 x3 : Value}
theorem s4_alloc (h : W.cell? ⟨b, 0, none⟩ = some x0 ∧ W.cell? ⟨b, 1, none⟩ = some x1 ∧ W.cell? ⟨b, 2, none⟩ = some x2 ∧ W.cell? ⟨b, 3, none⟩ = some x3 ∧ b < W.heap.size) (o : Obj) :
    (W.alloc o).cell? ⟨b, 0, none⟩ = some x0 ∧ (W.alloc o).cell? ⟨b, 1, none⟩ = some x1 ∧ (W.alloc o).cell? ⟨b, 2, none⟩ = some x2 ∧ (W.alloc o).cell? ⟨b, 3, none⟩ = some x3 ∧ b < (W.alloc o).heap.size :=
  ⟨(World.cell?_alloc_lt W o _ h.2.2.2.2).trans h.1, (World.cell?_alloc_lt W o _ h.2.2.2.2).trans h.2.1, (World.cell?_alloc_lt W o _ h.2.2.2.2).trans h.2.2.1, (World.cell?_alloc_lt W o _ h.2.2.2.2).trans h.2.2.2.1, by simp; omega⟩
theorem s4_drew (h : W.cell? ⟨b, 0, none⟩ = some x0 ∧ W.cell? ⟨b, 1, none⟩ = some x1 ∧ W.cell? ⟨b, 2, none⟩ = some x2 ∧ W.cell? ⟨b, 3, none⟩ = some x3 ∧ b < W.heap.size) :
    W.drew.cell? ⟨b, 0, none⟩ = some x0 ∧ W.drew.cell? ⟨b, 1, none⟩ = some x1 ∧ W.drew.cell? ⟨b, 2, none⟩ = some x2 ∧ W.drew.cell? ⟨b, 3, none⟩ = some x3 ∧ b < W.drew.heap.size := h
theorem s4_set (h : W.cell? ⟨b, 0, none⟩ = some x0 ∧ W.cell? ⟨b, 1, none⟩ = some x1 ∧ W.cell? ⟨b, 2, none⟩ = some x2 ∧ W.cell? ⟨b, 3, none⟩ = some x3 ∧ b < W.heap.size) {i : Nat} (hne : i ≠ b) (o : Nat) (u : Value) :
    (W.setCell ⟨i, o, none⟩ u).cell? ⟨b, 0, none⟩ = some x0 ∧ (W.setCell ⟨i, o, none⟩ u).cell? ⟨b, 1, none⟩ = some x1 ∧ (W.setCell ⟨i, o, none⟩ u).cell? ⟨b, 2, none⟩ = some x2 ∧ (W.setCell ⟨i, o, none⟩ u).cell? ⟨b, 3, none⟩ = some x3 ∧ b < (W.setCell ⟨i, o, none⟩ u).heap.size := by
  have k : ∀ j, (W.setCell ⟨i, o, none⟩ u).cell? ⟨b, j, none⟩ = W.cell? ⟨b, j, none⟩ := fun j => World.cell?_of_block (a := ⟨b, j, none⟩) (Below.heap_setCell W ⟨i, o, none⟩ u b (Ne.symm hne))
  exact ⟨(k 0).trans h.1, (k 1).trans h.2.1, (k 2).trans h.2.2.1, (k 3).trans h.2.2.2.1, by simpa using h.2.2.2.2⟩
theorem Blk.froz8 {j : Nat} {T : TypeId} {cs : Array Value} (h : Blk W j T cs) : W.frozen? ⟨j, 0, none⟩ = false ∧ W.frozen? ⟨j, 1, none⟩ = false ∧ W.frozen? ⟨j, 2, none⟩ = false ∧ W.frozen? ⟨j, 3, none⟩ = false ∧ W.frozen? ⟨j, 4, none⟩ = false ∧ W.frozen? ⟨j, 5, none⟩ = false ∧ W.frozen? ⟨j, 6, none⟩ = false ∧ W.frozen? ⟨j, 7, none⟩ = false :=
  ⟨h.frozen 0, h.frozen 1, h.frozen 2, h.frozen 3, h.frozen 4, h.frozen 5, h.frozen 6, h.frozen 7⟩
end

set_option maxHeartbeats 4000000 in
set_option maxRecDepth 100000 in
theorem named_any {X : Rdr} {r : Md → St → Rs Fo} (hX : KEx X r) (hS : KSt X r) (hA : KAr X r) {w : World} {s : St} {ns : List NV} {v : Value} (h : At X w s ns v) (d : Nat) (hd : d ≤ 40) (hno : namedB X.e r d s ≠ .out) :
    Calls Tryz.prog 162 #[rd X, .int .i64 d] w (RT X w ns v (namedB X.e r d s)) := by
  have hC := Cur.start h
  obtain ⟨M, hM⟩ : ∃ M, namedB X.e r d s = M := ⟨_, rfl⟩
  rw [hM]
  have HM := Lib.hid hM
  have HO := Lib.hid hno
  have C0 := Lib.hid hC
  clear hM h hC hno
  have HCP : Hid (((d : Int) + 1) = ((d + 1 : Nat) : Int)) := Lib.hid (by simp)
  have HWR : Hid (IntKind.i64.wrap ((d : Int) + 1) = ((d + 1 : Nat) : Int)) := Lib.hid (by rw [IntKind.wrap_i64]; omega)
  go_enter Tryz.func162, Tryz.ntmps162
  go_wp2_with fail
  refine (c_name C0.out).mono ?_
  intro e w1 hR
  rcases hR.cases with ⟨no, p, hm, rfl, hb⟩ | ⟨a1, s1, hm, rfl, hC, hK⟩
  · have HE : namedB X.e r d s = .er no p := by first | (simp only [namedB, hm, Rs.bind_ok, Rs.bind_er, if_true, if_false, Bool.false_eq_true, ite_true, ite_false]; done) | (simp only [namedB, must2_er hm, Rs.bind_ok, Rs.bind_er, if_true, if_false, Bool.false_eq_true, ite_true, ite_false])
    have HH := Lib.hid (And.intro HE hb)
    clear HE hb hm
    go_wp2_with fail
    refine panic_end rfl ?_
    rw [← HM.out, HH.out.1]
    exact ⟨rfl, HH.out.2⟩
  have E1 := Lib.hid hm
  have C1 := Lib.hid hC
  clear hm hC hK hR
  rw [str_eta]
  have hwl : w.heap.size ≤ w1.heap.size := C1.out.kp.size
  have CA := Lib.hid ((C1.out.alloc (.cells (tokA a1) tE)).alloc (.cells (cells8 ⟨⟨0, a1.p, 0, a1.s, 0, 0⟩, [], .slice none 0 0⟩).toArray tN))
  have TA := Lib.hid ((C1.out.new tE (tokA a1)).alloc (.cells (cells8 ⟨⟨0, a1.p, 0, a1.s, 0, 0⟩, [], .slice none 0 0⟩).toArray tN))
  have nA := (C1.out.alloc (.cells (tokA a1) tE)).new tN (cells8 ⟨⟨0, a1.p, 0, a1.s, 0, 0⟩, [], .slice none 0 0⟩).toArray
  rw [show (w1.alloc (.cells (tokA a1) tE)).heap.size = w1.heap.size + 1 by simp] at nA
  have NA := Lib.hid nA
  clear nA
  go_wp2_with fail
  refine (c_peek CA.out).mono ?_
  rintro e w2 ⟨rfl, hC, hK⟩
  have C2 := Lib.hid hC
  have T2 := Lib.hid ((TA.out).kept hK)
  have N2 := Lib.hid ((NA.out).kept hK)
  clear hC hK
  go_wp2_with fail
  refine (c_quoted C2.out _).mono ?_
  rintro e w3 ⟨rfl, hC, hK⟩
  have C3 := Lib.hid hC
  have T3 := Lib.hid ((T2.out).kept hK)
  have N3 := Lib.hid ((N2.out).kept hK)
  clear hC hK
  have hdef : namedB X.e r d s = if q (pk X.e s1) = [61] then (r (.bin (d + 1) 1) s1.nx).bind fun a s => (must X.e [59] s).bind fun _ s => addM ⟨13, a1.p, 0, a1.s, 0, 0⟩ a s
    else if q (pk X.e s1) = [91] then (storeB X.e r d s1).bind fun a s => addM ⟨14, a1.p, 0, a1.s, 0, 0⟩ a s
    else if q (pk X.e s1) = [40] then (callB X.e r a1 (d + 1) s1).bind fun a s => (must X.e [59] s).bind fun _ s => addM ⟨21, a1.p, 0, [], 0, 0⟩ a s
    else if q (pk X.e s1) = [58] then (r (.stm (d + 1)) s1.nx).bind fun a s => addM ⟨18, a1.p, 0, a1.s, 0, 0⟩ a s
    else wr X.e 2 s1 := by
    simp only [namedB, E1.out, Rs.bind_ok]
  have hk4 := C3.out.at_.fin
  have hnl0 : q (pk X.e s1) ≠ [] → s1.l ≠ [] := fun h1 e => h1 (by simp only [pk, e, List.headD_nil, q_end hk4])
  generalize hpt : pk X.e s1 = t at *
  by_cases hq : q t = [61]
  · have hq0 := hq
    rw [if_pos hq] at hdef
    have HDEF := Lib.hid hdef
    have hn := hnl0 (by rw [hq]; simp)
    have hno2 : r (.bin (d + 1) 1) s1.nx ≠ .out := ne_out (by rw [← hdef]; exact HO.out)
    clear hdef hnl0
    rw [hq]
    go_wp2_with fail
    refine (c_next C3.out hn).mono ?_
    rintro e w4 ⟨rfl, hC, hK⟩
    have C4 := Lib.hid hC
    have T4 := Lib.hid ((T3.out).kept hK)
    have N4 := Lib.hid ((N3.out).kept hK)
    clear hC hK
    go_wp2_with fail
    rw [HCP.out]
    refine (hX (d + 1) w4 s1.nx ns v (by omega) C4.out.at_ hno2).mono ?_
    intro e w5 hR0
    have hR := (C4.out).rd hR0
    rcases hR.cases with ⟨no, p, hm, rfl, hb⟩ | ⟨h5, k5, s5, v5, nk5, hm, rfl, hC, hK, hF⟩
    · have HE : namedB X.e r d s = .er no p := by
        rw [HDEF.out]
        simp only [hm, Rs.bind_ok, Rs.bind_er]
      have HH := Lib.hid (And.intro HE hb)
      clear HE hb hm
      go_wp2_with fail
      refine panic_end rfl ?_
      rw [← HM.out, HH.out.1]
      exact ⟨rfl, HH.out.2⟩
    have E5 := Lib.hid hm
    have C5 := Lib.hid hC
    have F5 := Lib.hid hF
    have T5 := Lib.hid ((T4.out).kept hK)
    have N5 := Lib.hid ((N4.out).kept hK)
    clear hm hC hK hR hR0 hF
    obtain ⟨Nc0, Nc1, Nc2, Nc3, Nc4, Nc5, Nc6, Nc7, Ncl, Ncf⟩ := N5.out.blk.node
    have Nf0 := N5.out.blk.thawed 0
    have C5s := Lib.hid (((C5.out.set_ N5.out (by omega) (by decide) 0 (.int .i64 13)).set_ (N5.out.set_ 0 (.int .i64 13)) (by omega) (by decide) 5 (.slice (some ⟨w5.heap.size, 0, none⟩) 1 1)).alloc (.cells #[.int .i64 (ns.length + k5.size : Nat)] tI))
    have N5s : Hid (Loc X (((w5.setCell ⟨w1.heap.size + 1, 0, none⟩ (.int .i64 13)).setCell ⟨w1.heap.size + 1, 5, none⟩ (.slice (some ⟨w5.heap.size, 0, none⟩) 1 1)).alloc (.cells #[.int .i64 (ns.length + k5.size : Nat)] tI)) v5 (w1.heap.size + 1) tN (cells8 ⟨⟨13, a1.p, 0, a1.s, 0, 0⟩, [ns.length + k5.size], .slice (some ⟨w5.heap.size, 0, none⟩) 1 1⟩).toArray) := Lib.hid (((N5.out.set_ 0 (.int .i64 13)).set_ 5 (.slice (some ⟨w5.heap.size, 0, none⟩) 1 1)).alloc (.cells #[.int .i64 (ns.length + k5.size : Nat)] tI))
    have K5s := Lib.hid (kid1H ((C5.out.set_ N5.out (by omega) (by decide) 0 (.int .i64 13)).set_ (N5.out.set_ 0 (.int .i64 13)) (by omega) (by decide) 5 (.slice (some ⟨w5.heap.size, 0, none⟩) 1 1)) h5 k5 (c := ns.length) (H := w5.heap.size) (by simp))
    go_wp2_with fail
    refine (c_must C5s.out (by simp) [59] (by simp)).mono ?_
    intro e w6 hR
    rcases hR.cases with ⟨no, p, hm, rfl, hb⟩ | ⟨a6, s6, hm, rfl, hC, hK⟩
    · have HE : namedB X.e r d s = .er no p := by
        rw [HDEF.out]
        simp only [E5.out, hm, Rs.bind_ok, Rs.bind_er]
      have HH := Lib.hid (And.intro HE hb)
      clear HE hb hm
      go_wp2_with fail
      refine panic_end rfl ?_
      rw [← HM.out, HH.out.1]
      exact ⟨rfl, HH.out.2⟩
    have E6 := Lib.hid hm
    have C6 := Lib.hid hC
    have N6 := Lib.hid ((N5s.out).kept hK)
    have K6 := Lib.hid (kid_kept (C5s.out).at_ K5s.out hK)
    clear hm hC hK hR
    obtain ⟨n0, n1, n2, n3, n4, n5, n6, n7, nl, -⟩ := N6.out.blk.node
    go_wp2_with fail
    have hfr : ∀ g, (Value.slice (some ⟨w5.heap.size, 0, none⟩) 1 1).ownBlock = some g → w.heap.size ≤ g := fr1 C5.out
    have HEE : namedB X.e r d s = addM ⟨13, a1.p, 0, a1.s, 0, 0⟩ (Fo.one h5 k5) s6 := by rw [HDEF.out]; simp only [E5.out, E6.out, Rs.bind_ok]
    have HE := Lib.hid HEE
    clear HEE
    refine (c_add C6.out ⟨13, a1.p, 0, a1.s, 0, 0⟩ (Fo.one h5 k5) F5.out hfr K6.out).mono ?_
    intro e w99 hR
    have HR := Lib.hid hR
    rcases hR.form with ⟨i, rfl⟩ | ⟨ch, rfl⟩
    · clear hR
      go_wp2_with fail
      go_ret
      rw [← HM.out, HE.out]
      exact HR.out
    · clear hR
      go_wp2_with fail
      refine panic_end rfl ?_
      rw [← HM.out, HE.out]
      exact HR.out
  by_cases hq2 : q t = [91]
  · have hq0 := hq2
    rw [if_neg hq, if_pos hq2] at hdef
    have HDEF := Lib.hid hdef
    have hno2 : storeB X.e r d s1 ≠ .out := ne_out (by rw [← hdef]; exact HO.out)
    clear hdef hnl0
    rw [hq2]
    go_wp2_with fail
    refine (stored_any hX C3.out.at_ d hd hno2).mono ?_
    intro e w4 hR
    rcases (C3.out).ra hR with ⟨no, p, hm, rfl, hb⟩ | ⟨a4, s4, v4, nk4, g4, m4, cp4, hm, rfl, hC, hK, hF, hkv, hgl, hap⟩
    · have HE : namedB X.e r d s = .er no p := by
        rw [HDEF.out]
        simp only [hm, Rs.bind_ok, Rs.bind_er]
      have HH := Lib.hid (And.intro HE hb)
      clear HE hb hm
      go_wp2_with fail
      refine panic_end rfl ?_
      rw [← HM.out, HH.out.1]
      exact ⟨rfl, HH.out.2⟩
    have E4 := Lib.hid hm
    have C4 := Lib.hid hC
    have F4 := Lib.hid hF
    have T4 := Lib.hid ((T3.out).kept hK)
    have N4 := Lib.hid ((N3.out).kept hK)
    obtain ⟨Nc0, Nc1, Nc2, Nc3, Nc4, Nc5, Nc6, Nc7, Ncl, Ncf⟩ := N4.out.blk.node
    have Nf0 := N4.out.blk.thawed 0
    have Ncl3 := N3.out.blk.lt
    have hwg : w.heap.size ≤ g4 := by have := C3.out.kp.size; omega
    have hgj : g4 ≠ w1.heap.size + 1 := by omega
    have C5 := Lib.hid ((hC.set_ N4.out (by omega) (by decide) 0 (.int .i64 14)).set_ (N4.out.set_ 0 (.int .i64 14)) (by omega) (by decide) 5 (.slice (some ⟨g4, 0, none⟩) m4 cp4))
    have N5 : Hid (Loc X ((w4.setCell ⟨w1.heap.size + 1, 0, none⟩ (.int .i64 14)).setCell ⟨w1.heap.size + 1, 5, none⟩ (.slice (some ⟨g4, 0, none⟩) m4 cp4)) v4 (w1.heap.size + 1) tN (cells8 ⟨⟨14, a1.p, 0, a1.s, 0, 0⟩, a4.roots ns.length, .slice (some ⟨g4, 0, none⟩) m4 cp4⟩).toArray) := Lib.hid ((N4.out.set_ 0 (.int .i64 14)).set_ 5 (.slice (some ⟨g4, 0, none⟩) m4 cp4))
    have K5 := Lib.hid (row_keep (w' := (w4.setCell ⟨w1.heap.size + 1, 0, none⟩ (.int .i64 14)).setCell ⟨w1.heap.size + 1, 5, none⟩ (.slice (some ⟨g4, 0, none⟩) m4 cp4)) (row_keep (w' := w4.setCell ⟨w1.heap.size + 1, 0, none⟩ (.int .i64 14)) hkv fun g' hg' => Below.heap_setCell w4 _ _ g' (by simp [Value.ownBlock] at hg'; simp; omega)) fun g' hg' => Below.heap_setCell _ _ _ g' (by simp [Value.ownBlock] at hg'; simp; omega))
    have hfr : ∀ g, (Value.slice (some ⟨g4, 0, none⟩) m4 cp4).ownBlock = some g → w.heap.size ≤ g := fun g hg => by simp [Value.ownBlock] at hg; omega
    obtain ⟨n0, n1, n2, n3, n4, n5, n6, n7, nl, -⟩ := N5.out.blk.node
    have HFR := Lib.hid hfr
    clear hm hC hK hR hF hkv hgl hap hno2 hfr n0 n1 n2 n3 n4 n5 n6 n7 nl
    go_wp2_with fail
    have HEE : namedB X.e r d s = addM ⟨14, a1.p, 0, a1.s, 0, 0⟩ a4 s4 := by rw [HDEF.out]; simp only [E4.out, Rs.bind_ok]
    have HE := Lib.hid HEE
    clear HEE
    refine (c_add C5.out ⟨14, a1.p, 0, a1.s, 0, 0⟩ a4 F4.out HFR.out K5.out).mono ?_
    intro e w99 hR
    have HR := Lib.hid hR
    rcases hR.form with ⟨i, rfl⟩ | ⟨ch, rfl⟩
    · clear hR
      go_wp2_with fail
      go_ret
      rw [← HM.out, HE.out]
      exact HR.out
    · clear hR
      go_wp2_with fail
      refine panic_end rfl ?_
      rw [← HM.out, HE.out]
      exact HR.out
  by_cases hq3 : q t = [40]
  · have hq0 := hq3
    rw [if_neg hq, if_neg hq2, if_pos hq3] at hdef
    have HDEF := Lib.hid hdef
    have hno2 : callB X.e r a1 (d + 1) s1 ≠ .out := ne_out (by rw [← hdef]; exact HO.out)
    have g1 : (q t == [61]) = false := by simpa using hq
    have g2 : (q t == [91]) = false := by simpa using hq2
    clear hdef hnl0 hq hq2
    have hX2 := C3.out.tree fun W hW => call_any hA hW a1 (d + 1) (by omega) hno2
    have hE2 := fun no p (hm : callB X.e r a1 (d + 1) s1 = .er no p) => (by rw [HDEF.out, hm]; rfl : namedB X.e r d s = .er no p)
    have HX2 := Lib.hid hX2
    have HE2 := Lib.hid hE2
    obtain ⟨Tc0, Tc1, Tc2, Tc3, Tcl⟩ := T3.out.blk.tok
    clear hX2 hE2 hno2
    rw [hq3]
    go_wp2_with fail
    go_region_held2 (fun W => W.cell? ⟨w1.heap.size, 0, none⟩ = some (.int .i64 a1.k) ∧ W.cell? ⟨w1.heap.size, 1, none⟩ = some (.int .i64 a1.p) ∧ W.cell? ⟨w1.heap.size, 2, none⟩ = some (.int .i64 a1.n) ∧ W.cell? ⟨w1.heap.size, 3, none⟩ = some (.string (str a1.s)) ∧ w1.heap.size < W.heap.size) (repeat (first | (with_reducible exact ⟨Tc0, Tc1, Tc2, Tc3, Tcl⟩) | (with_reducible exact ⟨T50, T51, T52, T53, T5l⟩) | (with_reducible refine s4_drew ?_) | (with_reducible refine s4_alloc ?_ _) | (with_reducible refine s4_set ?_ (by omega) _ _))) (first | (go_at_call 182; rw [HWR.out, ← str_eta]; refine (HX2.out _ (by exact bd1 _)).mono ?_; intro e w5 hR; rcases hR.cases with ⟨no, p, hm, rfl, hb⟩ | ⟨h5, k5, s5, v5, nk5, hm, rfl, hC, hK, hF⟩; (refine panic_end rfl ?_; rw [← HM.out, HE2.out no p hm]; exact ⟨rfl, hb⟩); generalize hn5 : ns.length + k5.size = n5; have HN := Lib.hid hn5; clear hn5; have C5 := Lib.hid hC; have F5 := Lib.hid hF; have E5 := Lib.hid hm; have T5 := (T3.out.go (bd1 _)).kept hK; have N5 := Lib.hid ((N3.out.go (bd1 _)).kept hK); obtain ⟨T50, T51, T52, T53, T5l⟩ := T5.blk.tok; obtain ⟨N50, N51, N52, N53, N54, N55, N56, N57, N5l, -⟩ := N5.out.blk.node; obtain ⟨M50, M51, M52, M53, M54, M55, M56, M57⟩ := N5.out.blk.froz8; clear hR hm hC hF hK T5))
    have c8 := ((((((((C5.out.set_ N5.out (by omega) (by decide) 0 (.int .i64 21)).set_ (N5.out.set_ 0 (.int .i64 21)) (by omega) (by decide) 1 (.int .i64 a1.p)).set_ ((N5.out.set_ 0 (.int .i64 21)).set_ 1 (.int .i64 a1.p)) (by omega) (by decide) 2 (.int .i64 0)).set_ (((N5.out.set_ 0 (.int .i64 21)).set_ 1 (.int .i64 a1.p)).set_ 2 (.int .i64 0)) (by omega) (by decide) 3 (.string ⟨#[]⟩)).set_ ((((N5.out.set_ 0 (.int .i64 21)).set_ 1 (.int .i64 a1.p)).set_ 2 (.int .i64 0)).set_ 3 (.string ⟨#[]⟩)) (by omega) (by decide) 4 (.int .i64 0)).set_ (((((N5.out.set_ 0 (.int .i64 21)).set_ 1 (.int .i64 a1.p)).set_ 2 (.int .i64 0)).set_ 3 (.string ⟨#[]⟩)).set_ 4 (.int .i64 0)) (by omega) (by decide) 5 (.slice (some ⟨w5.heap.size, 0, none⟩) 1 1)).set_ ((((((N5.out.set_ 0 (.int .i64 21)).set_ 1 (.int .i64 a1.p)).set_ 2 (.int .i64 0)).set_ 3 (.string ⟨#[]⟩)).set_ 4 (.int .i64 0)).set_ 5 (.slice (some ⟨w5.heap.size, 0, none⟩) 1 1)) (by omega) (by decide) 6 (.int .i64 0)).set_ (((((((N5.out.set_ 0 (.int .i64 21)).set_ 1 (.int .i64 a1.p)).set_ 2 (.int .i64 0)).set_ 3 (.string ⟨#[]⟩)).set_ 4 (.int .i64 0)).set_ 5 (.slice (some ⟨w5.heap.size, 0, none⟩) 1 1)).set_ 6 (.int .i64 0)) (by omega) (by decide) 7 (.int .i64 0))
    have hk := kid1H c8 h5 k5 (c := ns.length) (H := w5.heap.size) (by simp)
    rw [HN.out] at hk
    have CX := Lib.hid (c8.alloc (.cells #[.int .i64 (n5 : Nat)] tI))
    have n8 : Loc X ((((((((w5.setCell ⟨w1.heap.size + 1, 0, none⟩ (.int .i64 21)).setCell ⟨w1.heap.size + 1, 1, none⟩ (.int .i64 a1.p)).setCell ⟨w1.heap.size + 1, 2, none⟩ (.int .i64 0)).setCell ⟨w1.heap.size + 1, 3, none⟩ (.string ⟨#[]⟩)).setCell ⟨w1.heap.size + 1, 4, none⟩ (.int .i64 0)).setCell ⟨w1.heap.size + 1, 5, none⟩ (.slice (some ⟨w5.heap.size, 0, none⟩) 1 1)).setCell ⟨w1.heap.size + 1, 6, none⟩ (.int .i64 0)).setCell ⟨w1.heap.size + 1, 7, none⟩ (.int .i64 0)) v5 (w1.heap.size + 1) tN (cells8 ⟨⟨21, a1.p, 0, [], 0, 0⟩, (Fo.one h5 k5).roots ns.length, .slice (some ⟨w5.heap.size, 0, none⟩) 1 1⟩).toArray := ((((((((N5.out.set_ 0 (.int .i64 21)).set_ 1 (.int .i64 a1.p)).set_ 2 (.int .i64 0)).set_ 3 (.string ⟨#[]⟩)).set_ 4 (.int .i64 0)).set_ 5 (.slice (some ⟨w5.heap.size, 0, none⟩) 1 1)).set_ 6 (.int .i64 0)).set_ 7 (.int .i64 0))
    have NX := Lib.hid (n8.alloc (.cells #[.int .i64 (n5 : Nat)] tI))
    have KX := Lib.hid hk
    clear c8 n8 hk
    go_wp2_with fail
    refine (c_must CX.out (by simp) [59] (by simp)).mono ?_
    intro e w6 hR
    rcases hR.cases with ⟨no, p, hm, rfl, hb⟩ | ⟨a6, s6, hm, rfl, hC, hK⟩
    · have HE : namedB X.e r d s = .er no p := by
        rw [HDEF.out]
        simp only [E5.out, hm, Rs.bind_ok, Rs.bind_er]
      have HH := Lib.hid (And.intro HE hb)
      clear HE hb hm
      go_wp2_with fail
      refine panic_end rfl ?_
      rw [← HM.out, HH.out.1]
      exact ⟨rfl, HH.out.2⟩
    have E6 := Lib.hid hm
    have C6 := Lib.hid hC
    have N6 := Lib.hid (NX.out.kept hK)
    have K6 := Lib.hid (kid_kept CX.out.at_ KX.out hK)
    obtain ⟨n0, n1, nn2, n3, n4, nn5, n6, n7, nl, -⟩ := N6.out.blk.node
    clear hm hC hK hR
    go_wp2_with fail
    have hfr : ∀ g, (Value.slice (some ⟨w5.heap.size, 0, none⟩) 1 1).ownBlock = some g → w.heap.size ≤ g := fr1 C5.out
    have HEE : namedB X.e r d s = addM ⟨21, a1.p, 0, [], 0, 0⟩ (Fo.one h5 k5) s6 := by rw [HDEF.out]; simp only [E5.out, E6.out, Rs.bind_ok]
    have HE := Lib.hid HEE
    clear HEE
    refine (c_add C6.out ⟨21, a1.p, 0, [], 0, 0⟩ (Fo.one h5 k5) F5.out hfr K6.out).mono ?_
    intro e w99 hR
    have HR := Lib.hid hR
    rcases hR.form with ⟨i, rfl⟩ | ⟨ch, rfl⟩
    · clear hR
      go_wp2_with fail
      go_ret
      rw [← HM.out, HE.out]
      exact HR.out
    · clear hR
      go_wp2_with fail
      refine panic_end rfl ?_
      rw [← HM.out, HE.out]
      exact HR.out
  by_cases hq4 : q t = [58]
  · have hq0 := hq4
    rw [if_neg hq, if_neg hq2, if_neg hq3, if_pos hq4] at hdef
    have HDEF := Lib.hid hdef
    have hn := hnl0 (by rw [hq4]; simp)
    have hno2 : r (.stm (d + 1)) s1.nx ≠ .out := ne_out (by rw [← hdef]; exact HO.out)
    clear hdef hnl0
    rw [hq4]
    go_wp2_with fail
    refine (c_next C3.out hn).mono ?_
    rintro e w4 ⟨rfl, hC, hK⟩
    have C4 := Lib.hid hC
    have T4 := Lib.hid ((T3.out).kept hK)
    have N4 := Lib.hid ((N3.out).kept hK)
    clear hC hK
    go_wp2_with fail
    rw [HCP.out]
    refine (hS (d + 1) w4 s1.nx ns v (by omega) C4.out.at_ hno2).mono ?_
    intro e w5 hR0
    have hR := (C4.out).rd hR0
    rcases hR.cases with ⟨no, p, hm, rfl, hb⟩ | ⟨h5, k5, s5, v5, nk5, hm, rfl, hC, hK, hF⟩
    · have HE : namedB X.e r d s = .er no p := by
        rw [HDEF.out]
        simp only [hm, Rs.bind_ok, Rs.bind_er]
      have HH := Lib.hid (And.intro HE hb)
      clear HE hb hm
      go_wp2_with fail
      refine panic_end rfl ?_
      rw [← HM.out, HH.out.1]
      exact ⟨rfl, HH.out.2⟩
    have E5 := Lib.hid hm
    have C5 := Lib.hid hC
    have F5 := Lib.hid hF
    have T5 := Lib.hid ((T4.out).kept hK)
    have N5 := Lib.hid ((N4.out).kept hK)
    clear hm hC hK hR hR0 hF
    obtain ⟨Nc0, Nc1, Nc2, Nc3, Nc4, Nc5, Nc6, Nc7, Ncl, Ncf⟩ := N5.out.blk.node
    have Nf0 := N5.out.blk.thawed 0
    have C5s := Lib.hid (((C5.out.set_ N5.out (by omega) (by decide) 0 (.int .i64 18)).set_ (N5.out.set_ 0 (.int .i64 18)) (by omega) (by decide) 5 (.slice (some ⟨w5.heap.size, 0, none⟩) 1 1)).alloc (.cells #[.int .i64 (ns.length + k5.size : Nat)] tI))
    have N5s : Hid (Loc X (((w5.setCell ⟨w1.heap.size + 1, 0, none⟩ (.int .i64 18)).setCell ⟨w1.heap.size + 1, 5, none⟩ (.slice (some ⟨w5.heap.size, 0, none⟩) 1 1)).alloc (.cells #[.int .i64 (ns.length + k5.size : Nat)] tI)) v5 (w1.heap.size + 1) tN (cells8 ⟨⟨18, a1.p, 0, a1.s, 0, 0⟩, [ns.length + k5.size], .slice (some ⟨w5.heap.size, 0, none⟩) 1 1⟩).toArray) := Lib.hid (((N5.out.set_ 0 (.int .i64 18)).set_ 5 (.slice (some ⟨w5.heap.size, 0, none⟩) 1 1)).alloc (.cells #[.int .i64 (ns.length + k5.size : Nat)] tI))
    have K5s := Lib.hid (kid1H ((C5.out.set_ N5.out (by omega) (by decide) 0 (.int .i64 18)).set_ (N5.out.set_ 0 (.int .i64 18)) (by omega) (by decide) 5 (.slice (some ⟨w5.heap.size, 0, none⟩) 1 1)) h5 k5 (c := ns.length) (H := w5.heap.size) (by simp))
    go_wp2_with fail
    have hfr : ∀ g, (Value.slice (some ⟨w5.heap.size, 0, none⟩) 1 1).ownBlock = some g → w.heap.size ≤ g := fr1 C5.out
    have HEE : namedB X.e r d s = addM ⟨18, a1.p, 0, a1.s, 0, 0⟩ (Fo.one h5 k5) s5 := by rw [HDEF.out]; simp only [E5.out, Rs.bind_ok]
    have HE := Lib.hid HEE
    clear HEE
    refine (c_add C5s.out ⟨18, a1.p, 0, a1.s, 0, 0⟩ (Fo.one h5 k5) F5.out hfr K5s.out).mono ?_
    intro e w99 hR
    have HR := Lib.hid hR
    rcases hR.form with ⟨i, rfl⟩ | ⟨ch, rfl⟩
    · clear hR
      go_wp2_with fail
      go_ret
      rw [← HM.out, HE.out]
      exact HR.out
    · clear hR
      go_wp2_with fail
      refine panic_end rfl ?_
      rw [← HM.out, HE.out]
      exact HR.out
  · have hq0 := hq4
    rw [if_neg hq, if_neg hq2, if_neg hq3, if_neg hq4] at hdef
    have HE := Lib.hid hdef
    have g1 : (q t == [61]) = false := by simpa using hq
    have g2 : (q t == [91]) = false := by simpa using hq2
    have g3 : (q t == [40]) = false := by simpa using hq3
    have g4 : (q t == [58]) = false := by simpa using hq4
    clear hdef hnl0 hq hq2 hq3 hq4
    go_wp2_with fail
    refine (c_wrong C3.out 2).mono ?_
    rintro e w5 ⟨rfl, hb⟩
    have HB := Lib.hid hb
    clear hb
    go_wp2_with fail
    refine panic_end rfl ?_
    rw [← HM.out, HE.out]
    exact ⟨by rw [hpt]; rfl, HB.out⟩
end Go.Proofs.YtfaoiajhoifalaaGreatDoor
