/-
  Layer parse: the walks of the functions that read statements.
-/
import Derived.Test.YtfaoiajhoifalaaGreatDoorPari
namespace Go.Proofs.YtfaoiajhoifalaaGreatDoor
open Go.RowKit
set_option linter.unusedVariables false
set_option linter.unusedSimpArgs false

theorem fld_s (t : Tok) (w : World) : (Instr.field tE (.agg #[.int .i64 t.k, .int .i64 t.p, .int .i64 t.n, .string (str t.s)]) 3).run Tryz.prog w = .ok (.string (str t.s)) w := by
  kernel_rfl
theorem must2_ok {e : Tok} {x y : List UInt8} {s s' : St} {a : Unit} {α : Type} {f : St → Rs α} (h : ((must e x s).bind fun _ s => must e y s) = .ok a s') :
    ((must e x s).bind fun _ s' => (must e y s').bind fun _ s' => f s') = f s' := by
  cases h1 : must e x s with
  | ok a s1 => rw [h1] at h; simp only [Rs.bind] at h ⊢; rw [h]
  | er _ _ => rw [h1] at h; cases h
  | out => rw [h1] at h; cases h
theorem must2_er {e : Tok} {x y : List UInt8} {s : St} {no p : Int} {α : Type} {f : St → Rs α} (h : ((must e x s).bind fun _ s => must e y s) = .er no p) :
    ((must e x s).bind fun _ s' => (must e y s').bind fun _ s' => f s') = .er no p := by
  cases h1 : must e x s with
  | ok a s1 => rw [h1] at h; simp only [Rs.bind] at h ⊢; rw [h]
  | er _ _ => rw [h1] at h; cases h; rfl
  | out => rw [h1] at h; cases h

set_option maxHeartbeats 4000000 in
set_option maxRecDepth 100000 in
theorem stored_any {X : Rdr} {r : Md → St → Rs Fo} (hX : KEx X r) {w : World} {s : St} {ns : List NV} {v : Value} (h : At X w s ns v) (d : Nat) (hd : d ≤ 40) (hno : storeB X.e r d s ≠ .out) :
    Calls Tryz.prog 181 #[rd X, .int .i64 d] w (RA X w ns v (storeB X.e r d s)) := by
  have hC := Cur.start h
  obtain ⟨M, hM⟩ : ∃ M, storeB X.e r d s = M := ⟨_, rfl⟩
  rw [hM]
  have HM := Lib.hid hM
  have HO := Lib.hid hno
  have C0 := Lib.hid hC
  clear hM h hC hno
  have HCP : Hid (((d : Int) + 1) = ((d + 1 : Nat) : Int)) := Lib.hid (by simp)
  go_enter Tryz.func181, Tryz.ntmps181
  go_wp2_with fail
  refine (c_must C0.out rfl [91] (by simp)).mono ?_
  intro e w1 hR
  rcases hR.cases with ⟨no, p, hm, rfl, hb⟩ | ⟨a1, s1, hm, rfl, hC, hK⟩
  · have HE : storeB X.e r d s = .er no p := by first | (simp only [storeB, hm, Rs.bind_ok, Rs.bind_er, if_true, if_false, Bool.false_eq_true, ite_true, ite_false]; done) | (simp only [storeB, must2_er hm, Rs.bind_ok, Rs.bind_er, if_true, if_false, Bool.false_eq_true, ite_true, ite_false])
    have HH := Lib.hid (And.intro HE hb)
    clear HE hb hm
    go_wp2_with fail
    refine panic_end rfl ?_
    rw [← HM.out, HH.out.1]
    exact ⟨rfl, HH.out.2⟩
  have E1 := Lib.hid hm
  have C1 := Lib.hid hC
  clear hm hC hK hR
  have hno2 : r (.bin (d + 1) 1) s1 ≠ .out := by
    have := HO.out
    simp only [storeB, E1.out, Rs.bind_ok, Rs.bind_er, if_true, if_false, Bool.false_eq_true, ite_true, ite_false] at this
    exact ne_out this
  go_wp2_with fail
  rw [HCP.out]
  refine (hX (d + 1) w1 s1 ns v (by omega) C1.out.at_ hno2).mono ?_
  intro e w2 hR0
  have hR := (C1.out).rd hR0
  rcases hR.cases with ⟨no, p, hm, rfl, hb⟩ | ⟨h2, k2, s2, v2, nk2, hm, rfl, hC, hK, hF⟩
  · have HE : storeB X.e r d s = .er no p := by first | (simp only [storeB, E1.out, hm, Rs.bind_ok, Rs.bind_er, if_true, if_false, Bool.false_eq_true, ite_true, ite_false]; done) | (simp only [storeB, E1.out, must2_er hm, Rs.bind_ok, Rs.bind_er, if_true, if_false, Bool.false_eq_true, ite_true, ite_false])
    have HH := Lib.hid (And.intro HE hb)
    clear HE hb hm
    go_wp2_with fail
    refine panic_end rfl ?_
    rw [← HM.out, HH.out.1]
    exact ⟨rfl, HH.out.2⟩
  have E2 := Lib.hid hm
  have C2 := Lib.hid hC
  have F2 := Lib.hid hF
  clear hm hC hK hR hR0 hF
  have hnl2 : (ns ++ nk2).length = ns.length + (Fo.one h2 k2).size := by rw [List.length_append, len_of_flat F2.out]
  go_wp2_with fail
  refine (c_must2 C2.out rfl [93] [61] (by simp) (by simp)).mono ?_
  intro e w3 hR
  rcases hR.cases with ⟨no, p, hm, rfl, hb⟩ | ⟨a3, s3, hm, rfl, hC, hK⟩
  · have HE : storeB X.e r d s = .er no p := by first | (simp only [storeB, E1.out, E2.out, hm, Rs.bind_ok, Rs.bind_er, if_true, if_false, Bool.false_eq_true, ite_true, ite_false]; done) | (simp only [storeB, E1.out, E2.out, must2_er hm, Rs.bind_ok, Rs.bind_er, if_true, if_false, Bool.false_eq_true, ite_true, ite_false])
    have HH := Lib.hid (And.intro HE hb)
    clear HE hb hm
    go_wp2_with fail
    refine panic_end rfl ?_
    rw [← HM.out, HH.out.1]
    exact ⟨rfl, HH.out.2⟩
  have E3 := Lib.hid hm
  have C3 := Lib.hid hC
  clear hm hC hK hR
  have hno3 : r (.bin (d + 1) 1) s3 ≠ .out := by
    have := HO.out
    simp only [storeB, E1.out, E2.out, must2_ok E3.out, Rs.bind_ok, Rs.bind_er, if_true, if_false, Bool.false_eq_true, ite_true, ite_false] at this
    exact ne_out this
  go_wp2_with fail
  rw [HCP.out]
  refine (hX (d + 1) w3 s3 (ns ++ nk2) v2 (by omega) C3.out.at_ hno3).mono ?_
  intro e w4 hR0
  have hR := (C3.out).rd hR0
  rcases hR.cases with ⟨no, p, hm, rfl, hb⟩ | ⟨h4, k4, s4, v4, nk4, hm, rfl, hC, hK, hF⟩
  · have HE : storeB X.e r d s = .er no p := by first | (simp only [storeB, E1.out, E2.out, must2_ok E3.out, hm, Rs.bind_ok, Rs.bind_er, if_true, if_false, Bool.false_eq_true, ite_true, ite_false]; done) | (simp only [storeB, E1.out, E2.out, must2_ok E3.out, must2_er hm, Rs.bind_ok, Rs.bind_er, if_true, if_false, Bool.false_eq_true, ite_true, ite_false])
    have HH := Lib.hid (And.intro HE hb)
    clear HE hb hm
    go_wp2_with fail
    refine panic_end rfl ?_
    rw [← HM.out, HH.out.1]
    exact ⟨rfl, HH.out.2⟩
  have E4 := Lib.hid hm
  have C4 := Lib.hid hC
  have F4 := Lib.hid hF
  clear hm hC hK hR hR0 hF
  have hF4 := F4.out
  rw [hnl2] at hF4
  have FF := Lib.hid (flat2 F2.out hF4)
  rw [hnl2]
  go_wp2_with fail
  refine (c_must C4.out rfl [59] (by simp)).mono ?_
  intro e w5 hR
  rcases hR.cases with ⟨no, p, hm, rfl, hb⟩ | ⟨a5, s5, hm, rfl, hC, hK⟩
  · have HE : storeB X.e r d s = .er no p := by first | (simp only [storeB, E1.out, E2.out, must2_ok E3.out, E4.out, hm, Rs.bind_ok, Rs.bind_er, if_true, if_false, Bool.false_eq_true, ite_true, ite_false]; done) | (simp only [storeB, E1.out, E2.out, must2_ok E3.out, E4.out, must2_er hm, Rs.bind_ok, Rs.bind_er, if_true, if_false, Bool.false_eq_true, ite_true, ite_false])
    have HH := Lib.hid (And.intro HE hb)
    clear HE hb hm
    go_wp2_with fail
    refine panic_end rfl ?_
    rw [← HM.out, HH.out.1]
    exact ⟨rfl, HH.out.2⟩
  have E5 := Lib.hid hm
  have C5 := Lib.hid hC
  clear hm hC hK hR
  have HE : storeB X.e r d s = .ok ((Fo.one h2 k2).app (Fo.one h4 k4)) s5 := by simp only [storeB, E1.out, E2.out, must2_ok E3.out, E4.out, E5.out, Rs.bind_ok, Rs.bind_er, if_true, if_false, Bool.false_eq_true, ite_true, ite_false]
  have HE := Lib.hid HE
  go_wp2_with fail
  go_ret
  rw [← HM.out, HE.out]
  exact ⟨v4, nk2 ++ nk4, w5.heap.size, 2, 2, rfl, by rw [← List.append_assoc]; exact (C5.out.alloc _).at_, (C5.out.alloc _).kp, FF.out, kid2 C5.out h2 h4 k2 k4, C5.out.kp.size, by rw [← List.append_assoc]; exact fun y hy e => Nat.lt_irrefl _ ((C5.out.at_.kids y hy).lt _ e).2⟩

set_option maxHeartbeats 4000000 in
set_option maxRecDepth 100000 in
theorem guarded_any {X : Rdr} {r : Md → St → Rs Fo} (hX : KEx X r) (hS : KSt X r) {w : World} {s : St} {ns : List NV} {v : Value} (h : At X w s ns v) (d : Nat) (hd : d ≤ 40) (hno : guardB X.e r d s ≠ .out) :
    Calls Tryz.prog 146 #[rd X, .int .i64 d] w (RA X w ns v (guardB X.e r d s)) := by
  have hC := Cur.start h
  obtain ⟨M, hM⟩ : ∃ M, guardB X.e r d s = M := ⟨_, rfl⟩
  rw [hM]
  have HM := Lib.hid hM
  have HO := Lib.hid hno
  have C0 := Lib.hid hC
  clear hM h hC hno
  have HCP : Hid (((d : Int) + 1) = ((d + 1 : Nat) : Int)) := Lib.hid (by simp)
  go_enter Tryz.func146, Tryz.ntmps146
  go_wp2_with fail
  refine (c_must C0.out rfl [40] (by simp)).mono ?_
  intro e w1 hR
  rcases hR.cases with ⟨no, p, hm, rfl, hb⟩ | ⟨a1, s1, hm, rfl, hC, hK⟩
  · have HE : guardB X.e r d s = .er no p := by first | (simp only [guardB, hm, Rs.bind_ok, Rs.bind_er, if_true, if_false, Bool.false_eq_true, ite_true, ite_false]; done) | (simp only [guardB, must2_er hm, Rs.bind_ok, Rs.bind_er, if_true, if_false, Bool.false_eq_true, ite_true, ite_false])
    have HH := Lib.hid (And.intro HE hb)
    clear HE hb hm
    go_wp2_with fail
    refine panic_end rfl ?_
    rw [← HM.out, HH.out.1]
    exact ⟨rfl, HH.out.2⟩
  have E1 := Lib.hid hm
  have C1 := Lib.hid hC
  clear hm hC hK hR
  have hno2 : r (.bin (d + 1) 1) s1 ≠ .out := by
    have := HO.out
    simp only [guardB, E1.out, Rs.bind_ok, Rs.bind_er, if_true, if_false, Bool.false_eq_true, ite_true, ite_false] at this
    exact ne_out this
  go_wp2_with fail
  rw [HCP.out]
  refine (hX (d + 1) w1 s1 ns v (by omega) C1.out.at_ hno2).mono ?_
  intro e w2 hR0
  have hR := (C1.out).rd hR0
  rcases hR.cases with ⟨no, p, hm, rfl, hb⟩ | ⟨h2, k2, s2, v2, nk2, hm, rfl, hC, hK, hF⟩
  · have HE : guardB X.e r d s = .er no p := by first | (simp only [guardB, E1.out, hm, Rs.bind_ok, Rs.bind_er, if_true, if_false, Bool.false_eq_true, ite_true, ite_false]; done) | (simp only [guardB, E1.out, must2_er hm, Rs.bind_ok, Rs.bind_er, if_true, if_false, Bool.false_eq_true, ite_true, ite_false])
    have HH := Lib.hid (And.intro HE hb)
    clear HE hb hm
    go_wp2_with fail
    refine panic_end rfl ?_
    rw [← HM.out, HH.out.1]
    exact ⟨rfl, HH.out.2⟩
  have E2 := Lib.hid hm
  have C2 := Lib.hid hC
  have F2 := Lib.hid hF
  clear hm hC hK hR hR0 hF
  have hnl2 : (ns ++ nk2).length = ns.length + (Fo.one h2 k2).size := by rw [List.length_append, len_of_flat F2.out]
  go_wp2_with fail
  refine (c_must C2.out rfl [41] (by simp)).mono ?_
  intro e w3 hR
  rcases hR.cases with ⟨no, p, hm, rfl, hb⟩ | ⟨a3, s3, hm, rfl, hC, hK⟩
  · have HE : guardB X.e r d s = .er no p := by first | (simp only [guardB, E1.out, E2.out, hm, Rs.bind_ok, Rs.bind_er, if_true, if_false, Bool.false_eq_true, ite_true, ite_false]; done) | (simp only [guardB, E1.out, E2.out, must2_er hm, Rs.bind_ok, Rs.bind_er, if_true, if_false, Bool.false_eq_true, ite_true, ite_false])
    have HH := Lib.hid (And.intro HE hb)
    clear HE hb hm
    go_wp2_with fail
    refine panic_end rfl ?_
    rw [← HM.out, HH.out.1]
    exact ⟨rfl, HH.out.2⟩
  have E3 := Lib.hid hm
  have C3 := Lib.hid hC
  clear hm hC hK hR
  have hno3 : r (.stm (d + 1)) s3 ≠ .out := by
    have := HO.out
    simp only [guardB, E1.out, E2.out, E3.out, Rs.bind_ok, Rs.bind_er, if_true, if_false, Bool.false_eq_true, ite_true, ite_false] at this
    exact ne_out this
  go_wp2_with fail
  rw [HCP.out]
  refine (hS (d + 1) w3 s3 (ns ++ nk2) v2 (by omega) C3.out.at_ hno3).mono ?_
  intro e w4 hR0
  have hR := (C3.out).rd hR0
  rcases hR.cases with ⟨no, p, hm, rfl, hb⟩ | ⟨h4, k4, s4, v4, nk4, hm, rfl, hC, hK, hF⟩
  · have HE : guardB X.e r d s = .er no p := by first | (simp only [guardB, E1.out, E2.out, E3.out, hm, Rs.bind_ok, Rs.bind_er, if_true, if_false, Bool.false_eq_true, ite_true, ite_false]; done) | (simp only [guardB, E1.out, E2.out, E3.out, must2_er hm, Rs.bind_ok, Rs.bind_er, if_true, if_false, Bool.false_eq_true, ite_true, ite_false])
    have HH := Lib.hid (And.intro HE hb)
    clear HE hb hm
    go_wp2_with fail
    refine panic_end rfl ?_
    rw [← HM.out, HH.out.1]
    exact ⟨rfl, HH.out.2⟩
  have E4 := Lib.hid hm
  have C4 := Lib.hid hC
  have F4 := Lib.hid hF
  clear hm hC hK hR hR0 hF
  have hF4 := F4.out
  rw [hnl2] at hF4
  have FF := Lib.hid (flat2 F2.out hF4)
  rw [hnl2]
  have HE : guardB X.e r d s = .ok ((Fo.one h2 k2).app (Fo.one h4 k4)) s4 := by simp only [guardB, E1.out, E2.out, E3.out, E4.out, Rs.bind_ok, Rs.bind_er, if_true, if_false, Bool.false_eq_true, ite_true, ite_false]
  have HE := Lib.hid HE
  go_wp2_with fail
  go_ret
  rw [← HM.out, HE.out]
  exact ⟨v4, nk2 ++ nk4, w4.heap.size, 2, 2, rfl, by rw [← List.append_assoc]; exact (C4.out.alloc _).at_, (C4.out.alloc _).kp, FF.out, kid2 C4.out h2 h4 k2 k4, C4.out.kp.size, by rw [← List.append_assoc]; exact fun y hy e => Nat.lt_irrefl _ ((C4.out.at_.kids y hy).lt _ e).2⟩

set_option maxHeartbeats 4000000 in
set_option maxRecDepth 100000 in
theorem loop_any {X : Rdr} {r : Md → St → Rs Fo} (hX : KEx X r) (hS : KSt X r) {w : World} {s : St} {ns : List NV} {v : Value} (h : At X w s ns v) (d : Nat) (hd : d ≤ 40) (hne : s.l ≠ []) (hno : whileB X.e r d s ≠ .out) :
    Calls Tryz.prog 112 #[rd X, .int .i64 d] w (RT X w ns v (whileB X.e r d s)) := by
  have hC := Cur.start h
  obtain ⟨M, hM⟩ : ∃ M, whileB X.e r d s = M := ⟨_, rfl⟩
  rw [hM]
  have HM := Lib.hid hM
  have HO := Lib.hid hno
  have C0 := Lib.hid hC
  clear hM h hC hno
  have hfl := fun t W => fld_p t W
  have hfs := fun t W => fld_s t W
  go_enter Tryz.func112, Tryz.ntmps112
  go_wp2_with fail
  refine (c_next C0.out hne).mono ?_
  rintro e w1 ⟨rfl, hC, hK⟩
  have C1 := Lib.hid hC
  clear hC hK
  rw [str_eta]
  generalize hpt : pk X.e s = t
  have hwl : w.heap.size ≤ w1.heap.size := C1.out.kp.size
  have N1 := Lib.hid (C1.out.new tN (cells8 ⟨⟨16, t.p, 0, [], 0, 0⟩, [], .slice none 0 0⟩).toArray)
  go_wp2_with fail
  have hno2 : guardB X.e r d s.nx ≠ .out := by
    have := HO.out
    simp only [whileB] at this
    exact ne_out this
  refine (guarded_any hX hS (C1.out.alloc _).at_ d hd hno2).mono ?_
  intro e w2 hR
  rcases (C1.out.alloc _).ra hR with ⟨no, p, hm, rfl, hb⟩ | ⟨a2, s2, v2, nk2, g2, m2, cp2, hm, rfl, hC, hK, hF, hkv, hgl, hap⟩
  · have HE : whileB X.e r d s = .er no p := by first | (simp only [whileB, hm, Rs.bind_ok, Rs.bind_er, if_true, if_false, Bool.false_eq_true, ite_true, ite_false]; done) | (simp only [whileB, must2_er hm, Rs.bind_ok, Rs.bind_er, if_true, if_false, Bool.false_eq_true, ite_true, ite_false])
    have HH := Lib.hid (And.intro HE hb)
    clear HE hb hm
    go_wp2_with fail
    refine panic_end rfl ?_
    rw [← HM.out, HH.out.1]
    exact ⟨rfl, HH.out.2⟩
  have E2 := Lib.hid hm
  have C2 := Lib.hid hC
  have F2 := Lib.hid hF
  have N2 := Lib.hid ((N1.out).kept hK)
  obtain ⟨-, -, -, -, -, Nc5, -, -, Ncl, Ncf⟩ := N2.out.blk.node
  have hgl2 : w1.heap.size + 1 ≤ g2 := by simpa using hgl
  have hwg : w.heap.size ≤ g2 := by omega
  have hgj : g2 ≠ w1.heap.size := by omega
  have C2s := Lib.hid (hC.set_ N2.out hwl (by decide) 5 (.slice (some ⟨g2, 0, none⟩) m2 cp2))
  have hkv2 := row_keep (w' := w2.setCell ⟨w1.heap.size, 5, none⟩ (.slice (some ⟨g2, 0, none⟩) m2 cp2)) hkv fun g' hg' => Below.heap_setCell w2 _ _ g' (by simp [Value.ownBlock] at hg'; simp; omega)
  have K2 := Lib.hid hkv2
  have N2s : Hid (Loc X (w2.setCell ⟨w1.heap.size, 5, none⟩ (.slice (some ⟨g2, 0, none⟩) m2 cp2)) v2 w1.heap.size tN (cells8 ⟨⟨16, t.p, 0, [], 0, 0⟩, a2.roots ns.length, .slice (some ⟨g2, 0, none⟩) m2 cp2⟩).toArray) := Lib.hid (N2.out.set_ 5 (.slice (some ⟨g2, 0, none⟩) m2 cp2))
  obtain ⟨n0, n1, n2, n3, n4, n5, n6, n7, nl, -⟩ := N2s.out.blk.node
  clear hm hC hK hR hF hkv hgl hkv2 hno2 hap
  go_wp2_with fail
  have hfr : ∀ g, (Value.slice (some ⟨g2, 0, none⟩) m2 cp2).ownBlock = some g → w.heap.size ≤ g := fun g hg => by simp [Value.ownBlock] at hg; omega
  have HEE : whileB X.e r d s = addM ⟨16, t.p, 0, [], 0, 0⟩ a2 s2 := by rw [← hpt]; simp only [whileB, E2.out, Rs.bind_ok, Rs.bind_er, if_true, if_false, Bool.false_eq_true, ite_true, ite_false]
  have HE := Lib.hid HEE
  clear HEE
  refine (c_add C2s.out ⟨16, t.p, 0, [], 0, 0⟩ a2 F2.out hfr K2.out).mono ?_
  intro e w99 hR
  have HR := Lib.hid hR
  rcases hR.form with ⟨i, rfl⟩ | ⟨ch, rfl⟩
  · clear hR
    go_wp2_with fail
    go_ret
    rw [← HM.out, HE.out]
    exact HR.out
  · clear hR
    go_wp2_with fail
    refine panic_end rfl ?_
    rw [← HM.out, HE.out]
    exact HR.out
end Go.Proofs.YtfaoiajhoifalaaGreatDoor
