/-
  Layer parse: the walks of the functions that read operands: operands, expressions.
-/
import Derived.Test.YtfaoiajhoifalaaGreatDoorParf
import Derived.Deep.RegionHeld2
namespace Go.Proofs.YtfaoiajhoifalaaGreatDoor
open Go.RowKit
set_option linter.unusedVariables false
set_option linter.unusedSimpArgs false

theorem must3_er {e : Tok} {x y z : List UInt8} {s : St} {no p : Int} {f : St → Rs Fo} (h : ((must e x s).bind fun _ s => (must e y s).bind fun _ s => must e z s) = .er no p) :
    ((must e x s).bind fun _ s' => (must e y s').bind fun _ s' => (must e z s').bind fun _ s' => f s') = .er no p := by
  cases h1 : must e x s with
  | ok a s1 =>
    rw [h1] at h
    simp only [Rs.bind] at h ⊢
    cases h2 : must e y s1 with
    | ok a s2 =>
      rw [h2] at h
      simp only at h ⊢
      rw [h]
    | er _ _ => rw [h2] at h; cases h; rfl
    | out => rw [h2] at h; cases h
  | er _ _ => rw [h1] at h; cases h; rfl
  | out => rw [h1] at h; cases h
theorem must3_ok {e : Tok} {x y z : List UInt8} {s s' : St} {a : Unit} {f : St → Rs Fo} (h : ((must e x s).bind fun _ s => (must e y s).bind fun _ s => must e z s) = .ok a s') :
    ((must e x s).bind fun _ s' => (must e y s').bind fun _ s' => (must e z s').bind fun _ s' => f s') = f s' := by
  cases h1 : must e x s with
  | ok a s1 =>
    rw [h1] at h
    simp only [Rs.bind] at h ⊢
    cases h2 : must e y s1 with
    | ok a s2 =>
      rw [h2] at h
      simp only at h ⊢
      rw [h]
    | er _ _ => rw [h2] at h; cases h
    | out => rw [h2] at h; cases h
  | er _ _ => rw [h1] at h; cases h
  | out => rw [h1] at h; cases h

set_option maxHeartbeats 1000000 in
theorem expression_any {X : Rdr} {r : Md → St → Rs Fo} (hB : KBn X r) : KEx X r := by
  intro d w s ns v hd h hno
  go_enter Tryz.func145, Tryz.ntmps145
  go_wp2_with fail
  refine (hB d 1 w s ns v hd (Nat.le_refl _) (by omega) h hno).mono ?_
  intro e w1 hR
  have HR := Lib.hid hR
  rcases hR.form with ⟨i, rfl⟩ | ⟨ch, rfl⟩
  · clear hR
    go_wp2_with fail
    go_ret
    exact HR.out
  · clear hR
    go_wp2_with fail
    exact panic_end rfl HR.out

set_option maxHeartbeats 4000000 in
set_option maxRecDepth 100000 in
theorem operand_any {X : Rdr} {r : Md → St → Rs Fo} (hO : KOp X r) (hX : KEx X r) (hA : KAr X r) (hL : KEl X r) {w : World} {s : St} {ns : List NV} {v : Value} (h : At X w s ns v) (d : Nat) (hd : d ≤ 100) (hno : opdB X.e r d s ≠ .out) :
    Calls Tryz.prog 183 #[rd X, .int .i64 d] w (RT X w ns v (opdB X.e r d s)) := by
  have hC := Cur.start h
  obtain ⟨M, hM⟩ : ∃ M, opdB X.e r d s = M := ⟨_, rfl⟩
  rw [hM]
  have HM := Lib.hid hM
  have HO := Lib.hid hno
  have C0 := Lib.hid hC
  clear hM h hC hno
  have HCP : Hid (((d : Int) + 1) = ((d + 1 : Nat) : Int)) := Lib.hid (by simp)
  go_enter Tryz.func183, Tryz.ntmps183
  go_wp2_with fail
  refine (c_enter C0.out d (by omega)).mono ?_
  intro e w1 hR
  rcases hR.cases with ⟨no, p, hm, rfl, hb⟩ | ⟨a1, s1, hm, rfl, hC, hK⟩
  · have HE : opdB X.e r d s = .er no p := by simp only [opdB, hm, Rs.bind_ok, Rs.bind_er, if_true, if_false, Bool.false_eq_true, ite_true, ite_false]
    have HH := Lib.hid (And.intro HE hb)
    clear HE hb hm
    go_wp2_with fail
    refine panic_end rfl ?_
    rw [← HM.out, HH.out.1]
    exact ⟨rfl, HH.out.2⟩
  have E1 := Lib.hid hm
  have C1 := Lib.hid hC
  clear hm hC hK hR
  obtain ⟨hs1, hd40⟩ : s1 = s ∧ d ≤ 40 := by
    have := E1.out
    unfold enterM at this
    split at this
    · cases this
    · cases this; exact ⟨rfl, by omega⟩
  subst hs1
  go_wp2_with fail
  refine (c_peek C1.out).mono ?_
  rintro e w2 ⟨rfl, hC, hK⟩
  have C2 := Lib.hid hC
  clear hC hK
  have hEq := E1.out
  rw [str_eta]
  have hne : pk X.e s1 ≠ X.e → s1.l ≠ [] := fun h1 e => h1 (by simp [pk, e])
  have hM2 : opdB X.e r d s1 = if (pk X.e s1).k = 2 then numB X.e s1 else if isNm (pk X.e s1) then varB X.e r d s1 else if q (pk X.e s1) = [45] ∨ q (pk X.e s1) = [126] ∨ q (pk X.e s1) = [33] then unB X.e r d s1 else if q (pk X.e s1) = [40] then encB X.e r d s1 else if q (pk X.e s1) = wIn then inB X.e s1 else wr X.e 2 s1 := by
    simp only [opdB, E1.out, Rs.bind_ok]
  have hk4 := C2.out.at_.fin
  generalize hpt : pk X.e s1 = t at *
  clear hEq
  by_cases h2 : t.k = 2
  · have hn0 := h2
    have hn := hne (fun h1 => by rw [h1, hk4] at h2; cases h2)
    rw [if_pos h2] at hM2
    have hd2 : decide (t.k = 2) = true := by simpa using h2
    have HE := Lib.hid hM2
    clear hM2
    go_wp2_with fail
    have C9 := Lib.hid (C2.out.alloc (.cells #[.int .i64 2, .int .i64 t.p, .int .i64 t.n, .string (str t.s)] tE))
    refine (number_any C9.out.at_ hn).mono ?_
    intro e w98 hR0
    have hR : RT X w ns v (numB X.e s1) e w98 := rt_of C9.out hR0
    have HR := Lib.hid hR
    rcases hR.form with ⟨i, rfl⟩ | ⟨ch, rfl⟩
    · clear hR hR0
      go_wp2_with fail
      go_ret
      rw [← HM.out, HE.out]
      exact HR.out
    · clear hR hR0
      go_wp2_with fail
      refine panic_end rfl ?_
      rw [← HM.out, HE.out]
      exact HR.out
  have hd2 : decide (t.k = 2) = false := by simpa using h2
  rw [if_neg h2] at hM2
  have HM2 := Lib.hid hM2
  clear hM2
  go_wp2_with fail
  refine (c_isName (C2.out.alloc (.cells (tokA t) tE)) t).mono ?_
  rintro e w3 ⟨rfl, hC, hK⟩
  have C3 := Lib.hid hC
  have T3 := Lib.hid ((C2.out.new tE (tokA t)).kept hK)
  obtain ⟨Tc0, Tc1, Tc2, Tc3, Tcl⟩ := (T3.out).blk.tok
  clear hC hK
  have hM2 := HM2.out
  cases hn : isNm t
  · have hn0 := hn
    rw [hn] at hM2
    simp only [Bool.false_eq_true, if_false] at hM2
    have HM3 := Lib.hid hM2
    clear hM2
    go_wp2_with fail
    refine (c_quoted C3.out t).mono ?_
    rintro e w4 ⟨rfl, hC, hK⟩
    have C4 := Lib.hid hC
    have T4 := Lib.hid ((T3.out).kept hK)
    obtain ⟨Tc0, Tc1, Tc2, Tc3, Tcl⟩ := (T4.out).blk.tok
    clear hC hK
    have hM2 := HM3.out
    clear HM2
    by_cases hu : q t = [45] ∨ q t = [126] ∨ q t = [33]
    · have hu0 := hu
      rw [if_pos hu] at hM2
      have HE := Lib.hid hM2
      clear hM2
      have hn := hne (fun h1 => by rw [h1, q_end hk4] at hu; simp at hu)
      have hs : q t = t.s := by
        unfold q at hu ⊢
        split
        · rfl
        · rename_i h'; rw [if_neg h'] at hu; simp at hu
      have hno2 : r (.opd (d + 1)) s1.nx ≠ .out := by
        have := HO.out
        rw [HE.out] at this
        simp only [unB] at this
        exact ne_out this
      have HU : Hid (∀ R, Calls Tryz.prog 120 #[rd X] w4 R → Calls Tryz.prog 120 #[rd X] w4 R) := Lib.hid (fun _ h => h)
      rcases hu with hu | hu | hu
      · have hu0 := hu
        rw [hu]
        go_wp2_with fail
        refine (c_next C4.out hn).mono ?_
        rintro e w5 ⟨rfl, hC, hK⟩
        have C5 := Lib.hid hC
        clear hC hK
        rw [hpt, str_eta]
        go_wp2_with fail
        have T5 := C5.out.new tE (tokA t)
        have CA := C5.out.alloc (.cells (tokA t) tE)
        unfold tokA at T5 CA
        generalize w5.alloc (Obj.cells #[Value.int .i64 t.k, Value.int .i64 t.p, Value.int .i64 t.n, Value.string (str t.s)] tE) = W5 at *
        have T6 : Loc X W5 v w5.heap.size tE (tokA t) := T5
        obtain ⟨Tc0, Tc1, Tc2, Tc3, Tcl⟩ := T6.blk.tok
        have HT5 := Lib.hid T6
        have hX2 := CA.tree fun W hW => hO (d + 1) W s1.nx ns v (by omega) hW hno2
        have hE2 := fun no p (hm : r (.opd (d + 1)) s1.nx = .er no p) => (by rw [HE.out]; simp only [unB, hm, Rs.bind_er] : opdB X.e r d s1 = .er no p)
        have HX2 := Lib.hid hX2
        have HE2 := Lib.hid hE2
        have HWR : Hid (IntKind.i64.wrap ((d : Int) + 1) = ((d + 1 : Nat) : Int)) := Lib.hid (by rw [IntKind.wrap_i64]; omega)
        clear hX2 hE2 T5 T6 CA
        go_region_held2 (fun W => W.cell? ⟨w5.heap.size, 1, none⟩ = some (.int .i64 t.p) ∧ W.cell? ⟨w5.heap.size, 3, none⟩ = some (.string (str t.s)) ∧ w5.heap.size < W.heap.size) (first | exact ⟨Tc1, Tc3, Tcl⟩ | exact ⟨T61, T63, T6l⟩ | exact ss_alloc ⟨T61, T63, T6l⟩ _ | exact ⟨T71, T73, T7l⟩) (first | (go_at_call 183; rw [HWR.out]; refine (HX2.out _ (by exact bd1 _)).mono ?_; intro e w6 hR; rcases hR.cases with ⟨no, p, hm, rfl, hb⟩ | ⟨h6, k6, s6, v6, nk6, hm, rfl, hC, hK, hF⟩; (refine panic_end rfl ?_; rw [← HM.out, HE2.out no p hm]; exact ⟨rfl, hb⟩); have C6 := Lib.hid hC; have F6 := Lib.hid hF; have E6 := Lib.hid hm; have T6 := (HT5.out.go (bd1 _)).kept hK; have HT6 := Lib.hid T6; obtain ⟨-, T61, -, T63, T6l⟩ := T6.blk.tok; clear hR hm hC hF hK T6) | (go_at_call 144; refine (c_addK (C6.out.alloc _) ⟨4, t.p, 0, t.s, 0, 0⟩ (Fo.one h6 k6) F6.out (fr1 C6.out) (kid1 C6.out _ _)).mono ?_; rintro e w7 ⟨hR, ⟨no, p, rfl⟩ | ⟨i, u7, rfl, hK⟩⟩; (refine panic_end rfl ?_; rw [← HM.out, HE.out]; simp only [unB, E6.out, Rs.bind_ok]; rw [hpt]; exact hR); have HR := Lib.hid hR; obtain ⟨-, T71, -, T73, T7l⟩ := ((HT6.out.alloc _).kept hK).blk.tok; clear hR hK))
        all_goals
          go_wp2_with fail
          go_ret
          rw [← HM.out, HE.out]
          simp only [unB, E6.out, Rs.bind_ok]
          rw [hpt]
          exact HR.out
      · have hu0 := hu
        rw [hu]
        go_wp2_with fail
        refine (c_next C4.out hn).mono ?_
        rintro e w5 ⟨rfl, hC, hK⟩
        have C5 := Lib.hid hC
        clear hC hK
        rw [hpt, str_eta]
        go_wp2_with fail
        have T5 := C5.out.new tE (tokA t)
        have CA := C5.out.alloc (.cells (tokA t) tE)
        unfold tokA at T5 CA
        generalize w5.alloc (Obj.cells #[Value.int .i64 t.k, Value.int .i64 t.p, Value.int .i64 t.n, Value.string (str t.s)] tE) = W5 at *
        have T6 : Loc X W5 v w5.heap.size tE (tokA t) := T5
        obtain ⟨Tc0, Tc1, Tc2, Tc3, Tcl⟩ := T6.blk.tok
        have HT5 := Lib.hid T6
        have hX2 := CA.tree fun W hW => hO (d + 1) W s1.nx ns v (by omega) hW hno2
        have hE2 := fun no p (hm : r (.opd (d + 1)) s1.nx = .er no p) => (by rw [HE.out]; simp only [unB, hm, Rs.bind_er] : opdB X.e r d s1 = .er no p)
        have HX2 := Lib.hid hX2
        have HE2 := Lib.hid hE2
        have HWR : Hid (IntKind.i64.wrap ((d : Int) + 1) = ((d + 1 : Nat) : Int)) := Lib.hid (by rw [IntKind.wrap_i64]; omega)
        clear hX2 hE2 T5 T6 CA
        go_region_held2 (fun W => W.cell? ⟨w5.heap.size, 1, none⟩ = some (.int .i64 t.p) ∧ W.cell? ⟨w5.heap.size, 3, none⟩ = some (.string (str t.s)) ∧ w5.heap.size < W.heap.size) (first | exact ⟨Tc1, Tc3, Tcl⟩ | exact ⟨T61, T63, T6l⟩ | exact ss_alloc ⟨T61, T63, T6l⟩ _ | exact ⟨T71, T73, T7l⟩) (first | (go_at_call 183; rw [HWR.out]; refine (HX2.out _ (by exact bd1 _)).mono ?_; intro e w6 hR; rcases hR.cases with ⟨no, p, hm, rfl, hb⟩ | ⟨h6, k6, s6, v6, nk6, hm, rfl, hC, hK, hF⟩; (refine panic_end rfl ?_; rw [← HM.out, HE2.out no p hm]; exact ⟨rfl, hb⟩); have C6 := Lib.hid hC; have F6 := Lib.hid hF; have E6 := Lib.hid hm; have T6 := (HT5.out.go (bd1 _)).kept hK; have HT6 := Lib.hid T6; obtain ⟨-, T61, -, T63, T6l⟩ := T6.blk.tok; clear hR hm hC hF hK T6) | (go_at_call 144; refine (c_addK (C6.out.alloc _) ⟨4, t.p, 0, t.s, 0, 0⟩ (Fo.one h6 k6) F6.out (fr1 C6.out) (kid1 C6.out _ _)).mono ?_; rintro e w7 ⟨hR, ⟨no, p, rfl⟩ | ⟨i, u7, rfl, hK⟩⟩; (refine panic_end rfl ?_; rw [← HM.out, HE.out]; simp only [unB, E6.out, Rs.bind_ok]; rw [hpt]; exact hR); have HR := Lib.hid hR; obtain ⟨-, T71, -, T73, T7l⟩ := ((HT6.out.alloc _).kept hK).blk.tok; clear hR hK))
        all_goals
          go_wp2_with fail
          go_ret
          rw [← HM.out, HE.out]
          simp only [unB, E6.out, Rs.bind_ok]
          rw [hpt]
          exact HR.out
      · have hu0 := hu
        rw [hu]
        go_wp2_with fail
        refine (c_next C4.out hn).mono ?_
        rintro e w5 ⟨rfl, hC, hK⟩
        have C5 := Lib.hid hC
        clear hC hK
        rw [hpt, str_eta]
        go_wp2_with fail
        have T5 := C5.out.new tE (tokA t)
        have CA := C5.out.alloc (.cells (tokA t) tE)
        unfold tokA at T5 CA
        generalize w5.alloc (Obj.cells #[Value.int .i64 t.k, Value.int .i64 t.p, Value.int .i64 t.n, Value.string (str t.s)] tE) = W5 at *
        have T6 : Loc X W5 v w5.heap.size tE (tokA t) := T5
        obtain ⟨Tc0, Tc1, Tc2, Tc3, Tcl⟩ := T6.blk.tok
        have HT5 := Lib.hid T6
        have hX2 := CA.tree fun W hW => hO (d + 1) W s1.nx ns v (by omega) hW hno2
        have hE2 := fun no p (hm : r (.opd (d + 1)) s1.nx = .er no p) => (by rw [HE.out]; simp only [unB, hm, Rs.bind_er] : opdB X.e r d s1 = .er no p)
        have HX2 := Lib.hid hX2
        have HE2 := Lib.hid hE2
        have HWR : Hid (IntKind.i64.wrap ((d : Int) + 1) = ((d + 1 : Nat) : Int)) := Lib.hid (by rw [IntKind.wrap_i64]; omega)
        clear hX2 hE2 T5 T6 CA
        go_region_held2 (fun W => W.cell? ⟨w5.heap.size, 1, none⟩ = some (.int .i64 t.p) ∧ W.cell? ⟨w5.heap.size, 3, none⟩ = some (.string (str t.s)) ∧ w5.heap.size < W.heap.size) (first | exact ⟨Tc1, Tc3, Tcl⟩ | exact ⟨T61, T63, T6l⟩ | exact ss_alloc ⟨T61, T63, T6l⟩ _ | exact ⟨T71, T73, T7l⟩) (first | (go_at_call 183; rw [HWR.out]; refine (HX2.out _ (by exact bd1 _)).mono ?_; intro e w6 hR; rcases hR.cases with ⟨no, p, hm, rfl, hb⟩ | ⟨h6, k6, s6, v6, nk6, hm, rfl, hC, hK, hF⟩; (refine panic_end rfl ?_; rw [← HM.out, HE2.out no p hm]; exact ⟨rfl, hb⟩); have C6 := Lib.hid hC; have F6 := Lib.hid hF; have E6 := Lib.hid hm; have T6 := (HT5.out.go (bd1 _)).kept hK; have HT6 := Lib.hid T6; obtain ⟨-, T61, -, T63, T6l⟩ := T6.blk.tok; clear hR hm hC hF hK T6) | (go_at_call 144; refine (c_addK (C6.out.alloc _) ⟨4, t.p, 0, t.s, 0, 0⟩ (Fo.one h6 k6) F6.out (fr1 C6.out) (kid1 C6.out _ _)).mono ?_; rintro e w7 ⟨hR, ⟨no, p, rfl⟩ | ⟨i, u7, rfl, hK⟩⟩; (refine panic_end rfl ?_; rw [← HM.out, HE.out]; simp only [unB, E6.out, Rs.bind_ok]; rw [hpt]; exact hR); have HR := Lib.hid hR; obtain ⟨-, T71, -, T73, T7l⟩ := ((HT6.out.alloc _).kept hK).blk.tok; clear hR hK))
        all_goals
          go_wp2_with fail
          go_ret
          rw [← HM.out, HE.out]
          simp only [unB, E6.out, Rs.bind_ok]
          rw [hpt]
          exact HR.out
    have hu1 : (q t == [45]) = false := by simp only [beq_eq_false_iff_ne]; exact fun h' => hu (.inl h')
    have hu2 : (q t == [126]) = false := by simp only [beq_eq_false_iff_ne]; exact fun h' => hu (.inr (.inl h'))
    have hu3 : (q t == [33]) = false := by simp only [beq_eq_false_iff_ne]; exact fun h' => hu (.inr (.inr h'))
    rw [if_neg hu] at hM2
    by_cases hp : q t = [40]
    · have hp0 := hp
      have hn := hne (fun h1 => by rw [h1, q_end hk4] at hp; simp at hp)
      rw [if_pos hp] at hM2
      have HE := Lib.hid hM2
      clear hM2
      rw [hp]
      go_wp2_with fail
      have C9 := C4
      refine (enclosed_any hO hX C9.out.at_ d hd40 hn (by have := HO.out; rw [HE.out] at this; exact this)).mono ?_
      intro e w98 hR0
      have hR : RT X w ns v (encB X.e r d s1) e w98 := rt_of C9.out hR0
      have HR := Lib.hid hR
      rcases hR.form with ⟨i, rfl⟩ | ⟨ch, rfl⟩
      · clear hR hR0
        go_wp2_with fail
        go_ret
        rw [← HM.out, HE.out]
        exact HR.out
      · clear hR hR0
        go_wp2_with fail
        refine panic_end rfl ?_
        rw [← HM.out, HE.out]
        exact HR.out
    have hp1 : (q t == [40]) = false := by simpa using hp
    rw [if_neg hp] at hM2
    by_cases hi : q t = wIn
    · have hi0 := hi
      rw [if_pos hi] at hM2
      have HE := Lib.hid hM2
      clear hM2
      rw [hi]
      unfold wIn
      go_wp2_with fail
      refine (c_must3 C4.out rfl wIn [40] [41] (by simp [wIn]) (by simp) (by simp)).mono ?_
      intro e w5 hR
      rcases hR.cases with ⟨no, p, hm, rfl, hb⟩ | ⟨a5, s5, hm, rfl, hC, hK⟩
      · have HE2 : inB X.e s1 = .er no p := by
          simp only [inB]
          exact must3_er hm
        have HH := Lib.hid (And.intro HE2 hb)
        clear HE2 hb hm
        go_wp2_with fail
        refine panic_end rfl ?_
        rw [← HM.out, HE.out, HH.out.1]
        exact ⟨rfl, HH.out.2⟩
      have HE5 := Lib.hid (must3_ok (f := fun s => addM ⟨8, (pk X.e s1).p, 0, [], 0, 0⟩ .nil s) hm)
      have C5 := Lib.hid hC
      obtain ⟨Tc0, Tc1, Tc2, Tc3, Tcl⟩ := (T4.out.kept hK).blk.tok
      clear hm hC hK hR
      go_wp2_with fail
      refine (c_leaf C5.out ⟨8, t.p, 0, [], 0, 0⟩).mono ?_
      intro e w99 hR
      have HR := Lib.hid hR
      rcases hR.form with ⟨i, rfl⟩ | ⟨ch, rfl⟩
      · clear hR
        go_wp2_with fail
        go_ret
        rw [← HM.out, HE.out]
        simp only [inB]
        rw [HE5.out, hpt]
        exact HR.out
      · clear hR
        go_wp2_with fail
        refine panic_end rfl ?_
        rw [← HM.out, HE.out]
        simp only [inB]
        rw [HE5.out, hpt]
        exact HR.out
    · have hi0 := hi
      have hi1 : (q t == [105, 110]) = false := by simpa [wIn] using hi
      rw [if_neg hi] at hM2
      have HE := Lib.hid hM2
      clear hM2
      go_wp2_with fail
      refine (c_wrong C4.out 2).mono ?_
      rintro e w5 ⟨rfl, hb⟩
      have HB := Lib.hid hb
      clear hb
      go_wp2_with fail
      refine panic_end rfl ?_
      rw [← HM.out, HE.out]
      exact ⟨by rw [hpt]; rfl, HB.out⟩
  · have hn0 := hn
    rw [if_pos hn] at hM2
    have HE := Lib.hid hM2
    clear hM2
    go_wp2_with fail
    have C9 := C3
    refine (variable_any hA hL C9.out.at_ d hd40 (by have := HO.out; rw [HE.out] at this; exact this)).mono ?_
    intro e w98 hR0
    have hR : RT X w ns v (varB X.e r d s1) e w98 := rt_of C9.out hR0
    have HR := Lib.hid hR
    rcases hR.form with ⟨i, rfl⟩ | ⟨ch, rfl⟩
    · clear hR hR0
      go_wp2_with fail
      go_ret
      rw [← HM.out, HE.out]
      exact HR.out
    · clear hR hR0
      go_wp2_with fail
      refine panic_end rfl ?_
      rw [← HM.out, HE.out]
      exact HR.out
end Go.Proofs.YtfaoiajhoifalaaGreatDoor
