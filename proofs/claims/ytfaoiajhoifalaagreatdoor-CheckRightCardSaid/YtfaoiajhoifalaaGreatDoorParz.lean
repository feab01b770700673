/-
  Layer parse: the walk of the function that reads a statement.
-/
import Derived.Test.YtfaoiajhoifalaaGreatDoorPary
namespace Go.Proofs.YtfaoiajhoifalaaGreatDoor
open Go.RowKit
set_option linter.unusedVariables false
set_option linter.unusedSimpArgs false

theorem stF_range {l : List UInt8} {f : Nat} (h : stF l = some f) : f = 109 ∨ f = 110 ∨ f = 111 ∨ f = 112 ∨ f = 113 ∨ f = 114 ∨ f = 115 := by
  unfold stF at h
  cases hf : stK.find? fun p => decide (p.1 = l) with
  | none => rw [hf] at h; cases h
  | some p =>
    rw [hf] at h
    have hm := List.mem_of_find?_eq_some hf
    simp only [Option.map_some, Option.some.injEq] at h
    subst h
    simp only [stK, List.mem_cons, List.not_mem_nil, or_false] at hm
    rcases hm with rfl | rfl | rfl | rfl | rfl | rfl | rfl | rfl <;> simp
theorem stF_nil : stF [] = none := by decide

set_option maxHeartbeats 4000000 in
set_option maxRecDepth 100000 in
theorem statement_any {X : Rdr} {r : Md → St → Rs Fo} {es : Array MapEntry} {clock : Nat} (hmo : X.mo = .map es clock) (hes : es.toList = stEs) (hX : KEx X r) (hS : KSt X r) (hA : KAr X r)
    (hB : ∀ (d : Nat) (w : World) (s : St) (ns : List NV) (v : Value), d ≤ 40 → At X w s ns v → blockB X.e r d s ≠ .out → Calls Tryz.prog 109 #[rd X, .int .i64 d] w (RT X w ns v (blockB X.e r d s)))
    {w : World} {s : St} {ns : List NV} {v : Value} (h : At X w s ns v) (d : Nat) (hd : d ≤ 100) (hno : stmB X.e r d s ≠ .out) :
    Calls Tryz.prog 143 #[rd X, .int .i64 d] w (RT X w ns v (stmB X.e r d s)) := by
  have hC := Cur.start h
  obtain ⟨M, hM⟩ : ∃ M, stmB X.e r d s = M := ⟨_, rfl⟩
  rw [hM]
  have HM := Lib.hid hM
  have HO := Lib.hid hno
  have C0 := Lib.hid hC
  clear hM h hC hno
  go_enter Tryz.func143, Tryz.ntmps143
  go_wp2_with fail
  refine (c_enter C0.out d (by omega)).mono ?_
  intro e w1 hR
  rcases hR.cases with ⟨no, p, hm, rfl, hb⟩ | ⟨a1, s1, hm, rfl, hC, hK⟩
  · have HE : stmB X.e r d s = .er no p := by first | (simp only [stmB, hm, Rs.bind_ok, Rs.bind_er, if_true, if_false, Bool.false_eq_true, ite_true, ite_false]; done) | (simp only [stmB, must2_er hm, Rs.bind_ok, Rs.bind_er, if_true, if_false, Bool.false_eq_true, ite_true, ite_false])
    have HH := Lib.hid (And.intro HE hb)
    clear HE hb hm
    go_wp2_with fail
    refine panic_end rfl ?_
    rw [← HM.out, HH.out.1]
    exact ⟨rfl, HH.out.2⟩
  have E1 := Lib.hid hm
  have C1 := Lib.hid hC
  clear hm hC hK hR
  obtain ⟨hs1, hd40⟩ : s1 = s ∧ d ≤ 40 := by
    have := E1.out
    unfold enterM at this
    split at this
    · cases this
    · cases this; exact ⟨rfl, by omega⟩
  subst hs1
  have hM2 : stmB X.e r d s1 = if isNm (pk X.e s1) then namedB X.e r d s1 else match stF (q (pk X.e s1)) with | some f => if f = 109 then blockB X.e r d s1 else if f = 110 then localB X.e r d s1 else if f = 111 then ifB X.e r d s1 else if f = 112 then whileB X.e r d s1 else if f = 113 then gotoB X.e d s1 else if f = 114 then retB X.e r d s1 else outB X.e r d s1 | none => wr X.e 2 s1 := by
    simp only [stmB, E1.out, Rs.bind_ok]
    exact stm_cases
  have HM2 := Lib.hid hM2
  clear hM2
  go_wp2_with fail
  refine (c_peek C1.out).mono ?_
  rintro e w2 ⟨rfl, hC, hK⟩
  have C2 := Lib.hid hC
  clear hC hK
  go_wp2_with fail
  refine (c_isName C2.out _).mono ?_
  rintro e w3 ⟨rfl, hC, hK⟩
  have C3 := Lib.hid hC
  clear hC hK
  have hk4 := C3.out.at_.fin
  have hnl0 : q (pk X.e s1) ≠ [] → s1.l ≠ [] := fun h1 e => h1 (by simp only [pk, e, List.headD_nil, q_end hk4])
  cases hn : isNm (pk X.e s1)
  · have hn0 := hn
    have c7 := C3.out.at_.blk.cell 7
    simp only [rdCells, List.getElem?_toArray, List.getElem?_cons_zero, List.getElem?_cons_succ] at c7
    have hbl := C3.out.at_.blk.lt
    have HC := Lib.hid c7
    unfold rd at *
    have HN0 := Lib.hid hn0
    clear hn0
    clear hn
    go_wp2_with fail
    go_region_held2 (fun W => W.cell? ⟨X.b, 7, none⟩ = some (.map (some X.mb)) ∧ X.b < W.heap.size) (first | (with_reducible exact ⟨c7, hbl⟩) | exact ⟨c7, hbl⟩ | (with_reducible exact ⟨c75, hbl5⟩) | (with_reducible exact ⟨c76, hbl6⟩)) (first | (go_at_call 79; refine (c_peek (C3.out.go (bd1 _))).mono ?_; rintro e w5 ⟨rfl, hC, hK⟩; have C5 := Lib.hid hC; have c75 := hC.at_.blk.cell 7; simp only [rdCells, List.getElem?_toArray, List.getElem?_cons_zero, List.getElem?_cons_succ] at c75; have hbl5 := hC.at_.blk.lt; clear hC hK) | (go_at_call 117; refine (c_quoted C5.out _).mono ?_; rintro e w6 ⟨rfl, hC, hK⟩; have C6 := Lib.hid hC; have c76 := hC.at_.blk.cell 7; simp only [rdCells, List.getElem?_toArray, List.getElem?_cons_zero, List.getElem?_cons_succ] at c76; have hbl6 := hC.at_.blk.lt; have hlk := look_any X.mb es clock hes (q (pk X.e s1)) w6 (by rw [hC.at_.mph, hmo]); generalize hfq : stF (q (pk X.e s1)) = fq at hlk; have HFQ := Lib.hid hfq; clear hfq hC hK))
    cases fq with
    | none =>
      have HE : stmB X.e r d s1 = wr X.e 2 s1 := by rw [HM2.out]; simp only [HN0.out, Bool.false_eq_true, if_false, HFQ.out]
      have HE := Lib.hid HE
      go_wp2_with fail
      have hw := c_wrong C6.out 2
      unfold rd at hw
      refine hw.mono ?_
      rintro e w7 ⟨rfl, hb⟩
      have HB := Lib.hid hb
      clear hb hw
      go_wp2_with fail
      refine panic_end rfl ?_
      rw [← HM.out, HE.out]
      exact ⟨rfl, HB.out⟩
    | some f =>
      have hne := hnl0 (fun e => by have h1 := HFQ.out; rw [e, stF_nil] at h1; cases h1)
      have HNE := Lib.hid hne
      clear hne hnl0
      rcases stF_range HFQ.out with rfl | rfl | rfl | rfl | rfl | rfl | rfl
      · have C9 := C6
        go_wp2_with fail
        have HE : stmB X.e r d s1 = blockB X.e r d s1 := by rw [HM2.out]; simp only [HN0.out, Bool.false_eq_true, if_false, HFQ.out]; rfl
        have HE := Lib.hid HE
        have hcc := hB d w6 s1 ns v hd40 C9.out.at_ (by have := HO.out; rw [HE.out] at this; exact this)
        unfold rd at hcc
        refine hcc.mono ?_
        intro e w98 hR0
        have hR : RT X w ns v (blockB X.e r d s1) e w98 := rt_of C9.out hR0
        have HR := Lib.hid hR
        rcases hR.form with ⟨i, rfl⟩ | ⟨ch, rfl⟩
        · clear hR hR0 hcc
          go_wp2_with fail
          go_ret
          rw [← HM.out, HE.out]
          exact HR.out
        · clear hR hR0 hcc
          go_wp2_with fail
          refine panic_end rfl ?_
          rw [← HM.out, HE.out]
          exact HR.out
      · have C9 := C6
        go_wp2_with fail
        have HE : stmB X.e r d s1 = localB X.e r d s1 := by rw [HM2.out]; simp only [HN0.out, Bool.false_eq_true, if_false, HFQ.out]; rfl
        have HE := Lib.hid HE
        have hcc := local_any hX C9.out.at_ d hd40 (by have := HO.out; rw [HE.out] at this; exact this)
        unfold rd at hcc
        refine hcc.mono ?_
        intro e w98 hR0
        have hR : RT X w ns v (localB X.e r d s1) e w98 := rt_of C9.out hR0
        have HR := Lib.hid hR
        rcases hR.form with ⟨i, rfl⟩ | ⟨ch, rfl⟩
        · clear hR hR0 hcc
          go_wp2_with fail
          go_ret
          rw [← HM.out, HE.out]
          exact HR.out
        · clear hR hR0 hcc
          go_wp2_with fail
          refine panic_end rfl ?_
          rw [← HM.out, HE.out]
          exact HR.out
      · have C9 := C6
        go_wp2_with fail
        have HE : stmB X.e r d s1 = ifB X.e r d s1 := by rw [HM2.out]; simp only [HN0.out, Bool.false_eq_true, if_false, HFQ.out]; rfl
        have HE := Lib.hid HE
        have hcc := branch_any hX hS C9.out.at_ d hd40 HNE.out (by have := HO.out; rw [HE.out] at this; exact this)
        unfold rd at hcc
        refine hcc.mono ?_
        intro e w98 hR0
        have hR : RT X w ns v (ifB X.e r d s1) e w98 := rt_of C9.out hR0
        have HR := Lib.hid hR
        rcases hR.form with ⟨i, rfl⟩ | ⟨ch, rfl⟩
        · clear hR hR0 hcc
          go_wp2_with fail
          go_ret
          rw [← HM.out, HE.out]
          exact HR.out
        · clear hR hR0 hcc
          go_wp2_with fail
          refine panic_end rfl ?_
          rw [← HM.out, HE.out]
          exact HR.out
      · have C9 := C6
        go_wp2_with fail
        have HE : stmB X.e r d s1 = whileB X.e r d s1 := by rw [HM2.out]; simp only [HN0.out, Bool.false_eq_true, if_false, HFQ.out]; rfl
        have HE := Lib.hid HE
        have hcc := loop_any hX hS C9.out.at_ d hd40 HNE.out (by have := HO.out; rw [HE.out] at this; exact this)
        unfold rd at hcc
        refine hcc.mono ?_
        intro e w98 hR0
        have hR : RT X w ns v (whileB X.e r d s1) e w98 := rt_of C9.out hR0
        have HR := Lib.hid hR
        rcases hR.form with ⟨i, rfl⟩ | ⟨ch, rfl⟩
        · clear hR hR0 hcc
          go_wp2_with fail
          go_ret
          rw [← HM.out, HE.out]
          exact HR.out
        · clear hR hR0 hcc
          go_wp2_with fail
          refine panic_end rfl ?_
          rw [← HM.out, HE.out]
          exact HR.out
      · have C9 := C6
        go_wp2_with fail
        have HE : stmB X.e r d s1 = gotoB X.e d s1 := by rw [HM2.out]; simp only [HN0.out, Bool.false_eq_true, if_false, HFQ.out]; rfl
        have HE := Lib.hid HE
        have hcc := jump_any C9.out.at_ d hd40 HNE.out
        unfold rd at hcc
        refine hcc.mono ?_
        intro e w98 hR0
        have hR : RT X w ns v (gotoB X.e d s1) e w98 := rt_of C9.out hR0
        have HR := Lib.hid hR
        rcases hR.form with ⟨i, rfl⟩ | ⟨ch, rfl⟩
        · clear hR hR0 hcc
          go_wp2_with fail
          go_ret
          rw [← HM.out, HE.out]
          exact HR.out
        · clear hR hR0 hcc
          go_wp2_with fail
          refine panic_end rfl ?_
          rw [← HM.out, HE.out]
          exact HR.out
      · have C9 := C6
        go_wp2_with fail
        have HE : stmB X.e r d s1 = retB X.e r d s1 := by rw [HM2.out]; simp only [HN0.out, Bool.false_eq_true, if_false, HFQ.out]; rfl
        have HE := Lib.hid HE
        have hcc := leave_any hX C9.out.at_ d hd40 HNE.out (by have := HO.out; rw [HE.out] at this; exact this)
        unfold rd at hcc
        refine hcc.mono ?_
        intro e w98 hR0
        have hR : RT X w ns v (retB X.e r d s1) e w98 := rt_of C9.out hR0
        have HR := Lib.hid hR
        rcases hR.form with ⟨i, rfl⟩ | ⟨ch, rfl⟩
        · clear hR hR0 hcc
          go_wp2_with fail
          go_ret
          rw [← HM.out, HE.out]
          exact HR.out
        · clear hR hR0 hcc
          go_wp2_with fail
          refine panic_end rfl ?_
          rw [← HM.out, HE.out]
          exact HR.out
      · have C9 := C6
        go_wp2_with fail
        have HE : stmB X.e r d s1 = outB X.e r d s1 := by rw [HM2.out]; simp only [HN0.out, Bool.false_eq_true, if_false, HFQ.out]; rfl
        have HE := Lib.hid HE
        have hcc := output_any hX C9.out.at_ d hd40 HNE.out (by have := HO.out; rw [HE.out] at this; exact this)
        unfold rd at hcc
        refine hcc.mono ?_
        intro e w98 hR0
        have hR : RT X w ns v (outB X.e r d s1) e w98 := rt_of C9.out hR0
        have HR := Lib.hid hR
        rcases hR.form with ⟨i, rfl⟩ | ⟨ch, rfl⟩
        · clear hR hR0 hcc
          go_wp2_with fail
          go_ret
          rw [← HM.out, HE.out]
          exact HR.out
        · clear hR hR0 hcc
          go_wp2_with fail
          refine panic_end rfl ?_
          rw [← HM.out, HE.out]
          exact HR.out
  · have hn0 := hn
    go_wp2_with fail
    have C9 := C3
    have HE : stmB X.e r d s1 = namedB X.e r d s1 := by rw [HM2.out]; simp only [hn, if_true]
    have HE := Lib.hid HE
    refine (named_any hX hS hA C9.out.at_ d hd40 (by have := HO.out; rw [HE.out] at this; exact this)).mono ?_
    intro e w98 hR0
    have hR : RT X w ns v (namedB X.e r d s1) e w98 := rt_of C9.out hR0
    have HR := Lib.hid hR
    rcases hR.form with ⟨i, rfl⟩ | ⟨ch, rfl⟩
    · clear hR hR0
      go_wp2_with fail
      go_ret
      rw [← HM.out, HE.out]
      exact HR.out
    · clear hR hR0
      go_wp2_with fail
      refine panic_end rfl ?_
      rw [← HM.out, HE.out]
      exact HR.out
end Go.Proofs.YtfaoiajhoifalaaGreatDoor
