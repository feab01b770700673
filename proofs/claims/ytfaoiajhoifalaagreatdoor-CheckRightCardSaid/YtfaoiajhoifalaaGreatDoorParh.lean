/-
  Layer parse: the walks of the functions that read expressions: binary signs, arguments.
-/
import Derived.Test.YtfaoiajhoifalaaGreatDoorParg
import Derived.Deep.LoopGhost
namespace Go.Proofs.YtfaoiajhoifalaaGreatDoor
open Go.RowKit
set_option linter.unusedVariables false
set_option linter.unusedSimpArgs false

/-- Two kids, in a slice of their own. -/
theorem kid2 {X : Rdr} {w W : World} {v u : Value} {s : St} {ns : List NV} (h : Cur X w v W s ns u) (h1 h2 : Hd) (k1 k2 : Fo) {c : Nat} : (W.alloc (.cells #[.int .i64 (c + k1.size : Nat), .int .i64 (c + (Fo.one h1 k1).size + k2.size : Nat)] tI)).ownsRow X.base tI 1 (.slice (some ⟨W.heap.size, 0, none⟩) 2 2)
    (((Fo.one h1 k1).app (Fo.one h2 k2)).roots c).length (kidCells (((Fo.one h1 k1).app (Fo.one h2 k2)).roots c)) := by
  have e : ((Fo.one h1 k1).app (Fo.one h2 k2)).roots c = [c + k1.size, c + (Fo.one h1 k1).size + k2.size] := by rw [Fo.roots_app]; rfl
  rw [e]
  exact World.ownsRow_lit (base := X.base) (e := tI) (size := 1) W #[.int .i64 (c + k1.size : Nat), .int .i64 (c + (Fo.one h1 k1).size + k2.size : Nat)] 2 h.at_.baselt (by decide) rfl
theorem flat2 {w : World} {nk1 nk2 : List NV} {x y : Fo} {c : Nat} (h1 : Fl w nk1 x c) (h2 : Fl w nk2 y (c + x.size)) : Fl w (nk1 ++ nk2) (x.app y) c :=
  ⟨by rw [List.map_append, h1.eq, h2.eq, Fo.flat_app], fun z hz => (List.mem_append.1 hz).elim (h1.new z) (h2.new z)⟩

theorem RT.cases {X : Rdr} {w : World} {v : Value} {s : St} {ns : List NV} (h0 : At X w s ns v) {R : Rs Fo} {e : Ending} {w' : World} (h : RT X w ns v R e w') :
    (∃ no p, R = .er no p ∧ e = .panicked [{ v := .iface tF (faultV no p), recovered := false }] ∧ Below X.base w w') ∨
    (∃ hh k s' v' nk, R = .ok (Fo.one hh k) s' ∧ e = .returned (.int .i64 (ns.length + k.size : Nat)) ∧ Cur X w v w' s' (ns ++ nk) v' ∧ Fl w nk (Fo.one hh k) ns.length) := by
  cases R with
  | ok a s' => obtain ⟨v', nk, h', k, rfl, h2, h3, h4, h5⟩ := h; exact .inr ⟨h', k, s', v', nk, rfl, h2, ⟨h3, h4, h4.below h0⟩, h5⟩
  | er no p => exact .inl ⟨no, p, rfl, h⟩
  | out => exact h.elim

set_option maxHeartbeats 4000000 in
set_option maxRecDepth 100000 in
theorem binary_any {X : Rdr} (n : Nat) (hO : KOp X (run X.e n)) (hB : ∀ j, j < n → KBn X (run X.e j)) {w : World} {s : St} {ns : List NV} {v : Value} (h : At X w s ns v) (d l : Nat) (hd : d ≤ 100) (hl1 : 1 ≤ l) (hl2 : l ≤ 11)
    (hno : binB (run X.e n) d l s ≠ .out) : Calls Tryz.prog 163 #[rd X, .int .i64 d, .int .i64 l] w (RT X w ns v (binB (run X.e n) d l s)) := by
  have hC := Cur.start h
  obtain ⟨M, hM⟩ : ∃ M, binB (run X.e n) d l s = M := ⟨_, rfl⟩
  rw [hM]
  have HM := Lib.hid hM
  have HO := Lib.hid hno
  have C0 := Lib.hid hC
  clear hM h hC hno
  have hno1 : run X.e n (.opd d) s ≠ .out := ne_out HO.out
  go_enter Tryz.func163, Tryz.ntmps163
  go_wp2_with fail
  refine (hO d w s ns v hd C0.out.at_ hno1).mono ?_
  intro e w1 hR0
  have hR := C0.out.rd hR0
  rcases hR.cases with ⟨no, p, hm, rfl, hb⟩ | ⟨h1, k1, s1, v1, nk1, hm, rfl, hC, hK, hF⟩
  · have HE : binB (run X.e n) d l s = .er no p := by simp only [binB, hm, Rs.bind_er]
    have HH := Lib.hid (And.intro HE hb)
    clear HE hb hm
    go_wp2_with fail
    refine panic_end rfl ?_
    rw [← HM.out, HH.out.1]
    exact ⟨rfl, HH.out.2⟩
  have hM1 : run X.e n (.loop d l (Fo.one h1 k1)) s1 = M := by rw [← HM.out]; simp only [binB, hm, Rs.bind_ok]
  have hMo : M ≠ .out := by rw [← HM.out]; exact HO.out
  have HMo := Lib.hid hMo
  have HM1 := Lib.hid hM1
  have C1 := Lib.hid hC
  have F1 := Lib.hid hF
  clear hm hC hK hR hR0 hF hM1 hno1 hMo
  go_wp2_with fail
  go_loopg [7] n (fun g s7 wx => ∃ (hh : Hd) (kk : Fo) (s' : St) (nk : List NV) (u : Value), g ≤ n ∧ s7 = .int .i64 (ns.length + kk.size : Nat) ∧ Cur X w v wx s' (ns ++ nk) u ∧ Fl w nk (Fo.one hh kk) ns.length ∧ run X.e g (.loop d l (Fo.one hh kk)) s' = M)
  case atStart => exact ⟨h1, k1, s1, nk1, v1, Nat.le_refl _, rfl, C1.out, F1.out, HM1.out⟩
  case round =>
    obtain ⟨hh, kk, s', nk, u, hg, rfl, hC, hF, hM1⟩ := hrel
    cases gk with
    | zero => exact absurd hM1.symm HMo.out
    | succ j =>
    have hM2 : loopB X.e (run X.e j) d l (Fo.one hh kk) s' = M := hM1
    have HM2 := Lib.hid hM2
    have C2 := Lib.hid hC
    have F2 := Lib.hid hF
    clear hM1 hM2 hC hF
    go_wp2_with fail
    refine (c_peek C2.out).mono ?_
    rintro e w3 ⟨rfl, hC, hK⟩
    have C3 := Lib.hid hC
    clear hC hK
    go_wp2_with fail
    refine (c_quoted C3.out _).mono ?_
    rintro e w4 ⟨rfl, hC, hK⟩
    have C4 := Lib.hid hC
    clear hC hK
    go_wp2_with fail
    refine (level_any _ (q (pk X.e s')) (str_list _) w4).mono ?_
    rintro e w5 ⟨rfl, rfl⟩
    have hL := lvl_le (q (pk X.e s'))
    have hne : 1 ≤ lvl (q (pk X.e s')) → s'.l ≠ [] := fun h1 e => by
      simp only [pk, e, List.headD_nil, q_end C4.out.at_.fin] at h1
      simp [lvl] at h1
    have hloop : loopB X.e (run X.e j) d l (Fo.one hh kk) s' = if lvl (q (pk X.e s')) < l then .ok (Fo.one hh kk) s' else (run X.e j (.bin d (lvl (q (pk X.e s')) + 1)) s'.nx).bind fun b s1 => (addM ⟨5, (pk X.e s').p, 0, (pk X.e s').s, 0, 0⟩ ((Fo.one hh kk).app b) s1).bind fun x s1 => run X.e j (.loop d l x) s1 := rfl
    generalize hpt : pk X.e s' = t at *
    generalize hT : lvl (q t) = T at *
    by_cases hlt : T < l
    · have hlt' : (T : Int) < (l : Int) := by omega
      rw [if_pos hlt] at hloop
      have HE := Lib.hid hloop
      clear hloop
      go_wp2_with fail
      go_ret
      rw [← HM2.out, HE.out]
      exact ⟨u, nk, hh, kk, rfl, rfl, C4.out.at_, C4.out.kp, F2.out⟩
    · have hlt' : ¬ (T : Int) < (l : Int) := by omega
      rw [if_neg hlt] at hloop
      have hn := hne (by omega)
      have hno2 : run X.e j (.bin d (T + 1)) s'.nx ≠ .out := by
        have h1 := HMo.out
        rw [← HM2.out, hloop] at h1
        exact ne_out h1
      have HE := Lib.hid hloop
      have HTP : Hid (((T : Int) + 1) = ((T + 1 : Nat) : Int)) := Lib.hid (by simp)
      clear hloop hne
      go_wp2_with fail
      refine (c_next C4.out hn).mono ?_
      rintro e w6 ⟨rfl, hC, hK⟩
      have C6 := Lib.hid hC
      have T6 := Lib.hid (hC.new tE (tokA t))
      clear hC hK
      rw [hpt, str_eta]
      go_wp2_with fail
      rw [HTP.out]
      refine (hB j (by omega) d (T + 1) _ s'.nx (ns ++ nk) u hd (by omega) (by omega) (C6.out.alloc (.cells (tokA t) tE)).at_ hno2).mono ?_
      intro e w7 hR0
      have hR := (C6.out.alloc (.cells (tokA t) tE)).rd hR0
      rcases hR.cases with ⟨no, p, hm, rfl, hb⟩ | ⟨h2, k2, s2, v2, nk2, hm, rfl, hC, hK, hF⟩
      · have HH := Lib.hid (And.intro hm hb)
        clear hm hb hR hR0
        go_wp2_with fail
        refine panic_end rfl ?_
        rw [← HM2.out, HE.out, HH.out.1]
        exact ⟨rfl, HH.out.2⟩
      have E7 := Lib.hid hm
      have C7 := Lib.hid hC
      have hf2 : Fl w (nk ++ nk2) ((Fo.one hh kk).app (Fo.one h2 k2)) ns.length := flat2 F2.out (by rw [List.length_append, len_of_flat F2.out] at hF; exact hF)
      have F7 := Lib.hid hf2
      obtain ⟨Tc0, Tc1, Tc2, Tc3, Tcl⟩ := (T6.out.kept hK).blk.tok
      have hnl : (ns ++ nk).length = ns.length + (Fo.one hh kk).size := by rw [List.length_append, len_of_flat F2.out]
      rw [hnl]
      clear hm hC hK hR hR0 hF hf2 hno2
      go_wp2_with fail
      refine (c_add (nk := nk ++ nk2) (by rw [← List.append_assoc]; exact C7.out.alloc _) ⟨5, t.p, 0, t.s, 0, 0⟩ ((Fo.one hh kk).app (Fo.one h2 k2)) F7.out (fr1 C7.out) (kid2 C7.out hh h2 kk k2)).mono ?_
      intro e w8 hR
      rcases hR.cases C0.out.at_ with ⟨no, p, hm, rfl, hb⟩ | ⟨h3, k3, s3, v3, nk3, hm, rfl, hC, hF⟩
      · have HH := Lib.hid (And.intro hm hb)
        clear hm hb hR
        go_wp2_with fail
        refine panic_end rfl ?_
        rw [← HM2.out, HE.out, E7.out]
        simp only [Rs.bind_ok]
        rw [HH.out.1]
        exact ⟨rfl, HH.out.2⟩
      have HX := Lib.hid (And.intro hC (And.intro hF (show run X.e j (.loop d l (Fo.one h3 k3)) s3 = M by rw [← HM2.out, HE.out, E7.out]; simp only [Rs.bind_ok]; rw [hm]; simp only [Rs.bind_ok])))
      clear hm hC hF hR
      go_wp2_with fail
      go_roundg j
      case measure => omega
      case rel => exact ⟨h3, k3, s3, nk3, v3, by omega, rfl, HX.out.1, HX.out.2.1, HX.out.2.2⟩
end Go.Proofs.YtfaoiajhoifalaaGreatDoor
