/-
  Layer parse: the walks of the functions that read statements: if.
-/
import Derived.Test.YtfaoiajhoifalaaGreatDoorPark
import Derived.Deep.RegionLaw
namespace Go.Proofs.YtfaoiajhoifalaaGreatDoor
open Go.RowKit
set_option linter.unusedVariables false
set_option linter.unusedSimpArgs false

set_option maxHeartbeats 4000000 in
set_option maxRecDepth 100000 in
theorem branch_any {X : Rdr} {r : Md → St → Rs Fo} (hX : KEx X r) (hS : KSt X r) {w : World} {s : St} {ns : List NV} {v : Value} (h : At X w s ns v) (d : Nat) (hd : d ≤ 40) (hne : s.l ≠ []) (hno : ifB X.e r d s ≠ .out) :
    Calls Tryz.prog 111 #[rd X, .int .i64 d] w (RT X w ns v (ifB X.e r d s)) := by
  have hC := Cur.start h
  obtain ⟨M, hM⟩ : ∃ M, ifB X.e r d s = M := ⟨_, rfl⟩
  rw [hM]
  have HM := Lib.hid hM
  have HO := Lib.hid hno
  obtain ⟨i0, hi, hz0, hz1, hz2⟩ := info_parts infoI
  have C0 := Lib.hid hC
  clear hM h hC hno
  have hfl := fun t W => fld_p t W
  have hfs := fun t W => fld_s t W
  go_enter Tryz.func111, Tryz.ntmps111
  go_wp2_with fail
  refine (c_next C0.out hne).mono ?_
  rintro e w1 ⟨rfl, hC, hK⟩
  have C1 := Lib.hid hC
  clear hC hK
  rw [str_eta]
  generalize hpt : pk X.e s = t
  have hwl : w.heap.size ≤ w1.heap.size := C1.out.kp.size
  have N1 := Lib.hid (C1.out.new tN (cells8 ⟨⟨15, t.p, 0, [], 0, 0⟩, [], .slice none 0 0⟩).toArray)
  go_wp2_with fail
  have hno2 : guardB X.e r d s.nx ≠ .out := by
    have := HO.out
    simp only [ifB] at this
    exact ne_out this
  refine (guarded_any hX hS (C1.out.alloc _).at_ d hd hno2).mono ?_
  intro e w2 hR
  rcases (C1.out.alloc _).ra hR with ⟨no, p, hm, rfl, hb⟩ | ⟨a2, s2, v2, nk2, g2, m2, cp2, hm, rfl, hC, hK, hF, hkv, hgl, hap⟩
  · have HE : ifB X.e r d s = .er no p := by first | (simp only [ifB, hm, Rs.bind_ok, Rs.bind_er, if_true, if_false, Bool.false_eq_true, ite_true, ite_false]; done) | (simp only [ifB, must2_er hm, Rs.bind_ok, Rs.bind_er, if_true, if_false, Bool.false_eq_true, ite_true, ite_false])
    have HH := Lib.hid (And.intro HE hb)
    clear HE hb hm
    go_wp2_with fail
    refine panic_end rfl ?_
    rw [← HM.out, HH.out.1]
    exact ⟨rfl, HH.out.2⟩
  have E2 := Lib.hid hm
  have C2 := Lib.hid hC
  have F2 := Lib.hid hF
  have N2 := Lib.hid ((N1.out).kept hK)
  obtain ⟨-, -, -, -, -, Nc5, -, -, Ncl, Ncf⟩ := N2.out.blk.node
  have hgl2 : w1.heap.size + 1 ≤ g2 := by simpa using hgl
  have hwg : w.heap.size ≤ g2 := by omega
  have hgj : g2 ≠ w1.heap.size := by omega
  have C2s := Lib.hid (hC.set_ N2.out hwl (by decide) 5 (.slice (some ⟨g2, 0, none⟩) m2 cp2))
  have hkv2 := row_keep (w' := w2.setCell ⟨w1.heap.size, 5, none⟩ (.slice (some ⟨g2, 0, none⟩) m2 cp2)) hkv fun g' hg' => Below.heap_setCell w2 _ _ g' (by simp [Value.ownBlock] at hg'; simp; omega)
  have K2 := Lib.hid hkv2
  have N2s : Hid (Loc X (w2.setCell ⟨w1.heap.size, 5, none⟩ (.slice (some ⟨g2, 0, none⟩) m2 cp2)) v2 w1.heap.size tN (cells8 ⟨⟨15, t.p, 0, [], 0, 0⟩, a2.roots ns.length, .slice (some ⟨g2, 0, none⟩) m2 cp2⟩).toArray) := Lib.hid (N2.out.set_ 5 (.slice (some ⟨g2, 0, none⟩) m2 cp2))
  have A2 := Lib.hid (⟨hkv2, hwg, hap⟩ : Acc X w (w2.setCell ⟨w1.heap.size, 5, none⟩ (.slice (some ⟨g2, 0, none⟩) m2 cp2)) (ns ++ nk2) g2 m2 cp2 (a2.roots ns.length))
  clear hm hC hK hR hF hkv hgl hkv2 hno2 hap
  go_wp2_with fail
  refine (c_accept C2s.out wElse (by simp [wElse])).mono ?_
  rintro e w3 ⟨rfl, hC, hK⟩
  have C3 := Lib.hid hC
  have N3 := Lib.hid (N2s.out.kept hK)
  have A3 := Lib.hid (by have := A2.out.kept (nk := []) C2s.out.at_ hK (Fl.nil _ 0); rwa [List.append_nil] at this : Acc X w w3 (ns ++ nk2) g2 m2 cp2 (a2.roots ns.length))
  clear hC hK
  cases hq : isT X.e wElse s2
  · have hq0 := hq
    have ha : acc X.e wElse s2 = s2 := by simp [acc, hq]
    rw [ha] at C3
    obtain ⟨n0, n1, n2, n3, n4, n5, n6, n7, nl, -⟩ := N3.out.blk.node
    clear ha
    go_wp2_with fail
    have hfr : ∀ g, (Value.slice (some ⟨g2, 0, none⟩) m2 cp2).ownBlock = some g → w.heap.size ≤ g := fun g hg => by simp [Value.ownBlock] at hg; omega
    have HEE : ifB X.e r d s = addM ⟨15, t.p, 0, [], 0, 0⟩ a2 s2 := by rw [← hpt]; simp only [ifB, E2.out, hq, Rs.bind_ok, Rs.bind_er, if_true, if_false, Bool.false_eq_true, ite_true, ite_false]
    have HE := Lib.hid HEE
    clear HEE
    refine (c_add C3.out ⟨15, t.p, 0, [], 0, 0⟩ a2 F2.out hfr A3.out.row).mono ?_
    intro e w99 hR
    have HR := Lib.hid hR
    rcases hR.form with ⟨i, rfl⟩ | ⟨ch, rfl⟩
    · clear hR
      go_wp2_with fail
      go_ret
      rw [← HM.out, HE.out]
      exact HR.out
    · clear hR
      go_wp2_with fail
      refine panic_end rfl ?_
      rw [← HM.out, HE.out]
      exact HR.out
  · have hq0 := hq
    have ha : acc X.e wElse s2 = s2.nx := by simp [acc, hq]
    rw [ha] at C3
    clear ha
    have hno3 : r (.stm (d + 1)) s2.nx ≠ .out := by
      have := HO.out
      simp only [ifB, E2.out, hq, Rs.bind_ok, Rs.bind_er, if_true, if_false, Bool.false_eq_true, ite_true, ite_false] at this
      exact ne_out this
    obtain ⟨-, -, -, -, -, Mc5, -, -, Ncl, Mcf⟩ := N3.out.blk.node
    have hnl : (ns ++ nk2).length = ns.length + a2.size := by rw [List.length_append, len_of_flat F2.out]
    have HNL := Lib.hid hnl
    have hX2 := fun (W : World) (hW : Below w3.heap.size w3 W) => (hS (d + 1) W s2.nx (ns ++ nk2) v2 (by omega) (C3.out.go hW).at_ hno3).mono (fun e w' hr => (C3.out.go hW).rt2 hr)
    have hE2 := fun no p (hm : r (.stm (d + 1)) s2.nx = .er no p) => (by simp only [ifB, E2.out, hq, hm, Rs.bind_ok, Rs.bind_er, if_true, if_false, Bool.false_eq_true, ite_true, ite_false] : ifB X.e r d s = .er no p)
    have HX2 := Lib.hid hX2
    have HE2 := Lib.hid hE2
    have HWR : Hid (IntKind.i64.wrap ((d : Int) + 1) = ((d + 1 : Nat) : Int)) := Lib.hid (by rw [IntKind.wrap_i64]; omega)
    have hml : m2 ≤ 4000 := by
      have h1 := A3.out.len
      rw [Fo.roots_length] at h1
      have h2 := Fo.len_size a2
      have h3 := C3.out.at_.max
      have h4 := C3.out.at_.cnt
      omega
    clear hX2 hE2 hno3 hnl
    go_wp2_with fail
    go_region_law (first | (go_simp; go_at_call 143; rw [HWR.out]; refine (HX2.out _ (by exact bd1 _)).mono ?_; intro e w4 hR; rcases hR with ⟨no, p, hm, rfl, hb⟩ | ⟨h4, k4, s4, v4, nk4, hm, rfl, hC, hK, hF⟩; (refine panic_end rfl ?_; rw [← HM.out, HE2.out no p hm]; exact ⟨rfl, hb⟩); generalize hn4 : (ns ++ nk2).length + k4.size = n4; have HN4 := Lib.hid hn4; have C4 := Lib.hid hC; have F4 := Lib.hid hF; have E4 := Lib.hid hm; have N4 := Lib.hid ((N3.out.go (bd1 _)).kept hK); have A4 := Lib.hid ((A3.out.go (bd1 _)).kept (C3.out.go (bd1 _)).at_ hK hF); have R4 := A4.out.row.alloc (.cells #[.int .i64 (n4 : Nat)] tI); rw [← A4.out.len] at R4; have HR4 := Lib.hid R4; clear R4; obtain ⟨-, -, -, -, -, Pc5, -, -, Pcl, Pcf⟩ := N4.out.blk.node; clear hm hC hF hK hn4) | (refine step_append_lies _ rfl (.tmp 17) (.tmp 22) 40 rfl X.base tI i0 _ 1 8 Tryz.underlying40 hi hz0 hz1 hz2 rfl (by decide) _ m2 _ (by simp [Act.eval, Act.put]) HR4.out ⟨w4.heap.size, 0, none⟩ 1 1 [Value.int .i64 (n4 : Nat)] (by simp [Act.eval, Act.put]) rfl (World.news_of_block (cs := #[.int .i64 (n4 : Nat)]) (heap_alloc_new w4 _)) (by simp [Value.oneCell']) (by decide) (by unfold maxLen; omega) (by omega) (by have := C4.out.at_.baselt; simp; omega) (w4.heap.size + 1) (by simp) ?_; intro g5 cp5 w5 hr5 hg5 hgl5 hlt5; have hp := A4.out.push C4.out hr5 hg5 hgl5; have HP := Lib.hid hp; have hg5j : g5 ≠ w1.heap.size := (by rcases hgl5 with e | e; (cases e; exact hgj); omega); have N5 := Lib.hid ((N4.out.alloc (.cells #[.int .i64 (n4 : Nat)] tI)).grown hg5 (Ne.symm hgj)); obtain ⟨-, -, -, -, -, Qc5, -, -, Qcl, Qcf⟩ := N5.out.blk.node; clear hp hr5 hg5 hgl5))
    all_goals
      have C6 := Lib.hid (HP.out.1.set_ N5.out hwl (by decide) 5 (.slice (some ⟨g5, 0, none⟩) (m2 + 1) cp5))
      have hrt : (a2.app (Fo.one h4 k4)).roots ns.length = a2.roots ns.length ++ [n4] := by rw [Fo.roots_app, ← HN4.out, HNL.out]; rfl
      have HA5 := HP.out.2.set_ hg5j 5 (.slice (some ⟨g5, 0, none⟩) (m2 + 1) cp5)
      rw [← hrt] at HA5
      have A6 := Lib.hid HA5
      have N6 : Hid (Loc X (w5.setCell ⟨w1.heap.size, 5, none⟩ (.slice (some ⟨g5, 0, none⟩) (m2 + 1) cp5)) v4 w1.heap.size tN (cells8 ⟨⟨15, t.p, 0, [], 0, 0⟩, (a2.app (Fo.one h4 k4)).roots ns.length, .slice (some ⟨g5, 0, none⟩) (m2 + 1) cp5⟩).toArray) := Lib.hid (N5.out.set_ 5 (.slice (some ⟨g5, 0, none⟩) (m2 + 1) cp5))
      obtain ⟨n0, n1, n2, n3, n4c, n5, n6, n7, nl, -⟩ := N6.out.blk.node
      have hF5 := F4.out
      rw [HNL.out] at hF5
      have F5 := Lib.hid (flat2 F2.out (hF5.old C3.out.kp.size))
      have hfr : ∀ g, (Value.slice (some ⟨g5, 0, none⟩) (m2 + 1) cp5).ownBlock = some g → w.heap.size ≤ g := fun g hg => by simp [Value.ownBlock] at hg; have := A6.out.new; omega
      have HFR := Lib.hid hfr
      clear hrt HA5 hF5 hfr
      go_wp2_with fail
      have HEE : ifB X.e r d s = addM ⟨15, t.p, 0, [], 0, 0⟩ (a2.app (Fo.one h4 k4)) s4 := by rw [← hpt]; simp only [ifB, E2.out, hq, E4.out, Rs.bind_ok, Rs.bind_er, if_true, if_false, Bool.false_eq_true, ite_true, ite_false]
      have HE := Lib.hid HEE
      clear HEE
      refine (c_add (nk := nk2 ++ nk4) (by rw [← List.append_assoc]; exact C6.out) ⟨15, t.p, 0, [], 0, 0⟩ (a2.app (Fo.one h4 k4)) F5.out HFR.out A6.out.row).mono ?_
      intro e w99 hR
      have HR := Lib.hid hR
      rcases hR.form with ⟨i, rfl⟩ | ⟨ch, rfl⟩
      · clear hR
        go_wp2_with fail
        go_ret
        rw [← HM.out, HE.out]
        exact HR.out
      · clear hR
        go_wp2_with fail
        refine panic_end rfl ?_
        rw [← HM.out, HE.out]
        exact HR.out
end Go.Proofs.YtfaoiajhoifalaaGreatDoor
