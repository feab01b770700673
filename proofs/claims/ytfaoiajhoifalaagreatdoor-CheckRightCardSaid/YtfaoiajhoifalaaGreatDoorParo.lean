/-
  Layer parse: the walks of the functions that read statements: blocks.
-/
import Derived.Test.YtfaoiajhoifalaaGreatDoorParl
namespace Go.Proofs.YtfaoiajhoifalaaGreatDoor
open Go.RowKit
set_option linter.unusedVariables false
set_option linter.unusedSimpArgs false

theorem below_none {W W' : World} (h : W.grownBy W' none) : Below W.heap.size W W' := ⟨h.os, h.tape, h.output, h.size, fun k hk => h.block k hk (fun e => by cases e)⟩
/-- The first place of a list. -/
theorem Acc.first {X : Rdr} {w W w1 : World} {v u : Value} {s : St} {ns : List NV} {g1 cp1 : Nat} {x : Nat} (hC : Cur X w v W s ns u) {o : Obj}
    (hr : w1.ownsRow X.base tI 1 (.slice (some ⟨g1, 0, none⟩) (0 + 1) cp1) (0 + 1) ([] ++ [.int .i64 (x : Nat)])) (hg : (W.alloc o).grownBy w1 none) (hgl : g1 = W.heap.size + 1) :
    Cur X w v w1 s ns u ∧ Acc X w w1 ns g1 (0 + 1) cp1 ([] ++ [x]) :=
  ⟨(hC.alloc o).go (below_none hg), hr, by have := hC.kp.size; omega, fun y hy e => by have := ((hC.at_.kids y hy).lt g1 e).2; omega⟩

set_option maxHeartbeats 4000000 in
set_option maxRecDepth 100000 in
theorem block_any {X : Rdr} (n : Nat) (hS : ∀ j, j ≤ n → KSt X (run X.e j)) {w : World} {s : St} {ns : List NV} {v : Value} (h : At X w s ns v) (d : Nat) (hd : d ≤ 40) (hno : blockB X.e (run X.e n) d s ≠ .out) :
    Calls Tryz.prog 109 #[rd X, .int .i64 d] w (RT X w ns v (blockB X.e (run X.e n) d s)) := by
  have hC := Cur.start h
  obtain ⟨M, hM⟩ : ∃ M, blockB X.e (run X.e n) d s = M := ⟨_, rfl⟩
  rw [hM]
  have HM := Lib.hid hM
  have HO := Lib.hid hno
  obtain ⟨i0, hi, hz0, hz1, hz2⟩ := info_parts infoI
  have C0 := Lib.hid hC
  clear hM h hC hno
  have hfl := fun t W => fld_p t W
  have HWR : Hid (IntKind.i64.wrap ((d : Int) + 1) = ((d + 1 : Nat) : Int)) := Lib.hid (by rw [IntKind.wrap_i64]; omega)
  go_enter Tryz.func109, Tryz.ntmps109
  go_wp2_with fail
  refine (c_peek C0.out).mono ?_
  rintro e w1 ⟨rfl, hC, hK⟩
  have C1 := Lib.hid hC
  clear hC hK
  rw [str_eta]
  generalize hpt : pk X.e s = t
  have hwl : w.heap.size ≤ w1.heap.size := C1.out.kp.size
  have N1 := Lib.hid (C1.out.new tN (cells8 ⟨⟨11, t.p, 0, [], 0, 0⟩, [], .slice none 0 0⟩).toArray)
  go_wp2_with fail
  refine (c_must (C1.out.alloc _) (by simp) [123] (by simp)).mono ?_
  intro e w2 hR
  rcases hR.cases with ⟨no, p, hm, rfl, hb⟩ | ⟨a2, s2, hm, rfl, hC, hK⟩
  · have HE : blockB X.e (run X.e n) d s = .er no p := by first | (simp only [blockB, hm, Rs.bind_ok, Rs.bind_er, if_true, if_false, Bool.false_eq_true, ite_true, ite_false]; done) | (simp only [blockB, must2_er hm, Rs.bind_ok, Rs.bind_er, if_true, if_false, Bool.false_eq_true, ite_true, ite_false])
    have HH := Lib.hid (And.intro HE hb)
    clear HE hb hm
    go_wp2_with fail
    refine panic_end rfl ?_
    rw [← HM.out, HH.out.1]
    exact ⟨rfl, HH.out.2⟩
  have E2 := Lib.hid hm
  have C2 := Lib.hid hC
  have N2 := Lib.hid ((N1.out).kept hK)
  clear hm hC hK hR
  have hM1 : M = (run X.e n (.blk d) s2).bind fun b s => addM ⟨11, t.p, 0, [], 0, 0⟩ (Fo.app .nil b) s := by
    rw [← HM.out, ← hpt]
    simp only [blockB, E2.out, Rs.bind_ok, Fo.app]
  have HMo : Hid (M ≠ .out) := Lib.hid (by rw [← HM.out]; exact HO.out)
  have HM1 := Lib.hid hM1
  clear hM1
  go_wp2_with fail
  go_loopg [] n (fun g wx => ∃ (a : Fo) (s' : St) (nk : List NV) (u kv : Value), g ≤ n ∧ Cur X w v wx s' (ns ++ nk) u ∧ Fl w nk a ns.length ∧ Loc X wx u w1.heap.size tN (cells8 ⟨⟨11, t.p, 0, [], 0, 0⟩, a.roots ns.length, kv⟩).toArray ∧ ((a = .nil ∧ kv = .slice none 0 0) ∨ ∃ b m cp, kv = .slice (some ⟨b, 0, none⟩) m cp ∧ b ≠ w1.heap.size ∧ Acc X w wx (ns ++ nk) b m cp (a.roots ns.length)) ∧ M = (run X.e g (.blk d) s').bind fun b s => addM ⟨11, t.p, 0, [], 0, 0⟩ (a.app b) s)
  case atStart => exact ⟨.nil, s2, [], v, .slice none 0 0, Nat.le_refl _, by rw [List.append_nil]; exact C2.out, Fl.nil _ _, N2.out, .inl ⟨rfl, rfl⟩, HM1.out⟩
  case round =>
    obtain ⟨a, s3, nk, u, kv, hg, hC, hF, hN, hkv, hM1⟩ := hrel
    cases gk with
    | zero => exact absurd hM1 (by simp only [run, Rs.bind]; exact HMo.out)
    | succ j =>
    have hM2 : M = (blkB X.e (run X.e j) d s3).bind fun b s => addM ⟨11, t.p, 0, [], 0, 0⟩ (a.app b) s := hM1
    have C3 := Lib.hid hC
    have F3 := Lib.hid hF
    have N3 := Lib.hid hN
    have HKV := Lib.hid hkv
    have HM2 := Lib.hid hM2
    clear hC hF hN hkv hM1 hM2
    go_wp2_with fail
    refine (c_accept C3.out [125] (by simp)).mono ?_
    rintro e w4 ⟨rfl, hC, hK⟩
    have C4 := Lib.hid hC
    have N4 := Lib.hid (N3.out.kept hK)
    have KV4 : Hid ((a = .nil ∧ kv = .slice none 0 0) ∨ ∃ b m cp, kv = .slice (some ⟨b, 0, none⟩) m cp ∧ b ≠ w1.heap.size ∧ Acc X w w4 (ns ++ nk) b m cp (a.roots ns.length)) := Lib.hid (HKV.out.imp id fun ⟨b, m, cp, h1, h2, h3⟩ => ⟨b, m, cp, h1, h2, by have := h3.kept (nk := []) C3.out.at_ hK (Fl.nil _ 0); rwa [List.append_nil] at this⟩)
    clear hC hK HKV
    cases hq : isT X.e [125] s3
    · have hq00 := hq
      have ha : acc X.e [125] s3 = s3 := by simp [acc, hq]
      rw [ha] at C4
      clear ha
      have hM3 : M = (run X.e j (.stm (d + 1)) s3).bind fun x s => ((run X.e j (.blk d) s).bind fun b s => addM ⟨11, t.p, 0, [], 0, 0⟩ ((a.app x).app b) s) := by
        rw [HM2.out]
        simp only [blkB, hq, Bool.false_eq_true, if_false, Rs.bind_assoc, Rs.bind_ok, Fo.app_assoc]
      have hno3 : run X.e j (.stm (d + 1)) s3 ≠ .out := ne_out (by rw [← hM3]; exact HMo.out)
      have hnl : (ns ++ nk).length = ns.length + a.size := by rw [List.length_append, len_of_flat F3.out]
      have HNL := Lib.hid hnl
      have hX2 := fun (W : World) (hW : Below w4.heap.size w4 W) => (hS j (by omega) (d + 1) W s3 (ns ++ nk) u (by omega) (C4.out.go hW).at_ hno3).mono (fun e w' hr => (C4.out.go hW).rt2 hr)
      have hE2 : ∀ no p, run X.e j (.stm (d + 1)) s3 = .er no p → M = .er no p := fun no p hm => by rw [hM3, hm]; rfl
      have HX2 := Lib.hid hX2
      have HE2 := Lib.hid hE2
      have HM3 := Lib.hid hM3
      have hal : a.len ≤ 4000 := by
        have h2 := Fo.len_size a
        have h3 := C4.out.at_.max
        have h4 := C4.out.at_.cnt
        omega
      clear hX2 hE2 hno3 hnl hM3
      rcases KV4.out with ⟨ha0, hkv0⟩ | ⟨b0, m0, cp0, hkv0, hbj, hacc⟩
      · have hq0 := hq
        subst ha0
        subst hkv0
        obtain ⟨-, -, -, -, -, Mc5, -, -, Ncl, Mcf⟩ := N4.out.blk.node
        go_wp2_with fail
        go_region_law (first | (go_simp; go_at_call 143; rw [HWR.out]; refine (HX2.out _ (by exact bd1 _)).mono ?_; intro e w5 hR; rcases hR with ⟨no, p, hm, rfl, hb⟩ | ⟨h5, k5, s5, v5, nk5, hm, rfl, hC, hK, hF⟩; (refine panic_end rfl ?_; rw [HE2.out no p hm]; exact ⟨rfl, hb⟩); generalize hn5 : (ns ++ nk).length + k5.size = n5; have HN5 := Lib.hid hn5; have C5 := Lib.hid hC; have F5 := Lib.hid hF; have E5 := Lib.hid hm; have N5 := Lib.hid ((N4.out.go (bd1 _)).kept hK); obtain ⟨-, -, -, -, -, Pc5, -, -, Pcl, Pcf⟩ := N5.out.blk.node; clear hm hC hF hK hn5) | (refine step_append_lies _ rfl (.tmp 17) (.tmp 22) 40 rfl X.base tI i0 _ 1 8 Tryz.underlying40 hi hz0 hz1 hz2 rfl (by decide) (Value.slice none 0 0) 0 [] (by simp [Act.eval, Act.put]) (World.ownsRow_nil _ _ _ _) ⟨w5.heap.size, 0, none⟩ 1 1 [Value.int .i64 (n5 : Nat)] (by simp [Act.eval, Act.put]) rfl (World.news_of_block (cs := #[.int .i64 (n5 : Nat)]) (heap_alloc_new w5 _)) (by simp [Value.oneCell']) (by decide) (by unfold maxLen; decide) (by decide) (by have := C5.out.at_.baselt; simp; omega) (w5.heap.size + 1) (by simp) ?_; intro g6 cp6 w6 hr6 hg6 hgl6 hlt6; have hgl7 : g6 = w5.heap.size + 1 := hgl6.resolve_left (by simp [Value.ownBlock]); have hg6n : (w5.alloc (.cells #[.int .i64 (n5 : Nat)] tI)).grownBy w6 none := hg6; have hp := Acc.first (x := n5) C5.out hr6 hg6n hgl7; have hg6j : g6 ≠ w1.heap.size := (by omega); clear hgl7; have N6 := Lib.hid ((N5.out.alloc (.cells #[.int .i64 (n5 : Nat)] tI)).go (below_none hg6n)); have HP := Lib.hid hp; obtain ⟨-, -, -, -, -, Qc5, -, -, Qcl, Qcf⟩ := N6.out.blk.node; clear hp hr6 hgl6))
        all_goals
          have hrt : (Fo.nil.app (Fo.one h5 k5)).roots ns.length = Fo.nil.roots ns.length ++ [n5] := by rw [Fo.roots_app, ← HN5.out, HNL.out]; rfl
          have C7 := Lib.hid (HP.out.1.set_ N6.out hwl (by decide) 5 (.slice (some ⟨g6, 0, none⟩) (0 + 1) cp6))
          have HA7 := HP.out.2.set_ hg6j 5 (.slice (some ⟨g6, 0, none⟩) (0 + 1) cp6)
          have A7 : Hid (Acc X w _ (ns ++ nk ++ nk5) g6 (0 + 1) cp6 ((Fo.nil.app (Fo.one h5 k5)).roots ns.length)) := Lib.hid (by rw [hrt]; exact HA7)
          have N7 : Hid (Loc X (w6.setCell ⟨w1.heap.size, 5, none⟩ (.slice (some ⟨g6, 0, none⟩) (0 + 1) cp6)) v5 w1.heap.size tN (cells8 ⟨⟨11, t.p, 0, [], 0, 0⟩, (Fo.nil.app (Fo.one h5 k5)).roots ns.length, .slice (some ⟨g6, 0, none⟩) (0 + 1) cp6⟩).toArray) := Lib.hid (N6.out.set_ 5 (.slice (some ⟨g6, 0, none⟩) (0 + 1) cp6))
          have hF5 := F5.out
          rw [HNL.out] at hF5
          have F7 := Lib.hid (flat2 F3.out (hF5.old C4.out.kp.size))
          have HM7 : Hid (M = (run X.e j (.blk d) s5).bind fun b s => addM ⟨11, t.p, 0, [], 0, 0⟩ ((Fo.nil.app (Fo.one h5 k5)).app b) s) := Lib.hid (by rw [HM3.out, E5.out]; rfl)
          clear hrt HA7 hF5
          go_wp2_with fail
          go_roundg j
          case measure => omega
          case rel => exact ⟨Fo.nil.app (Fo.one h5 k5), s5, nk ++ nk5, v5, (.slice (some ⟨g6, 0, none⟩) (0 + 1) cp6), by omega, by rw [← List.append_assoc]; exact C7.out, F7.out, N7.out, .inr ⟨g6, (0 + 1), cp6, rfl, hg6j, by rw [← List.append_assoc]; exact A7.out⟩, HM7.out⟩
      · have hq0 := hq
        subst hkv0
        have A4 := Lib.hid hacc
        have hml : m0 ≤ 4000 := by
          have h1 := hacc.len
          rw [Fo.roots_length] at h1
          omega
        clear hacc
        obtain ⟨-, -, -, -, -, Mc5, -, -, Ncl, Mcf⟩ := N4.out.blk.node
        go_wp2_with fail
        go_region_law (first | (go_simp; go_at_call 143; rw [HWR.out]; refine (HX2.out _ (by exact bd1 _)).mono ?_; intro e w5 hR; rcases hR with ⟨no, p, hm, rfl, hb⟩ | ⟨h5, k5, s5, v5, nk5, hm, rfl, hC, hK, hF⟩; (refine panic_end rfl ?_; rw [HE2.out no p hm]; exact ⟨rfl, hb⟩); generalize hn5 : (ns ++ nk).length + k5.size = n5; have HN5 := Lib.hid hn5; have C5 := Lib.hid hC; have F5 := Lib.hid hF; have E5 := Lib.hid hm; have N5 := Lib.hid ((N4.out.go (bd1 _)).kept hK); have A5 := Lib.hid ((A4.out.go (bd1 _)).kept (C4.out.go (bd1 _)).at_ hK hF); have R5 := A5.out.row.alloc (.cells #[.int .i64 (n5 : Nat)] tI); rw [← A5.out.len] at R5; have HR5 := Lib.hid R5; clear R5; obtain ⟨-, -, -, -, -, Pc5, -, -, Pcl, Pcf⟩ := N5.out.blk.node; clear hm hC hF hK hn5) | (refine step_append_lies _ rfl (.tmp 17) (.tmp 22) 40 rfl X.base tI i0 _ 1 8 Tryz.underlying40 hi hz0 hz1 hz2 rfl (by decide) _ m0 _ (by simp [Act.eval, Act.put]) HR5.out ⟨w5.heap.size, 0, none⟩ 1 1 [Value.int .i64 (n5 : Nat)] (by simp [Act.eval, Act.put]) rfl (World.news_of_block (cs := #[.int .i64 (n5 : Nat)]) (heap_alloc_new w5 _)) (by simp [Value.oneCell']) (by decide) (by unfold maxLen; omega) (by omega) (by have := C5.out.at_.baselt; simp; omega) (w5.heap.size + 1) (by simp) ?_; intro g6 cp6 w6 hr6 hg6 hgl6 hlt6; have hp := A5.out.push C5.out hr6 hg6 hgl6; have hg6j : g6 ≠ w1.heap.size := (by rcases hgl6 with e | e; (cases e; exact hbj); omega); have N6 := Lib.hid ((N5.out.alloc (.cells #[.int .i64 (n5 : Nat)] tI)).grown hg6 (Ne.symm hbj)); have HP := Lib.hid hp; obtain ⟨-, -, -, -, -, Qc5, -, -, Qcl, Qcf⟩ := N6.out.blk.node; clear hp hr6 hgl6))
        all_goals
          have hrt : (a.app (Fo.one h5 k5)).roots ns.length = a.roots ns.length ++ [n5] := by rw [Fo.roots_app, ← HN5.out, HNL.out]; rfl
          have C7 := Lib.hid (HP.out.1.set_ N6.out hwl (by decide) 5 (.slice (some ⟨g6, 0, none⟩) (m0 + 1) cp6))
          have HA7 := HP.out.2.set_ hg6j 5 (.slice (some ⟨g6, 0, none⟩) (m0 + 1) cp6)
          have A7 : Hid (Acc X w _ (ns ++ nk ++ nk5) g6 (m0 + 1) cp6 ((a.app (Fo.one h5 k5)).roots ns.length)) := Lib.hid (by rw [hrt]; exact HA7)
          have N7 : Hid (Loc X (w6.setCell ⟨w1.heap.size, 5, none⟩ (.slice (some ⟨g6, 0, none⟩) (m0 + 1) cp6)) v5 w1.heap.size tN (cells8 ⟨⟨11, t.p, 0, [], 0, 0⟩, (a.app (Fo.one h5 k5)).roots ns.length, .slice (some ⟨g6, 0, none⟩) (m0 + 1) cp6⟩).toArray) := Lib.hid (N6.out.set_ 5 (.slice (some ⟨g6, 0, none⟩) (m0 + 1) cp6))
          have hF5 := F5.out
          rw [HNL.out] at hF5
          have F7 := Lib.hid (flat2 F3.out (hF5.old C4.out.kp.size))
          have HM7 : Hid (M = (run X.e j (.blk d) s5).bind fun b s => addM ⟨11, t.p, 0, [], 0, 0⟩ ((a.app (Fo.one h5 k5)).app b) s) := Lib.hid (by rw [HM3.out, E5.out]; rfl)
          clear hrt HA7 hF5
          go_wp2_with fail
          go_roundg j
          case measure => omega
          case rel => exact ⟨a.app (Fo.one h5 k5), s5, nk ++ nk5, v5, (.slice (some ⟨g6, 0, none⟩) (m0 + 1) cp6), by omega, by rw [← List.append_assoc]; exact C7.out, F7.out, N7.out, .inr ⟨g6, (m0 + 1), cp6, rfl, hg6j, by rw [← List.append_assoc]; exact A7.out⟩, HM7.out⟩
    · have hq00 := hq
      have ha : acc X.e [125] s3 = s3.nx := by simp [acc, hq]
      rw [ha] at C4
      clear ha
      have HE : Hid (M = addM ⟨11, t.p, 0, [], 0, 0⟩ a s3.nx) := Lib.hid (by rw [HM2.out]; simp only [blkB, hq, if_true, Rs.bind_ok, Fo.app_nil])
      rcases KV4.out with ⟨ha0, hkv0⟩ | ⟨b0, m0, cp0, hkv0, hbj, hacc⟩
      · have hq0 := hq
        subst ha0
        subst hkv0
        obtain ⟨n0, n1, n2, n3, n4, n5, n6, n7, nl, -⟩ := N4.out.blk.node
        go_wp2_with fail
        refine (c_add C4.out ⟨11, t.p, 0, [], 0, 0⟩ .nil F3.out (fun g hg => by cases hg) (World.ownsRow_nil _ _ _ _)).mono ?_
        intro e w99 hR
        have HR := Lib.hid hR
        rcases hR.form with ⟨i, rfl⟩ | ⟨ch, rfl⟩
        · clear hR
          go_wp2_with fail
          go_ret
          rw [HE.out]
          exact HR.out
        · clear hR
          go_wp2_with fail
          refine panic_end rfl ?_
          rw [HE.out]
          exact HR.out
      · have hq0 := hq
        subst hkv0
        have A4 := Lib.hid hacc
        clear hacc
        obtain ⟨n0, n1, n2, n3, n4, n5, n6, n7, nl, -⟩ := N4.out.blk.node
        go_wp2_with fail
        refine (c_add C4.out ⟨11, t.p, 0, [], 0, 0⟩ a F3.out (fun g hg => by simp [Value.ownBlock] at hg; have := A4.out.new; omega) A4.out.row).mono ?_
        intro e w99 hR
        have HR := Lib.hid hR
        rcases hR.form with ⟨i, rfl⟩ | ⟨ch, rfl⟩
        · clear hR
          go_wp2_with fail
          go_ret
          rw [HE.out]
          exact HR.out
        · clear hR
          go_wp2_with fail
          refine panic_end rfl ?_
          rw [HE.out]
          exact HR.out
end Go.Proofs.YtfaoiajhoifalaaGreatDoor
