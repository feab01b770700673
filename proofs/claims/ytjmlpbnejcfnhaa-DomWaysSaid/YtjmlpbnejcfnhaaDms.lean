/-
  Layer dom: walk of wrongEdge.
-/
import Derived.Test.YtjmlpbnejcfnhaaDmr
namespace Go.Proofs.Ytjmlpbnejcfnhaa
open Go Go.RowKit Go.Maps
set_option linter.unusedVariables false
set_option linter.unusedSimpArgs false

/-- An edge that is wrong. -/
def badE (g : Gph) (p : Nat × Nat) : Bool := g.back p.1 p.2 && !g.dom p.2 p.1
def edgesOf (T : List (List Nat)) (a : Nat) : List (Nat × Nat) := (T.getD a []).map fun b => (a, b)
def fromI : Option (Nat × Nat) → Int
  | none => -1
  | some p => p.1
def toI : Option (Nat × Nat) → Int
  | none => -1
  | some p => p.2
theorem wrong_eq (g : Gph) : g.wrong = (g.w.ord.flatMap (edgesOf g.T)).find? (badE g) := rfl
set_option maxHeartbeats 8000000 in
set_option maxRecDepth 100000 in
theorem wrong_any {w : World} {a : Array Value} {T : List (List Nat)} {k : Wk} (h : GrO w a T k) (hf : FinW T.length T k) (hc : WkC T k) :
    Calls Try.prog 26 #[.agg a] w fun e w' => e = .returned (.tuple #[.int .i64 (fromI (gph T k).wrong), .int .i64 (toI (gph T k).wrong)]) ∧ Below w.heap.size w w' := by
  obtain ⟨lo, hi, tb, vs, nv, bv, pv, ov, lv, dv, rfl, hp⟩ := h.x
  obtain ⟨R, hR⟩ : ∃ R, (gph T k).wrong = R := ⟨_, rfl⟩
  have hR0 : (k.ord.flatMap (edgesOf T)).find? (badE (gph T k)) = R := by rw [← hR, wrong_eq]; rfl
  rw [hR]
  obtain ⟨M, hM⟩ : ∃ M, k.ord.length = M := ⟨_, rfl⟩
  obtain ⟨oA, oc, rfl⟩ : ∃ A c, ov = .slice A M c := by obtain ⟨A, c, e, _⟩ := hp.p.o; exact ⟨A, c, by rw [e]; simp only [nz, List.length_map]; rw [hM]⟩
  have hML : M ≤ 1000000 := by
    have h1 := bound_len T.length k.ord hf.nd fun x hx => by obtain ⟨i, hi⟩ := List.getElem?_of_mem hx; exact hf.ordN hi
    have := hc.hN
    omega
  obtain ⟨w1, hw1⟩ : ∃ x, x = w.alloc (.cells #[.slice (some ⟨tb, 0, none⟩) T.length T.length, nv, bv, pv, .slice oA M oc, lv, dv] tGr) := ⟨_, rfl⟩
  have hb1 : Below w.heap.size w w1 := by rw [hw1]; exact (Below.refl _ w).alloc (Nat.le_refl _) _
  have hbx : Blk w1 w.heap.size tGr #[.slice (some ⟨tb, 0, none⟩) T.length T.length, nv, bv, pv, .slice oA M oc, lv, dv] := by rw [hw1]; exact Blk.new w tGr _
  have hg1 := h.on hb1
  have hp1 := hp.on hb1
  have c4 : w1.cell? ⟨w.heap.size, 4, none⟩ = some (.slice oA M oc) := hbx.cell 4
  have cl := hbx.lt
  have HW := Lib.hid hw1
  have HF := Lib.hid (And.intro hb1 (And.intro hbx (And.intro hg1 (And.intro hp1 (And.intro hf (And.intro hc hM))))))
  have HX := Lib.hid hR0
  clear hb1 hbx hg1 hp1 hf hc hM hw1 h hp hR hR0
  go_enter Try.func26, Try.ntmps26
  go_upto_region 1 with (fail)
  rw [← HW.out]
  go_wp2_with fail
  go_step3
  go_wp2_with fail
  go_step3
  go_wp2_with fail
  go_loopw [2, 3, 12] (fun s2 s3 v wr => ∃ (m : Nat), (s2 = .int .i64 (-1) ∧ s3 = .int .i64 (-1)) ∧ m ≤ M ∧ v = .int .i64 (m : Nat) ∧ Below w1.heap.size w1 wr ∧ ((k.ord.drop m).flatMap (edgesOf T)).find? (badE (gph T k)) = R) (fun _ _ v _ => M - (intOf v).toNat)
  case atStart => exact ⟨0, ⟨rfl, rfl⟩, by omega, rfl, Below.refl _ _, HX.out⟩
  case round =>
    obtain ⟨m, ⟨rfl, rfl⟩, hm, rfl, hbe, hfo⟩ := hrel
    obtain ⟨wo, hwo⟩ : ∃ x, x = wr := ⟨_, rfl⟩
    subst hwo
    obtain ⟨hb1, hbx, hg1, hp1, hf, hc, hM⟩ := HF.out
    have hbxo := hbx.on hbe
    have hpo := hp1.on hbe
    by_cases hmk : m < M
    · obtain ⟨g, o, y1, e0, hg, hy1, e1⟩ := hpo.p.o.at hmk
      subst e0
      have hm2 : m < k.ord.length := by rw [hM]; exact hmk
      obtain ⟨a, ha⟩ : ∃ a, k.ord[m]? = some a := ⟨_, List.getElem?_eq_getElem hm2⟩
      rw [nz_at ha] at hy1
      obtain rfl := Option.some.inj hy1
      have ham := List.mem_of_getElem? ha
      have haN := hf.ordN ha
      have hdr : k.ord.drop m = a :: k.ord.drop (m + 1) := by
        rw [← List.getElem_cons_drop hm2]
        rw [List.getElem?_eq_getElem hm2] at ha
        rw [Option.some.inj ha]
      rw [hdr, List.flatMap_cons] at hfo
      obtain ⟨v, hv, ev, hrd⟩ := hpo.p.t.at haN
      obtain ⟨L, hL⟩ : ∃ L, T.getD a [] = L := ⟨_, rfl⟩
      obtain ⟨ln, hln⟩ : ∃ n, L.length = n := ⟨_, rfl⟩
      rw [hL] at hrd
      have hlz : (nz L).length = ln := by simp only [nz, List.length_map]; exact hln
      obtain ⟨vA, vc, rfl, hvc, hvm⟩ := hrd.sl
      rw [hlz] at hrd ev hvc hv
      have e2 : wo.cell? ⟨w.heap.size, 0, none⟩ = some (.slice (some ⟨tb, 0, none⟩) T.length T.length) := hbxo.cell 0
      have l2 := hbxo.lt
      have l3 : tb < wo.heap.size := hpo.p.l.2
      have l1 : g < wo.heap.size := hg
      have hln2 : ln ≤ 2 := by rw [← hln, ← hL]; exact hc.two a
      have hlk : ∀ t ∈ L, t ∈ k.ord := fun t ht => by
        obtain ⟨i, hi⟩ := List.getElem?_of_mem ((hf.ord a).1 ham)
        exact (hf.ord t).2 (hf.closed i a hi t (by rw [hL]; exact ht))
      have HR := Lib.hid (And.intro hbe (And.intro hfo (And.intro ham (And.intro haN (And.intro hv (And.intro hL (And.intro hln hlk)))))))
      clear hb1 hbx hg1 hp1 hf hc hM hbxo hpo hy1 ha ham hdr hbe hfo hv hrd hL hln hlz hlk hm2 hg
      go_wp2_with fail
      go_loopw [2, 3, 23] (fun s2 s3 v wi => ∃ (j : Nat), (s2 = .int .i64 (-1) ∧ s3 = .int .i64 (-1)) ∧ j ≤ ln ∧ v = .int .i64 (j : Nat) ∧ Below w1.heap.size w1 wi ∧ (((L.drop j).map fun b => (a, b)) ++ (k.ord.drop (m + 1)).flatMap (edgesOf T)).find? (badE (gph T k)) = R) (fun _ _ v _ => ln - (intOf v).toNat)
      case atStart => exact ⟨0, ⟨rfl, rfl⟩, by omega, rfl, HR.out.1, by
        have h9 := HR.out.2.1
        unfold edgesOf at h9 ⊢
        rw [HR.out.2.2.2.2.2.1] at h9
        exact h9⟩
      case round =>
        obtain ⟨j, ⟨rfl, rfl⟩, hj, rfl, hbe, hfo⟩ := hrel
        obtain ⟨wi, hwi⟩ : ∃ x, x = wr := ⟨_, rfl⟩
        subst hwi
        by_cases hjl : j < ln
        · have hj2 : j < L.length := by rw [HR.out.2.2.2.2.2.2.1]; exact hjl
          obtain ⟨b, hb⟩ : ∃ b, L[j]? = some b := ⟨_, List.getElem?_eq_getElem hj2⟩
          have hbm := HR.out.2.2.2.2.2.2.2 b (List.mem_of_getElem? hb)
          have hdr : L.drop j = b :: L.drop (j + 1) := by
            rw [← List.getElem_cons_drop hj2]
            rw [List.getElem?_eq_getElem hj2] at hb
            rw [Option.some.inj hb]
          rw [hdr, List.map_cons, List.cons_append, List.find?_cons] at hfo
          obtain ⟨hb1, hbx, hg1, hp1, hf, hc, hM⟩ := HF.out
          have hbN : b < T.length := by obtain ⟨i, hi⟩ := List.getElem?_of_mem hbm; exact hf.ordN hi
          have hbxi := hbx.on hbe
          have hpi := hp1.on hbe
          have hgi := hg1.on hbe
          obtain ⟨vi, hvi, evi, hrdi⟩ := hpi.p.t.at HR.out.2.2.2.1
          rw [HR.out.2.2.2.2.1] at hvi
          obtain rfl := Option.some.inj hvi
          rw [HR.out.2.2.2.2.2.1] at hrdi
          obtain ⟨g1, o1, c1, e1v, hg1l, hg1h, ec1⟩ := hrdi.at (nz_at hb)
          simp only [Value.slice.injEq] at e1v
          obtain ⟨rfl, -, rfl⟩ := e1v
          have lg1 : g1 < wi.heap.size := World.block_lt_of_cell? wi _ ec1
          obtain ⟨nA, nn, nc, rfl⟩ : ∃ A n c, nv = .slice A n c := by obtain ⟨A, c, e, _⟩ := hpi.p.n; exact ⟨A, _, c, e⟩
          obtain ⟨bA, bn, bc, rfl⟩ : ∃ A n c, bv = .slice A n c := by obtain ⟨A, c, e, _⟩ := hpi.p.b; exact ⟨A, _, c, e⟩
          obtain ⟨pA, pn, pc, rfl⟩ : ∃ A n c, pv = .slice A n c := by obtain ⟨A, c, e, _⟩ := hpi.p.p; exact ⟨A, _, c, e⟩
          obtain ⟨lA, lN, lc, rfl⟩ : ∃ A n c, lv = .slice A n c := by obtain ⟨A, c, e, _⟩ := hpi.l; exact ⟨A, _, c, e⟩
          obtain ⟨dA, dn, dc, rfl⟩ : ∃ A n c, dv = .slice A n c := by obtain ⟨A, c, e, _⟩ := hpi.d; exact ⟨A, _, c, e⟩
          have HBK : Hid (∀ W, Below wi.heap.size wi W → Calls Try.prog 36 #[.agg _, .int .i64 (a : Nat), .int .i64 (b : Nat)] W fun e w' => e = .returned (.bool ((gph T k).back a b)) ∧ Below W.heap.size W w') := Lib.hid fun W hW => back_any (hgi.on hW) HR.out.2.2.2.1 hbN
          have HDM : Hid (∀ W, Below wi.heap.size wi W → Calls Try.prog 37 #[.agg _, .int .i64 (b : Nat), .int .i64 (a : Nat)] W fun e w' => e = .returned (.bool ((gph T k).dom b a)) ∧ Below W.heap.size W w') := Lib.hid fun W hW => dominates_any (hgi.on hW) hf hbm HR.out.2.2.1
          have q0 : wi.cell? ⟨w.heap.size, 0, none⟩ = some (.slice (some ⟨tb, 0, none⟩) T.length T.length) := hbxi.cell 0
          have q1 : wi.cell? ⟨w.heap.size, 1, none⟩ = some (.slice nA nn nc) := hbxi.cell 1
          have q2 : wi.cell? ⟨w.heap.size, 2, none⟩ = some (.slice bA bn bc) := hbxi.cell 2
          have q3 : wi.cell? ⟨w.heap.size, 3, none⟩ = some (.slice pA pn pc) := hbxi.cell 3
          have q4 : wi.cell? ⟨w.heap.size, 4, none⟩ = some (.slice (some ⟨g, o, none⟩) M oc) := hbxi.cell 4
          have q5 : wi.cell? ⟨w.heap.size, 5, none⟩ = some (.slice lA lN lc) := hbxi.cell 5
          have q6 : wi.cell? ⟨w.heap.size, 6, none⟩ = some (.slice dA dn dc) := hbxi.cell 6
          have ql := hbxi.lt
          have hbad : badE (gph T k) (a, b) = ((gph T k).back a b && !(gph T k).dom b a) := rfl
          rw [hbad] at hfo
          have HI := Lib.hid (And.intro hfo (And.intro hbe hbxi))
          clear hb1 hbx hg1 hp1 hf hc hM hbxi hpi hgi hfo hbe hb hbm hdr evi hrdi hbad hj2 hg1l hg1h
          obtain ⟨BK, hBK⟩ : ∃ x, (gph T k).back a b = x := ⟨_, rfl⟩
          obtain ⟨DB, hDB⟩ : ∃ x, (gph T k).dom b a = x := ⟨_, rfl⟩
          rw [hBK] at HBK HI
          rw [hDB] at HDM HI
          clear hBK hDB
          go_wp2_with fail
          refine (HBK.out wi (Below.refl _ _)).mono ?_
          rintro e w3 ⟨rfl, hb3⟩
          have hbx3 := HI.out.2.2.on hb3
          have p0 : w3.cell? ⟨w.heap.size, 0, none⟩ = some (.slice (some ⟨tb, 0, none⟩) T.length T.length) := hbx3.cell 0
          have p1 : w3.cell? ⟨w.heap.size, 1, none⟩ = some (.slice nA nn nc) := hbx3.cell 1
          have p2 : w3.cell? ⟨w.heap.size, 2, none⟩ = some (.slice bA bn bc) := hbx3.cell 2
          have p3 : w3.cell? ⟨w.heap.size, 3, none⟩ = some (.slice pA pn pc) := hbx3.cell 3
          have p4 : w3.cell? ⟨w.heap.size, 4, none⟩ = some (.slice (some ⟨g, o, none⟩) M oc) := hbx3.cell 4
          have p5 : w3.cell? ⟨w.heap.size, 5, none⟩ = some (.slice lA lN lc) := hbx3.cell 5
          have p6 : w3.cell? ⟨w.heap.size, 6, none⟩ = some (.slice dA dn dc) := hbx3.cell 6
          have pl := hbx3.lt
          have H3 := Lib.hid hb3
          clear q0 q1 q2 q3 q4 q5 q6 ql hb3 hbx3 HBK
          cases BK with
          | false =>
            have HF9 : Hid (Below w1.heap.size w1 w3 ∧ (((L.drop (j + 1)).map fun b => (a, b)) ++ (k.ord.drop (m + 1)).flatMap (edgesOf T)).find? (badE (gph T k)) = R) := Lib.hid ⟨HI.out.2.1.trans (H3.out.mono (HI.out.2.1.size)), by have h9 := HI.out.1; simpa using h9⟩
            clear HI H3 HDM
            go_wp2_with fail
            go_roundw
            case rel => exact ⟨j + 1, ⟨rfl, rfl⟩, by omega, by go_num, HF9.out.1, HF9.out.2⟩
            case measure => simp [intOf]; omega
          | true =>
            go_wp2_with fail
            refine (HDM.out w3 H3.out).mono ?_
            rintro e w4 ⟨rfl, hb4⟩
            have H4 := Lib.hid (HI.out.2.1.trans ((H3.out.mono HI.out.2.1.size).trans (hb4.mono (Nat.le_trans HI.out.2.1.size H3.out.size))))
            clear hb4 p0 p1 p2 p3 p4 p5 p6 pl HDM
            cases DB with
            | true =>
              have HF9 : Hid (Below w1.heap.size w1 w4 ∧ (((L.drop (j + 1)).map fun b => (a, b)) ++ (k.ord.drop (m + 1)).flatMap (edgesOf T)).find? (badE (gph T k)) = R) := Lib.hid ⟨H4.out, by have h9 := HI.out.1; simpa using h9⟩
              clear HI H3 H4
              go_wp2_with fail
              go_roundw
              case rel => exact ⟨j + 1, ⟨rfl, rfl⟩, by omega, by go_num, HF9.out.1, HF9.out.2⟩
              case measure => simp [intOf]; omega
            | false =>
              have HF9 : Hid (Below w.heap.size w w4 ∧ R = some (a, b)) := Lib.hid ⟨HF.out.1.trans (H4.out.mono HF.out.1.size), by have h9 := HI.out.1; simpa using h9.symm⟩
              clear HI H3 H4
              go_wp2_with fail
              try rw [Exit.noGoto_ret]
              go_ret2
              refine ⟨?_, HF9.out.1⟩
              rw [HF9.out.2]
              rfl
        · have HF9 : Hid (Below w1.heap.size w1 wi ∧ ((k.ord.drop (m + 1)).flatMap (edgesOf T)).find? (badE (gph T k)) = R) := Lib.hid ⟨hbe, by
            have hjn : j = L.length := by rw [HR.out.2.2.2.2.2.2.1]; omega
            rw [hjn, List.drop_length, List.map_nil, List.nil_append] at hfo
            exact hfo⟩
          clear hfo hbe
          go_wp2_with fail
          go_roundw
          case rel => exact ⟨m + 1, ⟨rfl, rfl⟩, by omega, by go_num, HF9.out.1, HF9.out.2⟩
          case measure => simp [intOf]; omega
    · have HF9 : Hid (Below w.heap.size w wo ∧ R = none) := Lib.hid ⟨hb1.trans (hbe.mono hb1.size), by
        have hjn : m = k.ord.length := by rw [hM]; omega
        rw [hjn, List.drop_length] at hfo
        exact hfo.symm⟩
      clear hfo hbe hb1 hbx hg1 hp1 hf hc hM hbxo hpo
      go_wp2_with fail
      try rw [Exit.noGoto_ret]
      go_ret2
      refine ⟨?_, HF9.out.1⟩
      rw [HF9.out.2]
      rfl
end Go.Proofs.Ytjmlpbnejcfnhaa
