/-
  Layer dom: walk of endsOf.
-/
import Derived.Test.YtjmlpbnejcfnhaaDmg
namespace Go.Proofs.Ytjmlpbnejcfnhaa
open Go Go.RowKit Go.Maps
set_option linter.unusedVariables false
set_option linter.unusedSimpArgs false

theorem make_ends (n : Nat) (hn : n ≤ 1000) (W : World) : (Instr.makeSlice 41 (.int .i64 n) (.int .i64 n)).run Try.prog W = .ok (.slice (some ⟨W.heap.size, 0, none⟩) n n) (W.alloc (.cells (endsC (List.replicate n eb0)).toArray tEn')) := by
  obtain ⟨ib, hib, hbz0, hbz1, hbz2⟩ := info_parts endInfo
  have hb : (ib.bytes : Int) * (n : Int) ≤ 281474976710656 := by rw [hbz2]; omega
  have hr := run_make (P := Try.prog) W 41 tEn' ib _ Try.underlying41 hib hbz0 .i64 .i64 n n (by omega) (Int.le_refl _) hb (by omega)
  simp only [Int.toNat_natCast, hbz1, made_ends] at hr
  exact hr
/-- The ends of blocks. -/
def esB (l : List Blo) : List Eb := l.map Blo.e
theorem esB_len (l : List Blo) : (esB l).length = l.length := by simp [esB]
def esK (l : List Blo) (j : Nat) : List Eb := (esB l).take j ++ List.replicate (l.length - j) eb0
theorem esK_len (l : List Blo) {j : Nat} (h : j ≤ l.length) : (esK l j).length = l.length := by simp [esK, esB]; omega
theorem esK_set (l : List Blo) {j : Nat} (h : j < l.length) : (esK l j).set j l[j].e = esK l (j + 1) := by
  have h1 : ((esB l).take j).length = j := by simp [esB]; omega
  unfold esK
  rw [List.set_append_right _ _ (by omega), h1, Nat.sub_self, show l.length - j = (l.length - (j + 1)) + 1 by omega, List.replicate_succ, List.set_cons_zero]
  rw [List.take_succ_eq_append_getElem (by rw [esB_len]; exact h), List.append_assoc]
  simp [esB]
set_option maxHeartbeats 4000000 in
set_option maxRecDepth 100000 in
theorem endsOf_any {c : Cod} {rv bv : Value} {w : World} (hb : IsB w w.heap.size bv c.bl) (h0 : c.bl ≠ []) (hm : c.bl.length ≤ 400) (hok : endsOk (esB c.bl) = true) :
    Calls Try.prog 24 #[.agg (codA c rv bv)] w fun e w' => ∃ v b, e = .returned v ∧ w.heap.size ≤ b ∧ RwE w' b v (esB c.bl) ∧ Below w.heap.size w w' := by
  obtain ⟨nm, ty, pr, regs, bl⟩ := c
  simp only at hb h0 hm hok ⊢
  obtain ⟨A, cc, rfl, hlc, hcm, hA⟩ := hb.sl
  unfold maxLen at hcm
  obtain ⟨n, hn⟩ : ∃ n, bl.length = n := ⟨_, rfl⟩
  have hn0 : 0 < n := by rw [← hn]; exact List.length_pos_iff.2 h0
  rw [hn] at hlc hm ⊢
  have HN := Lib.hid (And.intro hn hok)
  have HB := Lib.hid hb
  have hmk := fun W => make_ends n (by omega) W
  clear hn hb h0 hok hA
  unfold codA
  simp only [HN.out.1]
  go_enter Try.func24, Try.ntmps24
  go_wp2_with fail
  have hW0 : Below w.heap.size w (w.alloc (.cells #[.string (str nm), .int .i64 ty, .int .i64 pr, rv, .slice A n cc] 34)) := (Below.refl _ _).alloc (Nat.le_refl _) _
  have hE0 : RwE ((w.alloc (.cells #[.string (str nm), .int .i64 ty, .int .i64 pr, rv, .slice A n cc] 34)).alloc (.cells (endsC (List.replicate n eb0)).toArray tEn')) (w.heap.size + 1) (.slice (some ⟨w.heap.size + 1, 0, none⟩) n n) (esK bl 0) := by
    have hb := Blk.new (w.alloc (.cells #[.string (str nm), .int .i64 ty, .int .i64 pr, rv, .slice A n cc] 34)) tEn' (endsC (List.replicate n eb0)).toArray
    rw [size1] at hb
    have hl := esK_len bl (j := 0) (by omega)
    rw [HN.out.1] at hl
    refine ⟨n, [], by rw [hl], by rw [hl]; simp, by unfold maxLen; omega, ?_⟩
    simpa [esK, HN.out.1] using hb
  have HE0 := Lib.hid (And.intro hE0 (hW0.alloc (by simp) (.cells (endsC (List.replicate n eb0)).toArray tEn')))
  clear hW0 hE0
  go_loopw [19] (fun v wr => ∃ j : Nat, j ≤ n ∧ v = .int .i64 j ∧ RwE wr (w.heap.size + 1) (.slice (some ⟨w.heap.size + 1, 0, none⟩) n n) (esK bl j) ∧ Below w.heap.size w wr) (fun v _ => n - (intOf v).toNat)
  case atStart => exact ⟨0, by omega, rfl, HE0.out.1, HE0.out.2⟩
  case round =>
    obtain ⟨j, hj, rfl, hrw, hbel⟩ := hrel
    clear HE0
    by_cases hlt : j < n
    · have hjl : j < bl.length := by rw [HN.out.1]; exact hlt
      obtain ⟨g, o, c9, hv9, hg, -, -, hiw, cv, hcv, hx⟩ := HB.out.at hjl
      simp only [Value.slice.injEq] at hv9
      obtain ⟨rfl, -, -⟩ := hv9
      obtain ⟨⟨k0, a0, to0, el0⟩, he⟩ : ∃ e, bl[j].e = e := ⟨_, rfl⟩
      have hmem := List.getElem_mem hjl
      have hes := esK_set bl hjl
      generalize bl[j] = blo at *
      obtain ⟨code, e'⟩ := blo
      simp only at he
      subst he
      simp only [bloC] at hx
      simp only at hes
      obtain ⟨cA, ccc, rfl, -⟩ := hcv.sl
      generalize code.length = cn at *
      have x0 : wr.cell? ⟨g, o + j * 5, none⟩ = some (.slice cA cn ccc) := (hbel.cell (p := ⟨g, _, none⟩) hg).trans (hx 0 _ rfl)
      have x1 : wr.cell? ⟨g, o + j * 5 + 1, none⟩ = some (.int .i64 k0) := (hbel.cell (p := ⟨g, _, none⟩) hg).trans (hx 1 _ rfl)
      have x2 : wr.cell? ⟨g, o + j * 5 + 2, none⟩ = some (.int .i64 a0) := (hbel.cell (p := ⟨g, _, none⟩) hg).trans (hx 2 _ rfl)
      have x3 : wr.cell? ⟨g, o + j * 5 + 3, none⟩ = some (.int .i64 to0) := (hbel.cell (p := ⟨g, _, none⟩) hg).trans (hx 3 _ rfl)
      have x4 : wr.cell? ⟨g, o + j * 5 + 4, none⟩ = some (.int .i64 el0) := (hbel.cell (p := ⟨g, _, none⟩) hg).trans (hx 4 _ rfl)
      have hgl : g < wr.heap.size := by have := hbel.size; omega
      have hz : (esK bl j)[j]? = some eb0 := by
        have h1 : ((esB bl).take j).length = j := by rw [List.length_take, esB_len, HN.out.1]; omega
        unfold esK
        rw [List.getElem?_append_right (by omega), h1, Nat.sub_self, List.getElem?_replicate, if_pos (by rw [HN.out.1]; omega)]
      obtain ⟨y0, y1, y2, y3⟩ := hrw.cells hz
      simp only [eb0] at y0 y1 y2 y3
      have yf0 := hrw.frozen (j * 4)
      have yf1 := hrw.frozen (j * 4 + 1)
      have yf2 := hrw.frozen (j * 4 + 2)
      have yf3 := hrw.frozen (j * 4 + 3)
      have yl := hrw.lt
      clear hz
      have HR := Lib.hid (And.intro hrw (And.intro hbel (And.intro hmem hes)))
      clear hx hcv hiw hrw hbel hmem hes
      go_wp2_with fail
      have hset := HR.out.1.set (i := j) (by rw [esK_len bl (by rw [HN.out.1]; omega), HN.out.1]; exact hlt) ⟨k0, a0, to0, el0⟩
      have hbel4 : Below w.heap.size w ((((wr.setCell ⟨w.heap.size + 1, j * 4, none⟩ (.int .i64 k0)).setCell ⟨w.heap.size + 1, j * 4 + 1, none⟩ (.int .i64 a0)).setCell ⟨w.heap.size + 1, j * 4 + 2, none⟩ (.int .i64 to0)).setCell ⟨w.heap.size + 1, j * 4 + 3, none⟩ (.int .i64 el0)) :=
        (((HR.out.2.1.setCell (p := ⟨w.heap.size + 1, j * 4, none⟩) (by simp) _).setCell (p := ⟨w.heap.size + 1, j * 4 + 1, none⟩) (by simp) _).setCell (p := ⟨w.heap.size + 1, j * 4 + 2, none⟩) (by simp) _).setCell (p := ⟨w.heap.size + 1, j * 4 + 3, none⟩) (by simp) _
      simp only at hset
      generalize (((wr.setCell ⟨w.heap.size + 1, j * 4, none⟩ (.int .i64 k0)).setCell ⟨w.heap.size + 1, j * 4 + 1, none⟩ (.int .i64 a0)).setCell ⟨w.heap.size + 1, j * 4 + 2, none⟩ (.int .i64 to0)).setCell ⟨w.heap.size + 1, j * 4 + 3, none⟩ (.int .i64 el0) = W4 at *
      have HS4 := Lib.hid (And.intro hset hbel4)
      clear hset hbel4 x0 x1 x2 x3 x4 y0 y1 y2 y3 yf0 yf1 yf2 yf3 yl hgl
      refine (tos_any ⟨k0, a0, to0, el0⟩ _).mono ?_
      rintro e w2 ⟨tv, rfl, hrd, hb2⟩
      have htos : ∀ t ∈ tosM ⟨k0, a0, to0, el0⟩, 0 ≤ t ∧ t < (n : Int) := by
        intro t ht
        have h1 := HN.out.2
        unfold endsOk at h1
        rw [List.all_eq_true] at h1
        have h2 := h1 _ (List.mem_map.2 ⟨_, HR.out.2.2.1, rfl⟩)
        rw [List.all_eq_true] at h2
        have h3 := h2 t ht
        rw [esB_len, HN.out.1] at h3
        simpa using h3
      generalize tosM ⟨k0, a0, to0, el0⟩ = L at hrd htos
      obtain ⟨tA, tc, rfl, htl, htm⟩ := hrd.sl
      unfold maxLen at htm
      obtain ⟨ln, hln⟩ : ∃ ln, L.length = ln := ⟨_, rfl⟩
      rw [hln] at htl hrd ⊢
      have HT := Lib.hid (And.intro hrd (And.intro htos (And.intro hln hb2)))
      clear hrd htos hln hb2
      go_wp2_with fail
      go_loop [33] (fun v => ∃ m : Nat, m ≤ ln ∧ v = .int .i64 m) (fun v => ln - (intOf v).toNat)
      case atStart => exact ⟨0, by omega, rfl⟩
      case round =>
        obtain ⟨m, hm, rfl⟩ := hrel
        by_cases hml : m < ln
        · have hm2 : m < L.length := by rw [HT.out.2.2.1]; exact hml
          have hx9 := List.getElem?_eq_getElem hm2
          obtain ⟨hx0, hxn⟩ := HT.out.2.1 _ (List.getElem_mem hm2)
          generalize L[m] = x at *
          obtain ⟨g2, o2, c2, hv2, -, hg2, hc2⟩ := HT.out.1.at hx9
          simp only [Value.slice.injEq] at hv2
          obtain ⟨rfl, -, -⟩ := hv2
          have d1 : decide (x < 0) = false := by simpa using hx0
          have d2 : decide ((n : Int) ≤ x) = false := by simpa using hxn
          clear hx9
          go_wp2_with fail
          exact ⟨⟨m + 1, by omega, by go_num⟩, by simp [intOf]; omega⟩
        · obtain rfl : m = ln := by omega
          have hb5 : Below w.heap.size w w2 := (HS4.out.2.alloc HS4.out.2.size _).trans (HT.out.2.2.2.mono (by have := HS4.out.2.size; simp; omega))
          have hw5 : RwE w2 (w.heap.size + 1) (.slice (some ⟨w.heap.size + 1, 0, none⟩) n n) (esK bl (j + 1)) := by
            have h1 := HS4.out.1
            rw [HR.out.2.2.2] at h1
            have h2 : RwE (W4.alloc (.cells #[.slice cA cn ccc, .int .i64 k0, .int .i64 a0, .int .i64 to0, .int .i64 el0] tBl')) (w.heap.size + 1) (.slice (some ⟨w.heap.size + 1, 0, none⟩) n n) (esK bl (j + 1)) := h1.on ((Below.refl _ _).alloc (Nat.le_refl _) _)
            exact h2.on HT.out.2.2.2
          have HF := Lib.hid (And.intro hw5 hb5)
          clear hb5 hw5
          go_wp2_with fail
          go_roundw
          case rel => exact ⟨j + 1, by omega, by go_num, HF.out.1, HF.out.2⟩
          case measure => simp [intOf]; omega
    · obtain rfl : j = n := by omega
      have e9 : esK bl j = esB bl := by
        unfold esK
        rw [HN.out.1, Nat.sub_self, List.replicate_zero, List.append_nil, List.take_of_length_le (by rw [esB_len, HN.out.1]; exact Nat.le_refl _)]
      rw [e9] at hrw
      go_wp2_with fail
      go_ret
      exact ⟨_, _, rfl, by omega, hrw, hbel⟩
end Go.Proofs.Ytjmlpbnejcfnhaa
