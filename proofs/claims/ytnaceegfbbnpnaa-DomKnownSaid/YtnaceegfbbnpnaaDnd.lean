/-
  Layer dom: DomKnown's walk.
-/
import Derived.Test.YtnaceegfbbnpnaaDnc
namespace Go.Proofs.Ytnaceegfbbnpnaa
open Go Go.RowKit Go.Maps
set_option linter.unusedVariables false
set_option linter.unusedSimpArgs false

theorem rdLitI {w : World} {g : Nat} (l : List Int) (n : Nat) (h : Blk w g tI1 (intC l)) (hn : l.length = n) (hm : n ≤ 1000) : RdV w w.heap.size (.slice (some ⟨g, 0, none⟩) n n) l := by
  subst hn
  refine rdV_row (base := 0) ⟨by simp, .inr ⟨g, _, _, rfl, Nat.zero_le _, h, Nat.le_refl _, by unfold maxLen; omega, by simp [intC], ?_⟩⟩
  show (l.map (Value.int .i64)).take (l.length * 1) = _
  exact List.take_of_length_le (by simp)
theorem below_allocDrew {w w' : World} {o : Obj} {d : Nat} (h : w' = (w.alloc o).drewN d) : Below w.heap.size w w' := by
  subst h
  have h9 : Below w.heap.size w (w.alloc o) := (Below.refl _ _).alloc (Nat.le_refl _) _
  exact h9.trans (below_drewN _ _ d)
theorem rdI_rdV {w : World} {lo hi : Nat} {v : Value} {l : List Int} (h : RdI w lo hi v l) (hne : l ≠ []) : RdV w hi v l := by
  obtain ⟨A, c, h1, h2, h3, h4⟩ := h
  rcases h4 with e | ⟨g, o, rfl, h5, h6, h7⟩
  · exact absurd e hne
  · exact ⟨_, c, h1, h2, h3, fun e => (by cases e), .inr ⟨g, o, rfl, h6, fun i x hi => by
      show w.cell? ⟨g, o + i * 1 + 0, none⟩ = _
      rw [show o + i * 1 + 0 = o + i by omega]
      exact h7 i x hi⟩⟩
def eD1 : List Eb := [⟨1, 0, 1, 0⟩, ⟨2, 0, 1, 2⟩, ⟨3, 0, 0, 0⟩]
def eD2 : List Eb := [⟨1, 0, 0, 0⟩]
def eD3 : List Eb := [⟨3, 0, 0, 0⟩, ⟨1, 0, 0, 0⟩, ⟨2, 0, 1, 2⟩]
def eD4 : List Eb := [⟨2, 0, 1, 2⟩, ⟨2, 0, 2, 3⟩, ⟨2, 0, 1, 1⟩, ⟨3, 0, 0, 0⟩]
def eD5 : List Eb := [⟨2, 0, 1, 2⟩, ⟨2, 0, 2, 3⟩, ⟨2, 0, 4, 4⟩, ⟨3, 0, 0, 0⟩, ⟨2, 0, 2, 3⟩]
theorem eD1_w : ∀ e ∈ eD1, e.w := by
  intro e he
  simp only [eD1, List.mem_cons, List.not_mem_nil, or_false] at he
  rcases he with rfl | rfl | rfl <;> exact ⟨rfl, rfl, rfl, rfl⟩
theorem eD1_ok : endsOk eD1 = true := by decide +kernel
theorem eD2_w : ∀ e ∈ eD2, e.w := by
  intro e he
  simp only [eD2, List.mem_cons, List.not_mem_nil, or_false] at he
  obtain rfl := he
  exact ⟨rfl, rfl, rfl, rfl⟩
theorem eD2_ok : endsOk eD2 = true := by decide +kernel
theorem eD3_w : ∀ e ∈ eD3, e.w := by
  intro e he
  simp only [eD3, List.mem_cons, List.not_mem_nil, or_false] at he
  rcases he with rfl | rfl | rfl <;> exact ⟨rfl, rfl, rfl, rfl⟩
theorem eD3_ok : endsOk eD3 = true := by decide +kernel
theorem eD4_w : ∀ e ∈ eD4, e.w := by
  intro e he
  simp only [eD4, List.mem_cons, List.not_mem_nil, or_false] at he
  rcases he with rfl | rfl | rfl | rfl <;> exact ⟨rfl, rfl, rfl, rfl⟩
theorem eD4_ok : endsOk eD4 = true := by decide +kernel
theorem eD4_none : splitM 4 eD4 = none := by decide +kernel
theorem eD4_split : splitM 5 eD4 = some (eD5, [0, 1, 2, 3, 1]) := by decide +kernel
theorem eD1_red : (graphM eD1).wrong.isNone = true := by decide +kernel
theorem eD2_red : (graphM eD2).wrong.isNone = true := by decide +kernel
theorem eD3_red : (graphM eD3).wrong.isNone = true := by decide +kernel
theorem eD3_ord : (walkM (eD3.map tosN)).ord = [0] := by decide +kernel
theorem eD3_dom : domsM (eD3.map tosN) (walkM (eD3.map tosN)) = [0, -1, -1] := by decide +kernel
theorem eD1_dom : domsM (eD1.map tosN) (walkM (eD1.map tosN)) = [0, 0, 1] := by decide +kernel
theorem tos44 : tosM ⟨2, 0, 4, 4⟩ = [4] := by decide +kernel
theorem tos30 : tosM ⟨3, 0, 0, 0⟩ = [] := by decide +kernel
set_option maxHeartbeats 16000000 in
set_option maxRecDepth 100000 in
theorem domKnown_walk (w : World) : Calls Try.prog 4 #[] w fun r w' => r = .returned (.bool true) ∧ Below w.heap.size w w' := by
  go_enter Try.func4, Try.ntmps4
  have J : Below w.heap.size w w := Below.refl _ _
  go_wp2_with fail
  refine (jump_any 1 _).mono ?_
  rintro r w1 ⟨rfl, hb⟩
  replace J := J.trans (hb.mono J.size)
  clear hb
  go_wp2_with fail
  refine (branch_any 1 2 _).mono ?_
  rintro r w2 ⟨rfl, hb⟩
  replace J := J.trans (hb.mono J.size)
  clear hb
  go_wp2_with fail
  refine (last_any _).mono ?_
  rintro r w3 ⟨rfl, hb⟩
  replace J := J.trans (hb.mono J.size)
  clear hb
  unfold ebA
  go_wp2_with fail
  refine (endsL w3 eD1 3 _ rfl (by decide) eD1_w rfl).mono ?_
  rintro r w4 ⟨rA1, rn1, rc1, bA1, bc1, rfl, hB, hb⟩
  replace J := J.trans (hb.mono J.size)
  clear hb
  obtain ⟨W1, hW⟩ : ∃ x, x = w4.alloc (.cells (cdA (.slice rA1 rn1 rc1) (.slice bA1 3 bc1)) tCd) := ⟨_, rfl⟩
  obtain ⟨H1, hH⟩ : ∃ x, x = w4.heap.size := ⟨_, rfl⟩
  have hb : Below w4.heap.size w4 W1 := by rw [hW]; exact (Below.refl _ _).alloc (Nat.le_refl _) _
  have b : Blk W1 H1 tCd (cdA (.slice rA1 rn1 rc1) (.slice bA1 3 bc1)) := by rw [hW, hH]; exact Blk.new w4 tCd _
  replace hB := hB.on hb
  replace J := J.trans (hb.mono J.size)
  have E1 := Lib.hid (And.intro hB b)
  have X01 := Lib.hid J
  clear hb hB b J
  have J : Below W1.heap.size W1 W1 := Below.refl _ _
  go_wp2_with fail
  first | rw [← hW, ← hH] | rw [← hW] | (trace_state; fail)
  clear hW hH
  go_wp2_with fail
  refine (jump_any 0 _).mono ?_
  rintro r w5 ⟨rfl, hb⟩
  replace J := J.trans (hb.mono J.size)
  clear hb
  unfold ebA
  go_wp2_with fail
  refine (endsL w5 eD2 1 _ rfl (by decide) eD2_w rfl).mono ?_
  rintro r w6 ⟨rA2, rn2, rc2, bA2, bc2, rfl, hB, hb⟩
  replace J := J.trans (hb.mono J.size)
  clear hb
  obtain ⟨W2, hW⟩ : ∃ x, x = w6.alloc (.cells (cdA (.slice rA2 rn2 rc2) (.slice bA2 1 bc2)) tCd) := ⟨_, rfl⟩
  obtain ⟨H2, hH⟩ : ∃ x, x = w6.heap.size := ⟨_, rfl⟩
  have hb : Below w6.heap.size w6 W2 := by rw [hW]; exact (Below.refl _ _).alloc (Nat.le_refl _) _
  have b : Blk W2 H2 tCd (cdA (.slice rA2 rn2 rc2) (.slice bA2 1 bc2)) := by rw [hW, hH]; exact Blk.new w6 tCd _
  replace hB := hB.on hb
  replace J := J.trans (hb.mono J.size)
  have E2 := Lib.hid (And.intro hB b)
  have X12 := Lib.hid J
  clear hb hB b J
  have J : Below W2.heap.size W2 W2 := Below.refl _ _
  go_wp2_with fail
  first | rw [← hW, ← hH] | rw [← hW] | (trace_state; fail)
  clear hW hH
  go_wp2_with fail
  refine (last_any _).mono ?_
  rintro r w7 ⟨rfl, hb⟩
  replace J := J.trans (hb.mono J.size)
  clear hb
  go_wp2_with fail
  refine (jump_any 0 _).mono ?_
  rintro r w8 ⟨rfl, hb⟩
  replace J := J.trans (hb.mono J.size)
  clear hb
  go_wp2_with fail
  refine (branch_any 1 2 _).mono ?_
  rintro r w9 ⟨rfl, hb⟩
  replace J := J.trans (hb.mono J.size)
  clear hb
  unfold ebA
  go_wp2_with fail
  refine (endsL w9 eD3 3 _ rfl (by decide) eD3_w rfl).mono ?_
  rintro r w10 ⟨rA3, rn3, rc3, bA3, bc3, rfl, hB, hb⟩
  replace J := J.trans (hb.mono J.size)
  clear hb
  obtain ⟨W3, hW⟩ : ∃ x, x = w10.alloc (.cells (cdA (.slice rA3 rn3 rc3) (.slice bA3 3 bc3)) tCd) := ⟨_, rfl⟩
  obtain ⟨H3, hH⟩ : ∃ x, x = w10.heap.size := ⟨_, rfl⟩
  have hb : Below w10.heap.size w10 W3 := by rw [hW]; exact (Below.refl _ _).alloc (Nat.le_refl _) _
  have b : Blk W3 H3 tCd (cdA (.slice rA3 rn3 rc3) (.slice bA3 3 bc3)) := by rw [hW, hH]; exact Blk.new w10 tCd _
  replace hB := hB.on hb
  replace J := J.trans (hb.mono J.size)
  have E3 := Lib.hid (And.intro hB b)
  have X23 := Lib.hid J
  clear hb hB b J
  have J : Below W3.heap.size W3 W3 := Below.refl _ _
  go_wp2_with fail
  first | rw [← hW, ← hH] | rw [← hW] | (trace_state; fail)
  clear hW hH
  go_wp2_with fail
  refine (branch_any 1 2 _).mono ?_
  rintro r w11 ⟨rfl, hb⟩
  replace J := J.trans (hb.mono J.size)
  clear hb
  go_wp2_with fail
  refine (branch_any 2 3 _).mono ?_
  rintro r w12 ⟨rfl, hb⟩
  replace J := J.trans (hb.mono J.size)
  clear hb
  go_wp2_with fail
  refine (branch_any 1 1 _).mono ?_
  rintro r w13 ⟨rfl, hb⟩
  replace J := J.trans (hb.mono J.size)
  clear hb
  go_wp2_with fail
  refine (last_any _).mono ?_
  rintro r w14 ⟨rfl, hb⟩
  replace J := J.trans (hb.mono J.size)
  clear hb
  unfold ebA
  go_wp2_with fail
  refine (endsL w14 eD4 4 _ rfl (by decide) eD4_w rfl).mono ?_
  rintro r w15 ⟨rA4, rn4, rc4, bA4, bc4, rfl, hB, hb⟩
  replace J := J.trans (hb.mono J.size)
  clear hb
  obtain ⟨W4, hW⟩ : ∃ x, x = w15.alloc (.cells (cdA (.slice rA4 rn4 rc4) (.slice bA4 4 bc4)) tCd) := ⟨_, rfl⟩
  obtain ⟨H4, hH⟩ : ∃ x, x = w15.heap.size := ⟨_, rfl⟩
  have hb : Below w15.heap.size w15 W4 := by rw [hW]; exact (Below.refl _ _).alloc (Nat.le_refl _) _
  have b : Blk W4 H4 tCd (cdA (.slice rA4 rn4 rc4) (.slice bA4 4 bc4)) := by rw [hW, hH]; exact Blk.new w15 tCd _
  replace hB := hB.on hb
  replace J := J.trans (hb.mono J.size)
  have E4 := Lib.hid (And.intro hB b)
  have X34 := Lib.hid J
  clear hb hB b J
  have J : Below W4.heap.size W4 W4 := Below.refl _ _
  go_wp2_with fail
  first | rw [← hW, ← hH] | rw [← hW] | (trace_state; fail)
  clear hW hH
  refine (splitN W4 eD4 4 E4.out.1 (by decide) (by decide) eD4_ok eD4_none).mono ?_
  rintro r w16 ⟨rfl, hb⟩
  have h4 : Below W4.heap.size W4 w16 := hb
  clear hb J
  obtain ⟨W5, hW⟩ : ∃ x, x = w16.alloc (.cells cdz tCd) := ⟨_, rfl⟩
  obtain ⟨H5, hH⟩ : ∃ x, x = w16.heap.size := ⟨_, rfl⟩
  have hb : Below w16.heap.size w16 W5 := by rw [hW]; exact (Below.refl _ _).alloc (Nat.le_refl _) _
  have b : Blk W5 H5 tCd cdz := by rw [hW, hH]; exact Blk.new w16 tCd _
  replace h4 := h4.trans (hb.mono h4.size)
  have E5 := Lib.hid (And.intro h4 b)
  have c0 : W5.cell? ⟨H4, 0, none⟩ = some (.string ⟨#[109, 97, 105, 110]⟩) := (E4.out.2.on h4).cell 0
  have c1 : W5.cell? ⟨H4, 1, none⟩ = some (.int .i64 1) := (E4.out.2.on h4).cell 1
  have c2 : W5.cell? ⟨H4, 2, none⟩ = some (.int .i64 0) := (E4.out.2.on h4).cell 2
  have c3 : W5.cell? ⟨H4, 3, none⟩ = some (.slice rA4 rn4 rc4) := (E4.out.2.on h4).cell 3
  have c4 : W5.cell? ⟨H4, 4, none⟩ = some (.slice bA4 4 bc4) := (E4.out.2.on h4).cell 4
  have cl := (E4.out.2.on h4).lt
  clear hb b
  go_upto_region 6 with (fail)
  first | rw [← hW, ← hH] | rw [← hW] | (trace_state; fail)
  clear hW hH
  go_wp2_with fail
  refine (splitS W5 eD4 eD5 [0, 1, 2, 3, 1] 5 5 (E4.out.1.on h4) (by decide) (by decide) eD4_ok eD4_split rfl).mono ?_
  rintro r w17 ⟨rA7, rn7, rc7, bA7, bc7, rfl, hB, hb⟩
  have h5 : Below W5.heap.size W5 w17 := hb
  clear hb c0 c1 c2 c3 c4 cl
  obtain ⟨W7, hW⟩ : ∃ x, x = w17.alloc (.cells (cdA (.slice rA7 rn7 rc7) (.slice bA7 5 bc7)) tCd) := ⟨_, rfl⟩
  obtain ⟨H7, hH⟩ : ∃ x, x = w17.heap.size := ⟨_, rfl⟩
  have hb : Below w17.heap.size w17 W7 := by rw [hW]; exact (Below.refl _ _).alloc (Nat.le_refl _) _
  have b : Blk W7 H7 tCd (cdA (.slice rA7 rn7 rc7) (.slice bA7 5 bc7)) := by rw [hW, hH]; exact Blk.new w17 tCd _
  replace h5 := h5.trans (hb.mono h5.size)
  replace hB := hB.on hb
  obtain ⟨g, rfl, hgl, hgc⟩ := barcells hB rfl (by decide)
  have h7 : ∀ Wx, Below W7.heap.size W7 Wx → Below W4.heap.size W4 Wx := fun Wx hx => h4.trans ((h5.trans (hx.mono h5.size)).mono h4.size)
  have h37 : ∀ Wx, Below W7.heap.size W7 Wx → Below W3.heap.size W3 Wx := fun Wx hx => X34.out.trans ((h7 Wx hx).mono X34.out.size)
  have h27 : ∀ Wx, Below W7.heap.size W7 Wx → Below W2.heap.size W2 Wx := fun Wx hx => X23.out.trans ((h37 Wx hx).mono X23.out.size)
  have h17 : ∀ Wx, Below W7.heap.size W7 Wx → Below W1.heap.size W1 Wx := fun Wx hx => X12.out.trans ((h27 Wx hx).mono X12.out.size)
  have HS := Lib.hid (show ∀ Wx, Below W7.heap.size W7 Wx → Wx.cell? ⟨H1, 0, none⟩ = some (.string ⟨#[109, 97, 105, 110]⟩) ∧ Wx.cell? ⟨H1, 1, none⟩ = some (.int .i64 1) ∧ Wx.cell? ⟨H1, 2, none⟩ = some (.int .i64 0) ∧ Wx.cell? ⟨H1, 3, none⟩ = some (.slice rA1 rn1 rc1) ∧ Wx.cell? ⟨H1, 4, none⟩ = some (.slice bA1 3 bc1) ∧ H1 < Wx.heap.size ∧ Wx.cell? ⟨H2, 0, none⟩ = some (.string ⟨#[109, 97, 105, 110]⟩) ∧ Wx.cell? ⟨H2, 1, none⟩ = some (.int .i64 1) ∧ Wx.cell? ⟨H2, 2, none⟩ = some (.int .i64 0) ∧ Wx.cell? ⟨H2, 3, none⟩ = some (.slice rA2 rn2 rc2) ∧ Wx.cell? ⟨H2, 4, none⟩ = some (.slice bA2 1 bc2) ∧ H2 < Wx.heap.size ∧ Wx.cell? ⟨H3, 0, none⟩ = some (.string ⟨#[109, 97, 105, 110]⟩) ∧ Wx.cell? ⟨H3, 1, none⟩ = some (.int .i64 1) ∧ Wx.cell? ⟨H3, 2, none⟩ = some (.int .i64 0) ∧ Wx.cell? ⟨H3, 3, none⟩ = some (.slice rA3 rn3 rc3) ∧ Wx.cell? ⟨H3, 4, none⟩ = some (.slice bA3 3 bc3) ∧ H3 < Wx.heap.size ∧ Wx.cell? ⟨H5, 4, none⟩ = some (.slice none 0 0) ∧ H5 < Wx.heap.size ∧ Wx.cell? ⟨H7, 4, none⟩ = some (.slice (some ⟨g, 0, none⟩) 5 bc7) ∧ H7 < Wx.heap.size ∧ Wx.cell? ⟨g, 11, none⟩ = some (.int .i64 2) ∧ Wx.cell? ⟨g, 12, none⟩ = some (.int .i64 0) ∧ Wx.cell? ⟨g, 13, none⟩ = some (.int .i64 4) ∧ Wx.cell? ⟨g, 14, none⟩ = some (.int .i64 4) ∧ Wx.cell? ⟨g, 21, none⟩ = some (.int .i64 2) ∧ Wx.cell? ⟨g, 22, none⟩ = some (.int .i64 0) ∧ Wx.cell? ⟨g, 23, none⟩ = some (.int .i64 2) ∧ Wx.cell? ⟨g, 24, none⟩ = some (.int .i64 3) ∧ g < Wx.heap.size from fun Wx hx => by
    have e1 := E1.out.2.on (h17 Wx hx)
    have e2 := E2.out.2.on (h27 Wx hx)
    have e3 := E3.out.2.on (h37 Wx hx)
    have e5 := E5.out.2.on (h5.trans (hx.mono h5.size))
    have e7 := b.on hx
    exact ⟨e1.cell 0, e1.cell 1, e1.cell 2, e1.cell 3, e1.cell 4, e1.lt, e2.cell 0, e2.cell 1, e2.cell 2, e2.cell 3, e2.cell 4, e2.lt, e3.cell 0, e3.cell 1, e3.cell 2, e3.cell 3, e3.cell 4, e3.lt, e5.cell 4, e5.lt, e7.cell 4, e7.lt, (hx.cell (p := ⟨g, 11, none⟩) hgl).trans (hgc 2 ⟨2, 0, 4, 4⟩ 1 _ rfl rfl), (hx.cell (p := ⟨g, 12, none⟩) hgl).trans (hgc 2 ⟨2, 0, 4, 4⟩ 2 _ rfl rfl), (hx.cell (p := ⟨g, 13, none⟩) hgl).trans (hgc 2 ⟨2, 0, 4, 4⟩ 3 _ rfl rfl), (hx.cell (p := ⟨g, 14, none⟩) hgl).trans (hgc 2 ⟨2, 0, 4, 4⟩ 4 _ rfl rfl), (hx.cell (p := ⟨g, 21, none⟩) hgl).trans (hgc 4 ⟨2, 0, 2, 3⟩ 1 _ rfl rfl), (hx.cell (p := ⟨g, 22, none⟩) hgl).trans (hgc 4 ⟨2, 0, 2, 3⟩ 2 _ rfl rfl), (hx.cell (p := ⟨g, 23, none⟩) hgl).trans (hgc 4 ⟨2, 0, 2, 3⟩ 3 _ rfl rfl), (hx.cell (p := ⟨g, 24, none⟩) hgl).trans (hgc 4 ⟨2, 0, 2, 3⟩ 4 _ rfl rfl), Nat.lt_of_lt_of_le hgl hx.size⟩)
  have HB1 := Lib.hid (show ∀ Wx, Below W7.heap.size W7 Wx → BaR Wx (.slice rA1 rn1 rc1) (.slice bA1 3 bc1) eD1 from fun Wx hx => E1.out.1.on (h17 Wx hx))
  have HB2 := Lib.hid (show ∀ Wx, Below W7.heap.size W7 Wx → BaR Wx (.slice rA2 rn2 rc2) (.slice bA2 1 bc2) eD2 from fun Wx hx => E2.out.1.on (h27 Wx hx))
  have HB3 := Lib.hid (show ∀ Wx, Below W7.heap.size W7 Wx → BaR Wx (.slice rA3 rn3 rc3) (.slice bA3 3 bc3) eD3 from fun Wx hx => E3.out.1.on (h37 Wx hx))
  have H8 := Lib.hid (show ∀ Wx, Below W7.heap.size W7 Wx → Below w.heap.size w Wx from fun Wx hx => X01.out.trans ((h17 Wx hx).mono X01.out.size))
  clear h4 h5 hb hB b hgl hgc h7 h37 h27 h17 X34 X23 X12 X01 E1 E2 E3 E4 E5
  go_upto_region 7 with (fail)
  first | rw [← hW, ← hH] | rw [← hW] | (trace_state; fail)
  clear hW hH
  have HV := HS.out W7 (Below.refl _ _)
  go_upto_region 9 with (fail)
  clear HV
  have J : Below W7.heap.size W7 W7 := Below.refl _ _
  go_cut [78] (fun v wx => v = .bool false ∧ Below W7.heap.size W7 wx)
  case first =>
    refine wp_region_held_drew (S := fun Wx => Wx.cell? ⟨H1, 0, none⟩ = some (.string ⟨#[109, 97, 105, 110]⟩) ∧ Wx.cell? ⟨H1, 1, none⟩ = some (.int .i64 1) ∧ Wx.cell? ⟨H1, 2, none⟩ = some (.int .i64 0) ∧ Wx.cell? ⟨H1, 3, none⟩ = some (.slice rA1 rn1 rc1) ∧ Wx.cell? ⟨H1, 4, none⟩ = some (.slice bA1 3 bc1) ∧ H1 < Wx.heap.size ∧ Wx.cell? ⟨H2, 0, none⟩ = some (.string ⟨#[109, 97, 105, 110]⟩) ∧ Wx.cell? ⟨H2, 1, none⟩ = some (.int .i64 1) ∧ Wx.cell? ⟨H2, 2, none⟩ = some (.int .i64 0) ∧ Wx.cell? ⟨H2, 3, none⟩ = some (.slice rA2 rn2 rc2) ∧ Wx.cell? ⟨H2, 4, none⟩ = some (.slice bA2 1 bc2) ∧ H2 < Wx.heap.size ∧ Wx.cell? ⟨H3, 0, none⟩ = some (.string ⟨#[109, 97, 105, 110]⟩) ∧ Wx.cell? ⟨H3, 1, none⟩ = some (.int .i64 1) ∧ Wx.cell? ⟨H3, 2, none⟩ = some (.int .i64 0) ∧ Wx.cell? ⟨H3, 3, none⟩ = some (.slice rA3 rn3 rc3) ∧ Wx.cell? ⟨H3, 4, none⟩ = some (.slice bA3 3 bc3) ∧ H3 < Wx.heap.size ∧ Wx.cell? ⟨H5, 4, none⟩ = some (.slice none 0 0) ∧ H5 < Wx.heap.size ∧ Wx.cell? ⟨H7, 4, none⟩ = some (.slice (some ⟨g, 0, none⟩) 5 bc7) ∧ H7 < Wx.heap.size ∧ Wx.cell? ⟨g, 11, none⟩ = some (.int .i64 2) ∧ Wx.cell? ⟨g, 12, none⟩ = some (.int .i64 0) ∧ Wx.cell? ⟨g, 13, none⟩ = some (.int .i64 4) ∧ Wx.cell? ⟨g, 14, none⟩ = some (.int .i64 4) ∧ Wx.cell? ⟨g, 21, none⟩ = some (.int .i64 2) ∧ Wx.cell? ⟨g, 22, none⟩ = some (.int .i64 0) ∧ Wx.cell? ⟨g, 23, none⟩ = some (.int .i64 2) ∧ Wx.cell? ⟨g, 24, none⟩ = some (.int .i64 3) ∧ g < Wx.heap.size) (by kernel_rfl) (by exact HS.out _ (J.drew)) (fun hHeld => ?_)
    obtain ⟨p9, hp⟩ : ∃ x, x = W7.drew := ⟨_, rfl⟩
    replace J : Below W7.heap.size W7 p9 := by rw [hp]; exact J.drew
    rw [← hp] at hHeld ⊢
    clear hp
    refine tQ 0 hHeld ?_
    try simp only [Act.put, List.setIfInBounds_toArray, List.set_cons_zero, List.set_cons_succ]
    refine tQ 1 hHeld ?_
    try simp only [Act.put, List.setIfInBounds_toArray, List.set_cons_zero, List.set_cons_succ]
    refine tQ 2 hHeld ?_
    try simp only [Act.put, List.setIfInBounds_toArray, List.set_cons_zero, List.set_cons_succ]
    refine tQ 3 hHeld ?_
    try simp only [Act.put, List.setIfInBounds_toArray, List.set_cons_zero, List.set_cons_succ]
    refine tQ 4 hHeld ?_
    try simp only [Act.put, List.setIfInBounds_toArray, List.set_cons_zero, List.set_cons_succ]
    refine oneL (i := 5) rfl (by kernel_rfl) (fun K hK => ?_)
    go_simp
    refine (branch_any 4 4 _).mono ?_
    rintro e q1 ⟨rfl, hb⟩
    unfold ebA
    replace J := J.trans (hb.mono J.size)
    clear hb
    clear hHeld
    refine hK.out _ _ (HS.out _ J) (fun hHeld => ?_)
    clear hK K
    try simp only [Act.put, List.setIfInBounds_toArray, List.set_cons_zero, List.set_cons_succ]
    refine tQ 6 hHeld ?_
    try simp only [Act.put, List.setIfInBounds_toArray, List.set_cons_zero, List.set_cons_succ]
    refine tQ 7 hHeld ?_
    try simp only [Act.put, List.setIfInBounds_toArray, List.set_cons_zero, List.set_cons_succ]
    refine tQ 8 hHeld ?_
    try simp only [Act.put, List.setIfInBounds_toArray, List.set_cons_zero, List.set_cons_succ]
    refine tQ 9 hHeld ?_
    try simp only [Act.put, List.setIfInBounds_toArray, List.set_cons_zero, List.set_cons_succ]
    refine tQ 10 hHeld ?_
    try simp only [Act.put, List.setIfInBounds_toArray, List.set_cons_zero, List.set_cons_succ]
    refine tQ 11 hHeld ?_
    try simp only [Act.put, List.setIfInBounds_toArray, List.set_cons_zero, List.set_cons_succ]
    refine tQ 12 hHeld ?_
    try simp only [Act.put, List.setIfInBounds_toArray, List.set_cons_zero, List.set_cons_succ]
    refine oneL (i := 13) rfl (by kernel_rfl) (fun K hK => ?_)
    go_simp
    refine (branch_any 2 3 _).mono ?_
    rintro e q2 ⟨rfl, hb⟩
    unfold ebA
    replace J := J.trans (hb.mono J.size)
    clear hb
    clear hHeld
    refine hK.out _ _ (HS.out _ J) (fun hHeld => ?_)
    clear hK K
    try simp only [Act.put, List.setIfInBounds_toArray, List.set_cons_zero, List.set_cons_succ]
    refine tQ 14 hHeld ?_
    try simp only [Act.put, List.setIfInBounds_toArray, List.set_cons_zero, List.set_cons_succ]
    refine tQ 15 hHeld ?_
    try simp only [Act.put, List.setIfInBounds_toArray, List.set_cons_zero, List.set_cons_succ]
    refine tQ 16 hHeld ?_
    try simp only [Act.put, List.setIfInBounds_toArray, List.set_cons_zero, List.set_cons_succ]
    refine twoL (i := 17) (j := 19) rfl rfl (by kernel_rfl) (fun K hK => ?_) (fun K hK => ?_)
    · go_simp
      refine (branch_any 4 4 _).mono ?_
      rintro e q3 ⟨rfl, hb⟩
      unfold ebA
      replace J := J.trans (hb.mono J.size)
      clear hb
      clear hHeld
      refine hK.out _ _ (HS.out _ J) (fun hHeld => ?_)
      clear hK K
      try simp only [Act.put, List.setIfInBounds_toArray, List.set_cons_zero, List.set_cons_succ]
      refine twoL (i := 18) (j := 19) rfl rfl (by kernel_rfl) (fun K hK => ?_) (fun K hK => ?_)
      · go_simp
        refine (tos_any ⟨2, 0, 4, 4⟩ _).mono ?_
        rintro e q4 ⟨tv, rfl, hT, hb⟩
        rw [tos44] at hT
        have hR := rdI_rdV hT (by decide)
        clear hT
        replace J := J.trans (hb.mono J.size)
        clear hb
        clear hHeld
        refine hK.out _ _ (HS.out _ J) (fun hHeld => ?_)
        clear hK K
        try simp only [Act.put, List.setIfInBounds_toArray, List.set_cons_zero, List.set_cons_succ]
        refine oneL (i := 19) rfl (by kernel_rfl) (fun K hK => ?_)
        go_simp
        obtain ⟨q5, hq5⟩ : ∃ x, x = q4.alloc (.cells #[.int .i64 4] tI1) := ⟨_, rfl⟩
        obtain ⟨nq5, hnq5⟩ : ∃ x, x = q4.heap.size := ⟨_, rfl⟩
        have hb : Below q4.heap.size q4 q5 := by rw [hq5]; exact (Below.refl _ _).alloc (Nat.le_refl _) _
        have hL := rdLitI [4] 1 (show Blk q5 nq5 tI1 (intC [4]) by rw [hq5, hnq5]; exact Blk.new _ _ _) rfl (by decide)
        rw [← hnq5]
        first | rw [← hq5] | (trace_state; fail)
        clear hq5 hnq5
        replace hR := hR.on hb
        replace J := J.trans (hb.mono J.size)
        clear hb
        clear hHeld
        refine hK.out _ _ (HS.out _ J) (fun hHeld => ?_)
        clear hK K
        try simp only [Act.put, List.setIfInBounds_toArray, List.set_cons_zero, List.set_cons_succ]
        refine oneL (i := 20) rfl (by kernel_rfl) (fun K hK => ?_)
        go_simp
        refine (sameI_any _ _ _ _ _ _ hR hL).mono ?_
        rintro e q6d ⟨rfl, d, hq6d⟩
        have hb : Below q5.heap.size q5 q6d := by rw [hq6d]; exact below_drewN _ _ d
        clear hR hL hq6d
        replace J := J.trans (hb.mono J.size)
        clear hb
        clear hHeld
        refine hK.out _ _ (HS.out _ J) (fun hHeld => ?_)
        clear hK K
        try simp only [Act.put, List.setIfInBounds_toArray, List.set_cons_zero, List.set_cons_succ]
        refine tQ 21 hHeld ?_
        try simp only [Act.put, List.setIfInBounds_toArray, List.set_cons_zero, List.set_cons_succ]
        refine tQ 22 hHeld ?_
        try simp only [Act.put, List.setIfInBounds_toArray, List.set_cons_zero, List.set_cons_succ]
        refine wpAnyH_done (by kernel_rfl) ?_ _
        clear hHeld
        go_wp2_with fail
        go_meet
        exact ⟨rfl, J⟩
      · go_simp
        obtain ⟨q7, hq7⟩ : ∃ x, x = q3.alloc (.cells #[.int .i64 4] tI1) := ⟨_, rfl⟩
        obtain ⟨nq7, hnq7⟩ : ∃ x, x = q3.heap.size := ⟨_, rfl⟩
        have hb : Below q3.heap.size q3 q7 := by rw [hq7]; exact (Below.refl _ _).alloc (Nat.le_refl _) _
        have hL := rdLitI [4] 1 (show Blk q7 nq7 tI1 (intC [4]) by rw [hq7, hnq7]; exact Blk.new _ _ _) rfl (by decide)
        rw [← hnq7]
        first | rw [← hq7] | (trace_state; fail)
        clear hq7 hnq7
        replace J := J.trans (hb.mono J.size)
        clear hb
        clear hHeld
        refine hK.out _ _ (HS.out _ J) (fun hHeld => ?_)
        clear hK K
        try simp only [Act.put, List.setIfInBounds_toArray, List.set_cons_zero, List.set_cons_succ]
        refine oneL (i := 18) rfl (by kernel_rfl) (fun K hK => ?_)
        go_simp
        refine (tos_any ⟨2, 0, 4, 4⟩ _).mono ?_
        rintro e q8 ⟨tv, rfl, hT, hb⟩
        rw [tos44] at hT
        have hR := rdI_rdV hT (by decide)
        clear hT
        replace hL := hL.on hb
        replace J := J.trans (hb.mono J.size)
        clear hb
        clear hHeld
        refine hK.out _ _ (HS.out _ J) (fun hHeld => ?_)
        clear hK K
        try simp only [Act.put, List.setIfInBounds_toArray, List.set_cons_zero, List.set_cons_succ]
        refine oneL (i := 20) rfl (by kernel_rfl) (fun K hK => ?_)
        go_simp
        refine (sameI_any _ _ _ _ _ _ hR hL).mono ?_
        rintro e q9d ⟨rfl, d, hq9d⟩
        have hb : Below q8.heap.size q8 q9d := by rw [hq9d]; exact below_drewN _ _ d
        clear hR hL hq9d
        replace J := J.trans (hb.mono J.size)
        clear hb
        clear hHeld
        refine hK.out _ _ (HS.out _ J) (fun hHeld => ?_)
        clear hK K
        try simp only [Act.put, List.setIfInBounds_toArray, List.set_cons_zero, List.set_cons_succ]
        refine tQ 21 hHeld ?_
        try simp only [Act.put, List.setIfInBounds_toArray, List.set_cons_zero, List.set_cons_succ]
        refine tQ 22 hHeld ?_
        try simp only [Act.put, List.setIfInBounds_toArray, List.set_cons_zero, List.set_cons_succ]
        refine wpAnyH_done (by kernel_rfl) ?_ _
        clear hHeld
        go_wp2_with fail
        go_meet
        exact ⟨rfl, J⟩
    · go_simp
      obtain ⟨q10, hq10⟩ : ∃ x, x = q2.alloc (.cells #[.int .i64 4] tI1) := ⟨_, rfl⟩
      obtain ⟨nq10, hnq10⟩ : ∃ x, x = q2.heap.size := ⟨_, rfl⟩
      have hb : Below q2.heap.size q2 q10 := by rw [hq10]; exact (Below.refl _ _).alloc (Nat.le_refl _) _
      have hL := rdLitI [4] 1 (show Blk q10 nq10 tI1 (intC [4]) by rw [hq10, hnq10]; exact Blk.new _ _ _) rfl (by decide)
      rw [← hnq10]
      first | rw [← hq10] | (trace_state; fail)
      clear hq10 hnq10
      replace J := J.trans (hb.mono J.size)
      clear hb
      clear hHeld
      refine hK.out _ _ (HS.out _ J) (fun hHeld => ?_)
      clear hK K
      try simp only [Act.put, List.setIfInBounds_toArray, List.set_cons_zero, List.set_cons_succ]
      refine oneL (i := 17) rfl (by kernel_rfl) (fun K hK => ?_)
      go_simp
      refine (branch_any 4 4 _).mono ?_
      rintro e q11 ⟨rfl, hb⟩
      unfold ebA
      replace hL := hL.on hb
      replace J := J.trans (hb.mono J.size)
      clear hb
      clear hHeld
      refine hK.out _ _ (HS.out _ J) (fun hHeld => ?_)
      clear hK K
      try simp only [Act.put, List.setIfInBounds_toArray, List.set_cons_zero, List.set_cons_succ]
      refine oneL (i := 18) rfl (by kernel_rfl) (fun K hK => ?_)
      go_simp
      refine (tos_any ⟨2, 0, 4, 4⟩ _).mono ?_
      rintro e q12 ⟨tv, rfl, hT, hb⟩
      rw [tos44] at hT
      have hR := rdI_rdV hT (by decide)
      clear hT
      replace hL := hL.on hb
      replace J := J.trans (hb.mono J.size)
      clear hb
      clear hHeld
      refine hK.out _ _ (HS.out _ J) (fun hHeld => ?_)
      clear hK K
      try simp only [Act.put, List.setIfInBounds_toArray, List.set_cons_zero, List.set_cons_succ]
      refine oneL (i := 20) rfl (by kernel_rfl) (fun K hK => ?_)
      go_simp
      refine (sameI_any _ _ _ _ _ _ hR hL).mono ?_
      rintro e q13d ⟨rfl, d, hq13d⟩
      have hb : Below q12.heap.size q12 q13d := by rw [hq13d]; exact below_drewN _ _ d
      clear hR hL hq13d
      replace J := J.trans (hb.mono J.size)
      clear hb
      clear hHeld
      refine hK.out _ _ (HS.out _ J) (fun hHeld => ?_)
      clear hK K
      try simp only [Act.put, List.setIfInBounds_toArray, List.set_cons_zero, List.set_cons_succ]
      refine tQ 21 hHeld ?_
      try simp only [Act.put, List.setIfInBounds_toArray, List.set_cons_zero, List.set_cons_succ]
      refine tQ 22 hHeld ?_
      try simp only [Act.put, List.setIfInBounds_toArray, List.set_cons_zero, List.set_cons_succ]
      refine wpAnyH_done (by kernel_rfl) ?_ _
      clear hHeld
      go_wp2_with fail
      go_meet
      exact ⟨rfl, J⟩
  case rest =>
    obtain ⟨x0, hx⟩ : ∃ x, x = wc := ⟨_, rfl⟩
    subst hx
    obtain ⟨rfl, J⟩ := hcut
    have HV := HS.out _ J
    go_wp2_with fail
    refine (redL _ eD1 _ (HB1.out _ J) (by decide) (by decide) eD1_ok eD1_red).mono ?_
    rintro e x1 ⟨rfl, hb⟩
    replace J := J.trans (hb.mono J.size)
    clear hb
    replace HV := HS.out _ J
    go_wp2_with fail
    refine (redL _ eD2 _ (HB2.out _ J) (by decide) (by decide) eD2_ok eD2_red).mono ?_
    rintro e x2 ⟨rfl, hb⟩
    replace J := J.trans (hb.mono J.size)
    clear hb
    replace HV := HS.out _ J
    go_wp2_with fail
    refine (orderL _ eD3 _ (HB3.out _ J) (by decide) (by decide) eD3_ok eD3_ord).mono ?_
    rintro e x3 ⟨oA, on, oc, rfl, hR, hb⟩
    replace J := J.trans (hb.mono J.size)
    clear hb
    replace HV := HS.out _ J
    go_wp2_with fail
    refine (sameI_any [0] _ _ _ _ _ (hR.on ((Below.refl _ _).alloc (Nat.le_refl _) _)) (rdLitI [0] 1 (Blk.new _ _ _) rfl (by decide))).mono ?_
    rintro e x4 ⟨rfl, d, hd⟩
    have hb : Below x3.heap.size x3 x4 := below_allocDrew hd
    clear hR hd
    replace J := J.trans (hb.mono J.size)
    clear hb
    replace HV := HS.out _ J
    go_wp2_with fail
    refine (domL _ eD3 _ (HB3.out _ J) (by decide) (by decide) eD3_ok eD3_dom).mono ?_
    rintro e x5 ⟨oA, on, oc, rfl, hR, hb⟩
    replace J := J.trans (hb.mono J.size)
    clear hb
    replace HV := HS.out _ J
    go_wp2_with fail
    refine (sameI_any [0, -1, -1] _ _ _ _ _ (hR.on ((Below.refl _ _).alloc (Nat.le_refl _) _)) (rdLitI [0, -1, -1] 3 (Blk.new _ _ _) rfl (by decide))).mono ?_
    rintro e x6 ⟨rfl, d, hd⟩
    have hb : Below x5.heap.size x5 x6 := below_allocDrew hd
    clear hR hd
    replace J := J.trans (hb.mono J.size)
    clear hb
    replace HV := HS.out _ J
    go_wp2_with fail
    refine (redL _ eD3 _ (HB3.out _ J) (by decide) (by decide) eD3_ok eD3_red).mono ?_
    rintro e x7 ⟨rfl, hb⟩
    replace J := J.trans (hb.mono J.size)
    clear hb
    replace HV := HS.out _ J
    go_wp2_with fail
    refine (domL _ eD1 _ (HB1.out _ J) (by decide) (by decide) eD1_ok eD1_dom).mono ?_
    rintro e x8 ⟨oA, on, oc, rfl, hR, hb⟩
    replace J := J.trans (hb.mono J.size)
    clear hb
    replace HV := HS.out _ J
    go_wp2_with fail
    refine (sameI_any [0, 0, 1] _ _ _ _ _ (hR.on ((Below.refl _ _).alloc (Nat.le_refl _) _)) (rdLitI [0, 0, 1] 3 (Blk.new _ _ _) rfl (by decide))).mono ?_
    rintro e x9 ⟨rfl, d, hd⟩
    have hb : Below x8.heap.size x8 x9 := below_allocDrew hd
    clear hR hd
    replace J := J.trans (hb.mono J.size)
    clear hb
    replace HV := HS.out _ J
    go_wp2_with fail
    refine (last_any _).mono ?_
    rintro e x10 ⟨rfl, hb⟩
    unfold ebA
    replace J := J.trans (hb.mono J.size)
    clear hb
    replace HV := HS.out _ J
    go_wp2_with fail
    refine (tos_any ⟨3, 0, 0, 0⟩ _).mono ?_
    rintro e x11 ⟨tv, rfl, hT, hb⟩
    rw [tos30] at hT
    obtain ⟨tA, tc, rfl, -, -⟩ := hT.sl
    clear hT
    simp only [List.length_nil]
    replace J := J.trans (hb.mono J.size)
    clear hb
    replace HV := HS.out _ J
    go_wp2_with fail
    refine (known_any _).mono ?_
    rintro e x12 ⟨rfl, hb⟩
    replace J := J.trans (hb.mono J.size)
    clear hb
    replace HV := HS.out _ J
    clear HV
    have HFF := Lib.hid (H8.out _ J)
    clear J
    go_wp2_with fail
    go_ret
    exact ⟨rfl, HFF.out⟩
end Go.Proofs.Ytnaceegfbbnpnaa
