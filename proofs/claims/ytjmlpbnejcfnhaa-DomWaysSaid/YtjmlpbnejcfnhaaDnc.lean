/-
  Layer dom: known of the law.
-/
import Derived.Test.YtjmlpbnejcfnhaaDnb
namespace Go.Proofs.Ytjmlpbnejcfnhaa
open Go Go.RowKit Go.Maps
set_option linter.unusedVariables false
set_option linter.unusedSimpArgs false

theorem barcells {w : World} {es : List Eb} {rv : Value} {A : Option Addr} {n c : Nat} (h : BaR w rv (.slice A n c) es) (hn : es.length = n) (h0 : 0 < n) :
    ∃ g, A = some ⟨g, 0, none⟩ ∧ g < w.heap.size ∧ ∀ i e j y, es[i]? = some e → (Value.slice none 0 0 :: endC e)[j]? = some y → w.cell? ⟨g, i * 5 + j, none⟩ = some y := by
  obtain ⟨base, ho⟩ := h.b
  rw [hn] at ho
  have ho' := ho
  obtain ⟨_, h2⟩ := ho
  rcases h2 with ⟨_, e9⟩ | ⟨g, cap, cur, e9, _, hh, _⟩
  · omega
  · simp only [Value.slice.injEq] at e9
    obtain ⟨rfl, -, -⟩ := e9
    refine ⟨g, rfl, (Array.getElem?_eq_some_iff.1 hh).1, fun i e j y hi hj => ?_⟩
    have hj5 : j < 5 := by have := (List.getElem?_eq_some_iff.1 hj).1; simpa [endC] using this
    have hil : i < n := by rw [← hn]; exact (List.getElem?_eq_some_iff.1 hi).1
    rw [ho'.cellAt (i * 5 + j) (by omega), bareC_at es i j e hi hj5]
    exact hj
theorem rdLit {w : World} {g : Nat} (l : List Nat) (n : Nat) (h : Blk w g tI1 (intC (nz l))) (hn : l.length = n) (hm : n ≤ 1000) : RdV w w.heap.size (.slice (some ⟨g, 0, none⟩) n n) (nz l) := by
  have h9 := own_int h hn hm (Nat.zero_le _)
  have h5 : (nz l).length = n := by simp only [nz, List.length_map]; exact hn
  rw [← h5] at h9 ⊢
  exact rdV_row h9
set_option maxHeartbeats 8000000 in
set_option maxRecDepth 100000 in
theorem known_any (w : World) : Calls Try.prog 7 #[] w fun r w' => r = .returned (.bool true) ∧ Below w.heap.size w w' := by
  go_enter Try.func7, Try.ntmps7
  go_wp2_with fail
  refine (branch_any 1 2 _).mono ?_
  rintro r w1 ⟨rfl, hb1⟩
  go_wp2_with fail
  refine (jump_any 2 _).mono ?_
  rintro r w2 ⟨rfl, hb2⟩
  replace hb2 := hb1.trans (hb2.mono hb1.size)
  clear hb1
  go_wp2_with fail
  refine (branch_any 1 3 _).mono ?_
  rintro r w3 ⟨rfl, hb3⟩
  replace hb3 := hb2.trans (hb3.mono hb2.size)
  clear hb2
  go_wp2_with fail
  refine (last_any _).mono ?_
  rintro r w4 ⟨rfl, hb4⟩
  replace hb4 := hb3.trans (hb4.mono hb3.size)
  clear hb3
  have H4 := Lib.hid hb4
  clear hb4
  unfold ebA
  go_wp2_with fail
  refine (endsL w4 esK1 4 _ rfl (by decide) esK1_w rfl).mono ?_
  rintro r w5 ⟨rA, rn, rc, bA, bc, rfl, hB5, hb5⟩
  obtain ⟨W6, hW6⟩ : ∃ x, x = w5.alloc (.cells (cdA (.slice rA rn rc) (.slice bA 4 bc)) tCd) := ⟨_, rfl⟩
  obtain ⟨H1, hH1⟩ : ∃ x, x = w5.heap.size := ⟨_, rfl⟩
  have hb56 : Below w5.heap.size w5 W6 := by rw [hW6]; exact (Below.refl _ _).alloc (Nat.le_refl _) _
  have b6 : Blk W6 H1 tCd (cdA (.slice rA rn rc) (.slice bA 4 bc)) := by rw [hW6, hH1]; exact Blk.new w5 tCd _
  have hB6 := hB5.on hb56
  have hb6 := H4.out.trans ((hb5.mono H4.out.size).trans (hb56.mono (Nat.le_trans H4.out.size hb5.size)))
  have H6 := Lib.hid (And.intro hB6 (And.intro hb6 b6))
  clear hB5 hb5 hb56 hB6 hb6 b6 H4
  go_wp2_with fail
  rw [← hW6, ← hH1]
  clear hW6 hH1
  refine (splitS W6 esK1 esK2 [0, 1, 2, 3, 1] 9 5 H6.out.1 (by decide) (by decide) esK1_ok esK1_split rfl).mono ?_
  rintro r w7 ⟨rA2, rn2, rc2, bA2, bc2, rfl, hB7, hb7⟩
  obtain ⟨W8, hW8⟩ : ∃ x, x = w7.alloc (.cells (cdA (.slice rA2 rn2 rc2) (.slice bA2 5 bc2)) tCd) := ⟨_, rfl⟩
  obtain ⟨H2, hH2⟩ : ∃ x, x = w7.heap.size := ⟨_, rfl⟩
  have hb78 : Below w7.heap.size w7 W8 := by rw [hW8]; exact (Below.refl _ _).alloc (Nat.le_refl _) _
  have b8 : Blk W8 H2 tCd (cdA (.slice rA2 rn2 rc2) (.slice bA2 5 bc2)) := by rw [hW8, hH2]; exact Blk.new w7 tCd _
  have hb68 := hb7.trans (hb78.mono hb7.size)
  have hB8 := hB7.on hb78
  obtain ⟨g, rfl, hgl, hgc⟩ := barcells hB8 rfl (by decide)
  have HS := Lib.hid (show ∀ Wx, Below W8.heap.size W8 Wx → Wx.cell? ⟨H1, 0, none⟩ = some (.string ⟨#[109, 97, 105, 110]⟩) ∧ Wx.cell? ⟨H1, 1, none⟩ = some (.int .i64 1) ∧ Wx.cell? ⟨H1, 2, none⟩ = some (.int .i64 0) ∧ Wx.cell? ⟨H1, 3, none⟩ = some (.slice rA rn rc) ∧ Wx.cell? ⟨H1, 4, none⟩ = some (.slice bA 4 bc) ∧ H1 < Wx.heap.size ∧ Wx.cell? ⟨H2, 0, none⟩ = some (.string ⟨#[109, 97, 105, 110]⟩) ∧ Wx.cell? ⟨H2, 1, none⟩ = some (.int .i64 1) ∧ Wx.cell? ⟨H2, 2, none⟩ = some (.int .i64 0) ∧ Wx.cell? ⟨H2, 3, none⟩ = some (.slice rA2 rn2 rc2) ∧ Wx.cell? ⟨H2, 4, none⟩ = some (.slice (some ⟨g, 0, none⟩) 5 bc2) ∧ H2 < Wx.heap.size ∧ Wx.cell? ⟨g, 11, none⟩ = some (.int .i64 2) ∧ Wx.cell? ⟨g, 12, none⟩ = some (.int .i64 0) ∧ Wx.cell? ⟨g, 13, none⟩ = some (.int .i64 4) ∧ Wx.cell? ⟨g, 14, none⟩ = some (.int .i64 3) ∧ Wx.cell? ⟨g, 21, none⟩ = some (.int .i64 1) ∧ Wx.cell? ⟨g, 22, none⟩ = some (.int .i64 0) ∧ Wx.cell? ⟨g, 23, none⟩ = some (.int .i64 2) ∧ Wx.cell? ⟨g, 24, none⟩ = some (.int .i64 0) ∧ g < Wx.heap.size from fun Wx hx => by
    have e1 := H6.out.2.2.on (hb68.trans (hx.mono hb68.size))
    have e2 := b8.on hx
    exact ⟨e1.cell 0, e1.cell 1, e1.cell 2, e1.cell 3, e1.cell 4, e1.lt, e2.cell 0, e2.cell 1, e2.cell 2, e2.cell 3, e2.cell 4, e2.lt,
      (hx.cell (p := ⟨g, 11, none⟩) hgl).trans (hgc 2 ⟨2, 0, 4, 3⟩ 1 _ rfl rfl), (hx.cell (p := ⟨g, 12, none⟩) hgl).trans (hgc 2 ⟨2, 0, 4, 3⟩ 2 _ rfl rfl), (hx.cell (p := ⟨g, 13, none⟩) hgl).trans (hgc 2 ⟨2, 0, 4, 3⟩ 3 _ rfl rfl), (hx.cell (p := ⟨g, 14, none⟩) hgl).trans (hgc 2 ⟨2, 0, 4, 3⟩ 4 _ rfl rfl),
      (hx.cell (p := ⟨g, 21, none⟩) hgl).trans (hgc 4 ⟨1, 0, 2, 0⟩ 1 _ rfl rfl), (hx.cell (p := ⟨g, 22, none⟩) hgl).trans (hgc 4 ⟨1, 0, 2, 0⟩ 2 _ rfl rfl), (hx.cell (p := ⟨g, 23, none⟩) hgl).trans (hgc 4 ⟨1, 0, 2, 0⟩ 3 _ rfl rfl), (hx.cell (p := ⟨g, 24, none⟩) hgl).trans (hgc 4 ⟨1, 0, 2, 0⟩ 4 _ rfl rfl), Nat.lt_of_lt_of_le hgl hx.size⟩)
  have HB1 := Lib.hid (show ∀ Wx, Below W8.heap.size W8 Wx → BaR Wx (.slice rA rn rc) (.slice bA 4 bc) esK1 from fun Wx hx => H6.out.1.on (hb68.trans (hx.mono hb68.size)))
  have HB2 := Lib.hid (show ∀ Wx, Below W8.heap.size W8 Wx → BaR Wx (.slice rA2 rn2 rc2) (.slice (some ⟨g, 0, none⟩) 5 bc2) esK2 from fun Wx hx => hB8.on hx)
  have H8 := Lib.hid (H6.out.2.1.trans (hb68.mono H6.out.2.1.size))
  clear hb7 hB7 hb68 hB8 b8 hb78 hgl hgc H6
  go_upto_region 3 with (fail)
  rw [← hW8, ← hH2]
  clear hW8 hH2
  refine wp_region_held_drew (S := fun Wx => Wx.cell? ⟨H1, 0, none⟩ = some (.string ⟨#[109, 97, 105, 110]⟩) ∧ Wx.cell? ⟨H1, 1, none⟩ = some (.int .i64 1) ∧ Wx.cell? ⟨H1, 2, none⟩ = some (.int .i64 0) ∧ Wx.cell? ⟨H1, 3, none⟩ = some (.slice rA rn rc) ∧ Wx.cell? ⟨H1, 4, none⟩ = some (.slice bA 4 bc) ∧ H1 < Wx.heap.size ∧ Wx.cell? ⟨H2, 0, none⟩ = some (.string ⟨#[109, 97, 105, 110]⟩) ∧ Wx.cell? ⟨H2, 1, none⟩ = some (.int .i64 1) ∧ Wx.cell? ⟨H2, 2, none⟩ = some (.int .i64 0) ∧ Wx.cell? ⟨H2, 3, none⟩ = some (.slice rA2 rn2 rc2) ∧ Wx.cell? ⟨H2, 4, none⟩ = some (.slice (some ⟨g, 0, none⟩) 5 bc2) ∧ H2 < Wx.heap.size ∧ Wx.cell? ⟨g, 11, none⟩ = some (.int .i64 2) ∧ Wx.cell? ⟨g, 12, none⟩ = some (.int .i64 0) ∧ Wx.cell? ⟨g, 13, none⟩ = some (.int .i64 4) ∧ Wx.cell? ⟨g, 14, none⟩ = some (.int .i64 3) ∧ Wx.cell? ⟨g, 21, none⟩ = some (.int .i64 1) ∧ Wx.cell? ⟨g, 22, none⟩ = some (.int .i64 0) ∧ Wx.cell? ⟨g, 23, none⟩ = some (.int .i64 2) ∧ Wx.cell? ⟨g, 24, none⟩ = some (.int .i64 0) ∧ g < Wx.heap.size) (by kernel_rfl) (by exact HS.out _ (below_drewN _ _ 1)) (fun hHeld => ?_)
  obtain ⟨q0, hq0⟩ : ∃ x, x = W8.drew := ⟨_, rfl⟩
  have J : Below W8.heap.size W8 q0 := by rw [hq0]; exact below_drewN _ _ 1
  rw [← hq0] at hHeld ⊢
  clear hq0
  refine tQ 0 hHeld ?_
  try simp only [Act.put, List.setIfInBounds_toArray, List.set_cons_zero, List.set_cons_succ]
  refine twoL (i := 1) (j := 2) rfl rfl (by kernel_rfl) (fun K hK => ?_) (fun K hK => ?_)
  · go_simp
    refine (orderL _ esK1 _ (HB1.out _ J) (by decide) (by decide) esK1_ok esK1_ord).mono ?_
    rintro e q1 ⟨oA, on, oc, rfl, hR, hb⟩
    replace J := J.trans (hb.mono J.size)
    clear hb
    clear hHeld
    refine hK.out _ _ (HS.out _ J) (fun hHeld => ?_)
    clear hK K
    try simp only [Act.put, List.setIfInBounds_toArray, List.set_cons_zero, List.set_cons_succ]
    refine oneL (i := 2) rfl (by kernel_rfl) (fun K hK => ?_)
    go_simp
    obtain ⟨q2, hq2⟩ : ∃ x, x = q1.alloc (.cells #[.int .i64 0, .int .i64 1, .int .i64 2, .int .i64 3] tI1) := ⟨_, rfl⟩
    obtain ⟨nq2, hnq2⟩ : ∃ x, x = q1.heap.size := ⟨_, rfl⟩
    have hb : Below q1.heap.size q1 q2 := by rw [hq2]; exact (Below.refl _ _).alloc (Nat.le_refl _) _
    have hL := rdLit [0, 1, 2, 3] 4 (show Blk q2 nq2 tI1 (intC (nz [0, 1, 2, 3])) by rw [hq2, hnq2]; exact Blk.new _ _ _) rfl (by decide)
    rw [← hnq2]
    first | rw [← hq2] | (trace_state; fail)
    clear hq2 hnq2
    replace hR := hR.on hb
    replace J := J.trans (hb.mono J.size)
    clear hb
    clear hHeld
    refine hK.out _ _ (HS.out _ J) (fun hHeld => ?_)
    clear hK K
    try simp only [Act.put, List.setIfInBounds_toArray, List.set_cons_zero, List.set_cons_succ]
    refine oneL (i := 3) rfl (by kernel_rfl) (fun K hK => ?_)
    go_simp
    refine (sameI_any _ _ _ _ _ _ hR hL).mono ?_
    rintro e q39 ⟨rfl, d, hq39⟩
    have hb : Below q2.heap.size q2 q39 := by rw [hq39]; exact below_drewN _ _ d
    clear hR hL hq39
    replace J := J.trans (hb.mono J.size)
    clear hb
    clear hHeld
    refine hK.out _ _ (HS.out _ J) (fun hHeld => ?_)
    clear hK K
    try simp only [Act.put, List.setIfInBounds_toArray, List.set_cons_zero, List.set_cons_succ]
    refine tQ 4 hHeld ?_
    try simp only [Act.put, List.setIfInBounds_toArray, List.set_cons_zero, List.set_cons_succ]
    refine tQ 5 hHeld ?_
    try simp only [Act.put, List.setIfInBounds_toArray, List.set_cons_zero, List.set_cons_succ]
    refine twoL (i := 6) (j := 7) rfl rfl (by kernel_rfl) (fun K hK => ?_) (fun K hK => ?_)
    · go_simp
      refine (domL _ esK1 _ (HB1.out _ J) (by decide) (by decide) esK1_ok esK1_dom).mono ?_
      rintro e q4 ⟨oA, on, oc, rfl, hR, hb⟩
      replace J := J.trans (hb.mono J.size)
      clear hb
      clear hHeld
      refine hK.out _ _ (HS.out _ J) (fun hHeld => ?_)
      clear hK K
      try simp only [Act.put, List.setIfInBounds_toArray, List.set_cons_zero, List.set_cons_succ]
      refine oneL (i := 7) rfl (by kernel_rfl) (fun K hK => ?_)
      go_simp
      obtain ⟨q5, hq5⟩ : ∃ x, x = q4.alloc (.cells #[.int .i64 0, .int .i64 0, .int .i64 0, .int .i64 2] tI1) := ⟨_, rfl⟩
      obtain ⟨nq5, hnq5⟩ : ∃ x, x = q4.heap.size := ⟨_, rfl⟩
      have hb : Below q4.heap.size q4 q5 := by rw [hq5]; exact (Below.refl _ _).alloc (Nat.le_refl _) _
      have hL := rdLit [0, 0, 0, 2] 4 (show Blk q5 nq5 tI1 (intC (nz [0, 0, 0, 2])) by rw [hq5, hnq5]; exact Blk.new _ _ _) rfl (by decide)
      rw [← hnq5]
      first | rw [← hq5] | (trace_state; fail)
      clear hq5 hnq5
      replace hR := hR.on hb
      replace J := J.trans (hb.mono J.size)
      clear hb
      clear hHeld
      refine hK.out _ _ (HS.out _ J) (fun hHeld => ?_)
      clear hK K
      try simp only [Act.put, List.setIfInBounds_toArray, List.set_cons_zero, List.set_cons_succ]
      refine oneL (i := 8) rfl (by kernel_rfl) (fun K hK => ?_)
      go_simp
      refine (sameI_any _ _ _ _ _ _ hR hL).mono ?_
      rintro e q69 ⟨rfl, d, hq69⟩
      have hb : Below q5.heap.size q5 q69 := by rw [hq69]; exact below_drewN _ _ d
      clear hR hL hq69
      replace J := J.trans (hb.mono J.size)
      clear hb
      clear hHeld
      refine hK.out _ _ (HS.out _ J) (fun hHeld => ?_)
      clear hK K
      try simp only [Act.put, List.setIfInBounds_toArray, List.set_cons_zero, List.set_cons_succ]
      refine tQ 9 hHeld ?_
      try simp only [Act.put, List.setIfInBounds_toArray, List.set_cons_zero, List.set_cons_succ]
      refine tQ 10 hHeld ?_
      try simp only [Act.put, List.setIfInBounds_toArray, List.set_cons_zero, List.set_cons_succ]
      refine tQ 11 hHeld ?_
      try simp only [Act.put, List.setIfInBounds_toArray, List.set_cons_zero, List.set_cons_succ]
      refine oneL (i := 12) rfl (by kernel_rfl) (fun K hK => ?_)
      go_simp
      refine (redL _ esK1 _ (HB1.out _ J) (by decide) (by decide) esK1_ok esK1_red).mono ?_
      rintro e q7 ⟨rfl, hb⟩
      replace J := J.trans (hb.mono J.size)
      clear hb
      clear hHeld
      refine hK.out _ _ (HS.out _ J) (fun hHeld => ?_)
      clear hK K
      try simp only [Act.put, List.setIfInBounds_toArray, List.set_cons_zero, List.set_cons_succ]
      refine tQ 13 hHeld ?_
      try simp only [Act.put, List.setIfInBounds_toArray, List.set_cons_zero, List.set_cons_succ]
      refine tQ 14 hHeld ?_
      try simp only [Act.put, List.setIfInBounds_toArray, List.set_cons_zero, List.set_cons_succ]
      refine tQ 15 hHeld ?_
      try simp only [Act.put, List.setIfInBounds_toArray, List.set_cons_zero, List.set_cons_succ]
      refine tQ 16 hHeld ?_
      try simp only [Act.put, List.setIfInBounds_toArray, List.set_cons_zero, List.set_cons_succ]
      refine tQ 17 hHeld ?_
      try simp only [Act.put, List.setIfInBounds_toArray, List.set_cons_zero, List.set_cons_succ]
      refine tQ 18 hHeld ?_
      try simp only [Act.put, List.setIfInBounds_toArray, List.set_cons_zero, List.set_cons_succ]
      refine tQ 19 hHeld ?_
      try simp only [Act.put, List.setIfInBounds_toArray, List.set_cons_zero, List.set_cons_succ]
      refine tQ 20 hHeld ?_
      try simp only [Act.put, List.setIfInBounds_toArray, List.set_cons_zero, List.set_cons_succ]
      refine tQ 21 hHeld ?_
      try simp only [Act.put, List.setIfInBounds_toArray, List.set_cons_zero, List.set_cons_succ]
      refine tQ 22 hHeld ?_
      try simp only [Act.put, List.setIfInBounds_toArray, List.set_cons_zero, List.set_cons_succ]
      refine tQ 23 hHeld ?_
      try simp only [Act.put, List.setIfInBounds_toArray, List.set_cons_zero, List.set_cons_succ]
      refine tQ 24 hHeld ?_
      try simp only [Act.put, List.setIfInBounds_toArray, List.set_cons_zero, List.set_cons_succ]
      refine tQ 25 hHeld ?_
      try simp only [Act.put, List.setIfInBounds_toArray, List.set_cons_zero, List.set_cons_succ]
      refine tQ 26 hHeld ?_
      try simp only [Act.put, List.setIfInBounds_toArray, List.set_cons_zero, List.set_cons_succ]
      refine tQ 27 hHeld ?_
      try simp only [Act.put, List.setIfInBounds_toArray, List.set_cons_zero, List.set_cons_succ]
      refine tQ 28 hHeld ?_
      try simp only [Act.put, List.setIfInBounds_toArray, List.set_cons_zero, List.set_cons_succ]
      refine tQ 29 hHeld ?_
      try simp only [Act.put, List.setIfInBounds_toArray, List.set_cons_zero, List.set_cons_succ]
      refine tQ 30 hHeld ?_
      try simp only [Act.put, List.setIfInBounds_toArray, List.set_cons_zero, List.set_cons_succ]
      refine oneL (i := 31) rfl (by kernel_rfl) (fun K hK => ?_)
      go_simp
      refine (branch_any 4 3 _).mono ?_
      rintro e q8 ⟨rfl, hb⟩
      unfold ebA
      replace J := J.trans (hb.mono J.size)
      clear hb
      clear hHeld
      refine hK.out _ _ (HS.out _ J) (fun hHeld => ?_)
      clear hK K
      try simp only [Act.put, List.setIfInBounds_toArray, List.set_cons_zero, List.set_cons_succ]
      refine tQ 32 hHeld ?_
      try simp only [Act.put, List.setIfInBounds_toArray, List.set_cons_zero, List.set_cons_succ]
      refine tQ 33 hHeld ?_
      try simp only [Act.put, List.setIfInBounds_toArray, List.set_cons_zero, List.set_cons_succ]
      refine tQ 34 hHeld ?_
      try simp only [Act.put, List.setIfInBounds_toArray, List.set_cons_zero, List.set_cons_succ]
      refine tQ 35 hHeld ?_
      try simp only [Act.put, List.setIfInBounds_toArray, List.set_cons_zero, List.set_cons_succ]
      refine tQ 36 hHeld ?_
      try simp only [Act.put, List.setIfInBounds_toArray, List.set_cons_zero, List.set_cons_succ]
      refine tQ 37 hHeld ?_
      try simp only [Act.put, List.setIfInBounds_toArray, List.set_cons_zero, List.set_cons_succ]
      refine tQ 38 hHeld ?_
      try simp only [Act.put, List.setIfInBounds_toArray, List.set_cons_zero, List.set_cons_succ]
      refine tQ 39 hHeld ?_
      try simp only [Act.put, List.setIfInBounds_toArray, List.set_cons_zero, List.set_cons_succ]
      refine oneL (i := 40) rfl (by kernel_rfl) (fun K hK => ?_)
      go_simp
      refine (jump_any 2 _).mono ?_
      rintro e q9 ⟨rfl, hb⟩
      unfold ebA
      replace J := J.trans (hb.mono J.size)
      clear hb
      clear hHeld
      refine hK.out _ _ (HS.out _ J) (fun hHeld => ?_)
      clear hK K
      try simp only [Act.put, List.setIfInBounds_toArray, List.set_cons_zero, List.set_cons_succ]
      refine tQ 41 hHeld ?_
      try simp only [Act.put, List.setIfInBounds_toArray, List.set_cons_zero, List.set_cons_succ]
      refine tQ 42 hHeld ?_
      try simp only [Act.put, List.setIfInBounds_toArray, List.set_cons_zero, List.set_cons_succ]
      refine tQ 43 hHeld ?_
      try simp only [Act.put, List.setIfInBounds_toArray, List.set_cons_zero, List.set_cons_succ]
      refine tQ 44 hHeld ?_
      try simp only [Act.put, List.setIfInBounds_toArray, List.set_cons_zero, List.set_cons_succ]
      refine oneL (i := 45) rfl (by kernel_rfl) (fun K hK => ?_)
      go_simp
      refine (redL _ esK2 _ (HB2.out _ J) (by decide) (by decide) esK2_ok esK2_red).mono ?_
      rintro e q10 ⟨rfl, hb⟩
      replace J := J.trans (hb.mono J.size)
      clear hb
      clear hHeld
      refine hK.out _ _ (HS.out _ J) (fun hHeld => ?_)
      clear hK K
      try simp only [Act.put, List.setIfInBounds_toArray, List.set_cons_zero, List.set_cons_succ]
      refine tQ 46 hHeld ?_
      try simp only [Act.put, List.setIfInBounds_toArray, List.set_cons_zero, List.set_cons_succ]
      refine tQ 47 hHeld ?_
      try simp only [Act.put, List.setIfInBounds_toArray, List.set_cons_zero, List.set_cons_succ]
      refine wpAnyH_done (by kernel_rfl) ?_ _
      have HFF := Lib.hid (H8.out.trans (J.mono H8.out.size))
      clear J hHeld
      go_wp2_with fail
      go_ret
      exact ⟨rfl, HFF.out⟩
    · go_simp
      obtain ⟨q11, hq11⟩ : ∃ x, x = q39.alloc (.cells #[.int .i64 0, .int .i64 0, .int .i64 0, .int .i64 2] tI1) := ⟨_, rfl⟩
      obtain ⟨nq11, hnq11⟩ : ∃ x, x = q39.heap.size := ⟨_, rfl⟩
      have hb : Below q39.heap.size q39 q11 := by rw [hq11]; exact (Below.refl _ _).alloc (Nat.le_refl _) _
      have hL := rdLit [0, 0, 0, 2] 4 (show Blk q11 nq11 tI1 (intC (nz [0, 0, 0, 2])) by rw [hq11, hnq11]; exact Blk.new _ _ _) rfl (by decide)
      rw [← hnq11]
      first | rw [← hq11] | (trace_state; fail)
      clear hq11 hnq11
      replace J := J.trans (hb.mono J.size)
      clear hb
      clear hHeld
      refine hK.out _ _ (HS.out _ J) (fun hHeld => ?_)
      clear hK K
      try simp only [Act.put, List.setIfInBounds_toArray, List.set_cons_zero, List.set_cons_succ]
      refine oneL (i := 6) rfl (by kernel_rfl) (fun K hK => ?_)
      go_simp
      refine (domL _ esK1 _ (HB1.out _ J) (by decide) (by decide) esK1_ok esK1_dom).mono ?_
      rintro e q12 ⟨oA, on, oc, rfl, hR, hb⟩
      replace hL := hL.on hb
      replace J := J.trans (hb.mono J.size)
      clear hb
      clear hHeld
      refine hK.out _ _ (HS.out _ J) (fun hHeld => ?_)
      clear hK K
      try simp only [Act.put, List.setIfInBounds_toArray, List.set_cons_zero, List.set_cons_succ]
      refine oneL (i := 8) rfl (by kernel_rfl) (fun K hK => ?_)
      go_simp
      refine (sameI_any _ _ _ _ _ _ hR hL).mono ?_
      rintro e q139 ⟨rfl, d, hq139⟩
      have hb : Below q12.heap.size q12 q139 := by rw [hq139]; exact below_drewN _ _ d
      clear hR hL hq139
      replace J := J.trans (hb.mono J.size)
      clear hb
      clear hHeld
      refine hK.out _ _ (HS.out _ J) (fun hHeld => ?_)
      clear hK K
      try simp only [Act.put, List.setIfInBounds_toArray, List.set_cons_zero, List.set_cons_succ]
      refine tQ 9 hHeld ?_
      try simp only [Act.put, List.setIfInBounds_toArray, List.set_cons_zero, List.set_cons_succ]
      refine tQ 10 hHeld ?_
      try simp only [Act.put, List.setIfInBounds_toArray, List.set_cons_zero, List.set_cons_succ]
      refine tQ 11 hHeld ?_
      try simp only [Act.put, List.setIfInBounds_toArray, List.set_cons_zero, List.set_cons_succ]
      refine oneL (i := 12) rfl (by kernel_rfl) (fun K hK => ?_)
      go_simp
      refine (redL _ esK1 _ (HB1.out _ J) (by decide) (by decide) esK1_ok esK1_red).mono ?_
      rintro e q14 ⟨rfl, hb⟩
      replace J := J.trans (hb.mono J.size)
      clear hb
      clear hHeld
      refine hK.out _ _ (HS.out _ J) (fun hHeld => ?_)
      clear hK K
      try simp only [Act.put, List.setIfInBounds_toArray, List.set_cons_zero, List.set_cons_succ]
      refine tQ 13 hHeld ?_
      try simp only [Act.put, List.setIfInBounds_toArray, List.set_cons_zero, List.set_cons_succ]
      refine tQ 14 hHeld ?_
      try simp only [Act.put, List.setIfInBounds_toArray, List.set_cons_zero, List.set_cons_succ]
      refine tQ 15 hHeld ?_
      try simp only [Act.put, List.setIfInBounds_toArray, List.set_cons_zero, List.set_cons_succ]
      refine tQ 16 hHeld ?_
      try simp only [Act.put, List.setIfInBounds_toArray, List.set_cons_zero, List.set_cons_succ]
      refine tQ 17 hHeld ?_
      try simp only [Act.put, List.setIfInBounds_toArray, List.set_cons_zero, List.set_cons_succ]
      refine tQ 18 hHeld ?_
      try simp only [Act.put, List.setIfInBounds_toArray, List.set_cons_zero, List.set_cons_succ]
      refine tQ 19 hHeld ?_
      try simp only [Act.put, List.setIfInBounds_toArray, List.set_cons_zero, List.set_cons_succ]
      refine tQ 20 hHeld ?_
      try simp only [Act.put, List.setIfInBounds_toArray, List.set_cons_zero, List.set_cons_succ]
      refine tQ 21 hHeld ?_
      try simp only [Act.put, List.setIfInBounds_toArray, List.set_cons_zero, List.set_cons_succ]
      refine tQ 22 hHeld ?_
      try simp only [Act.put, List.setIfInBounds_toArray, List.set_cons_zero, List.set_cons_succ]
      refine tQ 23 hHeld ?_
      try simp only [Act.put, List.setIfInBounds_toArray, List.set_cons_zero, List.set_cons_succ]
      refine tQ 24 hHeld ?_
      try simp only [Act.put, List.setIfInBounds_toArray, List.set_cons_zero, List.set_cons_succ]
      refine tQ 25 hHeld ?_
      try simp only [Act.put, List.setIfInBounds_toArray, List.set_cons_zero, List.set_cons_succ]
      refine tQ 26 hHeld ?_
      try simp only [Act.put, List.setIfInBounds_toArray, List.set_cons_zero, List.set_cons_succ]
      refine tQ 27 hHeld ?_
      try simp only [Act.put, List.setIfInBounds_toArray, List.set_cons_zero, List.set_cons_succ]
      refine tQ 28 hHeld ?_
      try simp only [Act.put, List.setIfInBounds_toArray, List.set_cons_zero, List.set_cons_succ]
      refine tQ 29 hHeld ?_
      try simp only [Act.put, List.setIfInBounds_toArray, List.set_cons_zero, List.set_cons_succ]
      refine tQ 30 hHeld ?_
      try simp only [Act.put, List.setIfInBounds_toArray, List.set_cons_zero, List.set_cons_succ]
      refine oneL (i := 31) rfl (by kernel_rfl) (fun K hK => ?_)
      go_simp
      refine (branch_any 4 3 _).mono ?_
      rintro e q15 ⟨rfl, hb⟩
      unfold ebA
      replace J := J.trans (hb.mono J.size)
      clear hb
      clear hHeld
      refine hK.out _ _ (HS.out _ J) (fun hHeld => ?_)
      clear hK K
      try simp only [Act.put, List.setIfInBounds_toArray, List.set_cons_zero, List.set_cons_succ]
      refine tQ 32 hHeld ?_
      try simp only [Act.put, List.setIfInBounds_toArray, List.set_cons_zero, List.set_cons_succ]
      refine tQ 33 hHeld ?_
      try simp only [Act.put, List.setIfInBounds_toArray, List.set_cons_zero, List.set_cons_succ]
      refine tQ 34 hHeld ?_
      try simp only [Act.put, List.setIfInBounds_toArray, List.set_cons_zero, List.set_cons_succ]
      refine tQ 35 hHeld ?_
      try simp only [Act.put, List.setIfInBounds_toArray, List.set_cons_zero, List.set_cons_succ]
      refine tQ 36 hHeld ?_
      try simp only [Act.put, List.setIfInBounds_toArray, List.set_cons_zero, List.set_cons_succ]
      refine tQ 37 hHeld ?_
      try simp only [Act.put, List.setIfInBounds_toArray, List.set_cons_zero, List.set_cons_succ]
      refine tQ 38 hHeld ?_
      try simp only [Act.put, List.setIfInBounds_toArray, List.set_cons_zero, List.set_cons_succ]
      refine tQ 39 hHeld ?_
      try simp only [Act.put, List.setIfInBounds_toArray, List.set_cons_zero, List.set_cons_succ]
      refine oneL (i := 40) rfl (by kernel_rfl) (fun K hK => ?_)
      go_simp
      refine (jump_any 2 _).mono ?_
      rintro e q16 ⟨rfl, hb⟩
      unfold ebA
      replace J := J.trans (hb.mono J.size)
      clear hb
      clear hHeld
      refine hK.out _ _ (HS.out _ J) (fun hHeld => ?_)
      clear hK K
      try simp only [Act.put, List.setIfInBounds_toArray, List.set_cons_zero, List.set_cons_succ]
      refine tQ 41 hHeld ?_
      try simp only [Act.put, List.setIfInBounds_toArray, List.set_cons_zero, List.set_cons_succ]
      refine tQ 42 hHeld ?_
      try simp only [Act.put, List.setIfInBounds_toArray, List.set_cons_zero, List.set_cons_succ]
      refine tQ 43 hHeld ?_
      try simp only [Act.put, List.setIfInBounds_toArray, List.set_cons_zero, List.set_cons_succ]
      refine tQ 44 hHeld ?_
      try simp only [Act.put, List.setIfInBounds_toArray, List.set_cons_zero, List.set_cons_succ]
      refine oneL (i := 45) rfl (by kernel_rfl) (fun K hK => ?_)
      go_simp
      refine (redL _ esK2 _ (HB2.out _ J) (by decide) (by decide) esK2_ok esK2_red).mono ?_
      rintro e q17 ⟨rfl, hb⟩
      replace J := J.trans (hb.mono J.size)
      clear hb
      clear hHeld
      refine hK.out _ _ (HS.out _ J) (fun hHeld => ?_)
      clear hK K
      try simp only [Act.put, List.setIfInBounds_toArray, List.set_cons_zero, List.set_cons_succ]
      refine tQ 46 hHeld ?_
      try simp only [Act.put, List.setIfInBounds_toArray, List.set_cons_zero, List.set_cons_succ]
      refine tQ 47 hHeld ?_
      try simp only [Act.put, List.setIfInBounds_toArray, List.set_cons_zero, List.set_cons_succ]
      refine wpAnyH_done (by kernel_rfl) ?_ _
      have HFF := Lib.hid (H8.out.trans (J.mono H8.out.size))
      clear J hHeld
      go_wp2_with fail
      go_ret
      exact ⟨rfl, HFF.out⟩
  · go_simp
    obtain ⟨q18, hq18⟩ : ∃ x, x = q0.alloc (.cells #[.int .i64 0, .int .i64 1, .int .i64 2, .int .i64 3] tI1) := ⟨_, rfl⟩
    obtain ⟨nq18, hnq18⟩ : ∃ x, x = q0.heap.size := ⟨_, rfl⟩
    have hb : Below q0.heap.size q0 q18 := by rw [hq18]; exact (Below.refl _ _).alloc (Nat.le_refl _) _
    have hL := rdLit [0, 1, 2, 3] 4 (show Blk q18 nq18 tI1 (intC (nz [0, 1, 2, 3])) by rw [hq18, hnq18]; exact Blk.new _ _ _) rfl (by decide)
    rw [← hnq18]
    first | rw [← hq18] | (trace_state; fail)
    clear hq18 hnq18
    replace J := J.trans (hb.mono J.size)
    clear hb
    clear hHeld
    refine hK.out _ _ (HS.out _ J) (fun hHeld => ?_)
    clear hK K
    try simp only [Act.put, List.setIfInBounds_toArray, List.set_cons_zero, List.set_cons_succ]
    refine oneL (i := 1) rfl (by kernel_rfl) (fun K hK => ?_)
    go_simp
    refine (orderL _ esK1 _ (HB1.out _ J) (by decide) (by decide) esK1_ok esK1_ord).mono ?_
    rintro e q19 ⟨oA, on, oc, rfl, hR, hb⟩
    replace hL := hL.on hb
    replace J := J.trans (hb.mono J.size)
    clear hb
    clear hHeld
    refine hK.out _ _ (HS.out _ J) (fun hHeld => ?_)
    clear hK K
    try simp only [Act.put, List.setIfInBounds_toArray, List.set_cons_zero, List.set_cons_succ]
    refine oneL (i := 3) rfl (by kernel_rfl) (fun K hK => ?_)
    go_simp
    refine (sameI_any _ _ _ _ _ _ hR hL).mono ?_
    rintro e q209 ⟨rfl, d, hq209⟩
    have hb : Below q19.heap.size q19 q209 := by rw [hq209]; exact below_drewN _ _ d
    clear hR hL hq209
    replace J := J.trans (hb.mono J.size)
    clear hb
    clear hHeld
    refine hK.out _ _ (HS.out _ J) (fun hHeld => ?_)
    clear hK K
    try simp only [Act.put, List.setIfInBounds_toArray, List.set_cons_zero, List.set_cons_succ]
    refine tQ 4 hHeld ?_
    try simp only [Act.put, List.setIfInBounds_toArray, List.set_cons_zero, List.set_cons_succ]
    refine tQ 5 hHeld ?_
    try simp only [Act.put, List.setIfInBounds_toArray, List.set_cons_zero, List.set_cons_succ]
    refine twoL (i := 6) (j := 7) rfl rfl (by kernel_rfl) (fun K hK => ?_) (fun K hK => ?_)
    · go_simp
      refine (domL _ esK1 _ (HB1.out _ J) (by decide) (by decide) esK1_ok esK1_dom).mono ?_
      rintro e q21 ⟨oA, on, oc, rfl, hR, hb⟩
      replace J := J.trans (hb.mono J.size)
      clear hb
      clear hHeld
      refine hK.out _ _ (HS.out _ J) (fun hHeld => ?_)
      clear hK K
      try simp only [Act.put, List.setIfInBounds_toArray, List.set_cons_zero, List.set_cons_succ]
      refine oneL (i := 7) rfl (by kernel_rfl) (fun K hK => ?_)
      go_simp
      obtain ⟨q22, hq22⟩ : ∃ x, x = q21.alloc (.cells #[.int .i64 0, .int .i64 0, .int .i64 0, .int .i64 2] tI1) := ⟨_, rfl⟩
      obtain ⟨nq22, hnq22⟩ : ∃ x, x = q21.heap.size := ⟨_, rfl⟩
      have hb : Below q21.heap.size q21 q22 := by rw [hq22]; exact (Below.refl _ _).alloc (Nat.le_refl _) _
      have hL := rdLit [0, 0, 0, 2] 4 (show Blk q22 nq22 tI1 (intC (nz [0, 0, 0, 2])) by rw [hq22, hnq22]; exact Blk.new _ _ _) rfl (by decide)
      rw [← hnq22]
      first | rw [← hq22] | (trace_state; fail)
      clear hq22 hnq22
      replace hR := hR.on hb
      replace J := J.trans (hb.mono J.size)
      clear hb
      clear hHeld
      refine hK.out _ _ (HS.out _ J) (fun hHeld => ?_)
      clear hK K
      try simp only [Act.put, List.setIfInBounds_toArray, List.set_cons_zero, List.set_cons_succ]
      refine oneL (i := 8) rfl (by kernel_rfl) (fun K hK => ?_)
      go_simp
      refine (sameI_any _ _ _ _ _ _ hR hL).mono ?_
      rintro e q239 ⟨rfl, d, hq239⟩
      have hb : Below q22.heap.size q22 q239 := by rw [hq239]; exact below_drewN _ _ d
      clear hR hL hq239
      replace J := J.trans (hb.mono J.size)
      clear hb
      clear hHeld
      refine hK.out _ _ (HS.out _ J) (fun hHeld => ?_)
      clear hK K
      try simp only [Act.put, List.setIfInBounds_toArray, List.set_cons_zero, List.set_cons_succ]
      refine tQ 9 hHeld ?_
      try simp only [Act.put, List.setIfInBounds_toArray, List.set_cons_zero, List.set_cons_succ]
      refine tQ 10 hHeld ?_
      try simp only [Act.put, List.setIfInBounds_toArray, List.set_cons_zero, List.set_cons_succ]
      refine tQ 11 hHeld ?_
      try simp only [Act.put, List.setIfInBounds_toArray, List.set_cons_zero, List.set_cons_succ]
      refine oneL (i := 12) rfl (by kernel_rfl) (fun K hK => ?_)
      go_simp
      refine (redL _ esK1 _ (HB1.out _ J) (by decide) (by decide) esK1_ok esK1_red).mono ?_
      rintro e q24 ⟨rfl, hb⟩
      replace J := J.trans (hb.mono J.size)
      clear hb
      clear hHeld
      refine hK.out _ _ (HS.out _ J) (fun hHeld => ?_)
      clear hK K
      try simp only [Act.put, List.setIfInBounds_toArray, List.set_cons_zero, List.set_cons_succ]
      refine tQ 13 hHeld ?_
      try simp only [Act.put, List.setIfInBounds_toArray, List.set_cons_zero, List.set_cons_succ]
      refine tQ 14 hHeld ?_
      try simp only [Act.put, List.setIfInBounds_toArray, List.set_cons_zero, List.set_cons_succ]
      refine tQ 15 hHeld ?_
      try simp only [Act.put, List.setIfInBounds_toArray, List.set_cons_zero, List.set_cons_succ]
      refine tQ 16 hHeld ?_
      try simp only [Act.put, List.setIfInBounds_toArray, List.set_cons_zero, List.set_cons_succ]
      refine tQ 17 hHeld ?_
      try simp only [Act.put, List.setIfInBounds_toArray, List.set_cons_zero, List.set_cons_succ]
      refine tQ 18 hHeld ?_
      try simp only [Act.put, List.setIfInBounds_toArray, List.set_cons_zero, List.set_cons_succ]
      refine tQ 19 hHeld ?_
      try simp only [Act.put, List.setIfInBounds_toArray, List.set_cons_zero, List.set_cons_succ]
      refine tQ 20 hHeld ?_
      try simp only [Act.put, List.setIfInBounds_toArray, List.set_cons_zero, List.set_cons_succ]
      refine tQ 21 hHeld ?_
      try simp only [Act.put, List.setIfInBounds_toArray, List.set_cons_zero, List.set_cons_succ]
      refine tQ 22 hHeld ?_
      try simp only [Act.put, List.setIfInBounds_toArray, List.set_cons_zero, List.set_cons_succ]
      refine tQ 23 hHeld ?_
      try simp only [Act.put, List.setIfInBounds_toArray, List.set_cons_zero, List.set_cons_succ]
      refine tQ 24 hHeld ?_
      try simp only [Act.put, List.setIfInBounds_toArray, List.set_cons_zero, List.set_cons_succ]
      refine tQ 25 hHeld ?_
      try simp only [Act.put, List.setIfInBounds_toArray, List.set_cons_zero, List.set_cons_succ]
      refine tQ 26 hHeld ?_
      try simp only [Act.put, List.setIfInBounds_toArray, List.set_cons_zero, List.set_cons_succ]
      refine tQ 27 hHeld ?_
      try simp only [Act.put, List.setIfInBounds_toArray, List.set_cons_zero, List.set_cons_succ]
      refine tQ 28 hHeld ?_
      try simp only [Act.put, List.setIfInBounds_toArray, List.set_cons_zero, List.set_cons_succ]
      refine tQ 29 hHeld ?_
      try simp only [Act.put, List.setIfInBounds_toArray, List.set_cons_zero, List.set_cons_succ]
      refine tQ 30 hHeld ?_
      try simp only [Act.put, List.setIfInBounds_toArray, List.set_cons_zero, List.set_cons_succ]
      refine oneL (i := 31) rfl (by kernel_rfl) (fun K hK => ?_)
      go_simp
      refine (branch_any 4 3 _).mono ?_
      rintro e q25 ⟨rfl, hb⟩
      unfold ebA
      replace J := J.trans (hb.mono J.size)
      clear hb
      clear hHeld
      refine hK.out _ _ (HS.out _ J) (fun hHeld => ?_)
      clear hK K
      try simp only [Act.put, List.setIfInBounds_toArray, List.set_cons_zero, List.set_cons_succ]
      refine tQ 32 hHeld ?_
      try simp only [Act.put, List.setIfInBounds_toArray, List.set_cons_zero, List.set_cons_succ]
      refine tQ 33 hHeld ?_
      try simp only [Act.put, List.setIfInBounds_toArray, List.set_cons_zero, List.set_cons_succ]
      refine tQ 34 hHeld ?_
      try simp only [Act.put, List.setIfInBounds_toArray, List.set_cons_zero, List.set_cons_succ]
      refine tQ 35 hHeld ?_
      try simp only [Act.put, List.setIfInBounds_toArray, List.set_cons_zero, List.set_cons_succ]
      refine tQ 36 hHeld ?_
      try simp only [Act.put, List.setIfInBounds_toArray, List.set_cons_zero, List.set_cons_succ]
      refine tQ 37 hHeld ?_
      try simp only [Act.put, List.setIfInBounds_toArray, List.set_cons_zero, List.set_cons_succ]
      refine tQ 38 hHeld ?_
      try simp only [Act.put, List.setIfInBounds_toArray, List.set_cons_zero, List.set_cons_succ]
      refine tQ 39 hHeld ?_
      try simp only [Act.put, List.setIfInBounds_toArray, List.set_cons_zero, List.set_cons_succ]
      refine oneL (i := 40) rfl (by kernel_rfl) (fun K hK => ?_)
      go_simp
      refine (jump_any 2 _).mono ?_
      rintro e q26 ⟨rfl, hb⟩
      unfold ebA
      replace J := J.trans (hb.mono J.size)
      clear hb
      clear hHeld
      refine hK.out _ _ (HS.out _ J) (fun hHeld => ?_)
      clear hK K
      try simp only [Act.put, List.setIfInBounds_toArray, List.set_cons_zero, List.set_cons_succ]
      refine tQ 41 hHeld ?_
      try simp only [Act.put, List.setIfInBounds_toArray, List.set_cons_zero, List.set_cons_succ]
      refine tQ 42 hHeld ?_
      try simp only [Act.put, List.setIfInBounds_toArray, List.set_cons_zero, List.set_cons_succ]
      refine tQ 43 hHeld ?_
      try simp only [Act.put, List.setIfInBounds_toArray, List.set_cons_zero, List.set_cons_succ]
      refine tQ 44 hHeld ?_
      try simp only [Act.put, List.setIfInBounds_toArray, List.set_cons_zero, List.set_cons_succ]
      refine oneL (i := 45) rfl (by kernel_rfl) (fun K hK => ?_)
      go_simp
      refine (redL _ esK2 _ (HB2.out _ J) (by decide) (by decide) esK2_ok esK2_red).mono ?_
      rintro e q27 ⟨rfl, hb⟩
      replace J := J.trans (hb.mono J.size)
      clear hb
      clear hHeld
      refine hK.out _ _ (HS.out _ J) (fun hHeld => ?_)
      clear hK K
      try simp only [Act.put, List.setIfInBounds_toArray, List.set_cons_zero, List.set_cons_succ]
      refine tQ 46 hHeld ?_
      try simp only [Act.put, List.setIfInBounds_toArray, List.set_cons_zero, List.set_cons_succ]
      refine tQ 47 hHeld ?_
      try simp only [Act.put, List.setIfInBounds_toArray, List.set_cons_zero, List.set_cons_succ]
      refine wpAnyH_done (by kernel_rfl) ?_ _
      have HFF := Lib.hid (H8.out.trans (J.mono H8.out.size))
      clear J hHeld
      go_wp2_with fail
      go_ret
      exact ⟨rfl, HFF.out⟩
    · go_simp
      obtain ⟨q28, hq28⟩ : ∃ x, x = q209.alloc (.cells #[.int .i64 0, .int .i64 0, .int .i64 0, .int .i64 2] tI1) := ⟨_, rfl⟩
      obtain ⟨nq28, hnq28⟩ : ∃ x, x = q209.heap.size := ⟨_, rfl⟩
      have hb : Below q209.heap.size q209 q28 := by rw [hq28]; exact (Below.refl _ _).alloc (Nat.le_refl _) _
      have hL := rdLit [0, 0, 0, 2] 4 (show Blk q28 nq28 tI1 (intC (nz [0, 0, 0, 2])) by rw [hq28, hnq28]; exact Blk.new _ _ _) rfl (by decide)
      rw [← hnq28]
      first | rw [← hq28] | (trace_state; fail)
      clear hq28 hnq28
      replace J := J.trans (hb.mono J.size)
      clear hb
      clear hHeld
      refine hK.out _ _ (HS.out _ J) (fun hHeld => ?_)
      clear hK K
      try simp only [Act.put, List.setIfInBounds_toArray, List.set_cons_zero, List.set_cons_succ]
      refine oneL (i := 6) rfl (by kernel_rfl) (fun K hK => ?_)
      go_simp
      refine (domL _ esK1 _ (HB1.out _ J) (by decide) (by decide) esK1_ok esK1_dom).mono ?_
      rintro e q29 ⟨oA, on, oc, rfl, hR, hb⟩
      replace hL := hL.on hb
      replace J := J.trans (hb.mono J.size)
      clear hb
      clear hHeld
      refine hK.out _ _ (HS.out _ J) (fun hHeld => ?_)
      clear hK K
      try simp only [Act.put, List.setIfInBounds_toArray, List.set_cons_zero, List.set_cons_succ]
      refine oneL (i := 8) rfl (by kernel_rfl) (fun K hK => ?_)
      go_simp
      refine (sameI_any _ _ _ _ _ _ hR hL).mono ?_
      rintro e q309 ⟨rfl, d, hq309⟩
      have hb : Below q29.heap.size q29 q309 := by rw [hq309]; exact below_drewN _ _ d
      clear hR hL hq309
      replace J := J.trans (hb.mono J.size)
      clear hb
      clear hHeld
      refine hK.out _ _ (HS.out _ J) (fun hHeld => ?_)
      clear hK K
      try simp only [Act.put, List.setIfInBounds_toArray, List.set_cons_zero, List.set_cons_succ]
      refine tQ 9 hHeld ?_
      try simp only [Act.put, List.setIfInBounds_toArray, List.set_cons_zero, List.set_cons_succ]
      refine tQ 10 hHeld ?_
      try simp only [Act.put, List.setIfInBounds_toArray, List.set_cons_zero, List.set_cons_succ]
      refine tQ 11 hHeld ?_
      try simp only [Act.put, List.setIfInBounds_toArray, List.set_cons_zero, List.set_cons_succ]
      refine oneL (i := 12) rfl (by kernel_rfl) (fun K hK => ?_)
      go_simp
      refine (redL _ esK1 _ (HB1.out _ J) (by decide) (by decide) esK1_ok esK1_red).mono ?_
      rintro e q31 ⟨rfl, hb⟩
      replace J := J.trans (hb.mono J.size)
      clear hb
      clear hHeld
      refine hK.out _ _ (HS.out _ J) (fun hHeld => ?_)
      clear hK K
      try simp only [Act.put, List.setIfInBounds_toArray, List.set_cons_zero, List.set_cons_succ]
      refine tQ 13 hHeld ?_
      try simp only [Act.put, List.setIfInBounds_toArray, List.set_cons_zero, List.set_cons_succ]
      refine tQ 14 hHeld ?_
      try simp only [Act.put, List.setIfInBounds_toArray, List.set_cons_zero, List.set_cons_succ]
      refine tQ 15 hHeld ?_
      try simp only [Act.put, List.setIfInBounds_toArray, List.set_cons_zero, List.set_cons_succ]
      refine tQ 16 hHeld ?_
      try simp only [Act.put, List.setIfInBounds_toArray, List.set_cons_zero, List.set_cons_succ]
      refine tQ 17 hHeld ?_
      try simp only [Act.put, List.setIfInBounds_toArray, List.set_cons_zero, List.set_cons_succ]
      refine tQ 18 hHeld ?_
      try simp only [Act.put, List.setIfInBounds_toArray, List.set_cons_zero, List.set_cons_succ]
      refine tQ 19 hHeld ?_
      try simp only [Act.put, List.setIfInBounds_toArray, List.set_cons_zero, List.set_cons_succ]
      refine tQ 20 hHeld ?_
      try simp only [Act.put, List.setIfInBounds_toArray, List.set_cons_zero, List.set_cons_succ]
      refine tQ 21 hHeld ?_
      try simp only [Act.put, List.setIfInBounds_toArray, List.set_cons_zero, List.set_cons_succ]
      refine tQ 22 hHeld ?_
      try simp only [Act.put, List.setIfInBounds_toArray, List.set_cons_zero, List.set_cons_succ]
      refine tQ 23 hHeld ?_
      try simp only [Act.put, List.setIfInBounds_toArray, List.set_cons_zero, List.set_cons_succ]
      refine tQ 24 hHeld ?_
      try simp only [Act.put, List.setIfInBounds_toArray, List.set_cons_zero, List.set_cons_succ]
      refine tQ 25 hHeld ?_
      try simp only [Act.put, List.setIfInBounds_toArray, List.set_cons_zero, List.set_cons_succ]
      refine tQ 26 hHeld ?_
      try simp only [Act.put, List.setIfInBounds_toArray, List.set_cons_zero, List.set_cons_succ]
      refine tQ 27 hHeld ?_
      try simp only [Act.put, List.setIfInBounds_toArray, List.set_cons_zero, List.set_cons_succ]
      refine tQ 28 hHeld ?_
      try simp only [Act.put, List.setIfInBounds_toArray, List.set_cons_zero, List.set_cons_succ]
      refine tQ 29 hHeld ?_
      try simp only [Act.put, List.setIfInBounds_toArray, List.set_cons_zero, List.set_cons_succ]
      refine tQ 30 hHeld ?_
      try simp only [Act.put, List.setIfInBounds_toArray, List.set_cons_zero, List.set_cons_succ]
      refine oneL (i := 31) rfl (by kernel_rfl) (fun K hK => ?_)
      go_simp
      refine (branch_any 4 3 _).mono ?_
      rintro e q32 ⟨rfl, hb⟩
      unfold ebA
      replace J := J.trans (hb.mono J.size)
      clear hb
      clear hHeld
      refine hK.out _ _ (HS.out _ J) (fun hHeld => ?_)
      clear hK K
      try simp only [Act.put, List.setIfInBounds_toArray, List.set_cons_zero, List.set_cons_succ]
      refine tQ 32 hHeld ?_
      try simp only [Act.put, List.setIfInBounds_toArray, List.set_cons_zero, List.set_cons_succ]
      refine tQ 33 hHeld ?_
      try simp only [Act.put, List.setIfInBounds_toArray, List.set_cons_zero, List.set_cons_succ]
      refine tQ 34 hHeld ?_
      try simp only [Act.put, List.setIfInBounds_toArray, List.set_cons_zero, List.set_cons_succ]
      refine tQ 35 hHeld ?_
      try simp only [Act.put, List.setIfInBounds_toArray, List.set_cons_zero, List.set_cons_succ]
      refine tQ 36 hHeld ?_
      try simp only [Act.put, List.setIfInBounds_toArray, List.set_cons_zero, List.set_cons_succ]
      refine tQ 37 hHeld ?_
      try simp only [Act.put, List.setIfInBounds_toArray, List.set_cons_zero, List.set_cons_succ]
      refine tQ 38 hHeld ?_
      try simp only [Act.put, List.setIfInBounds_toArray, List.set_cons_zero, List.set_cons_succ]
      refine tQ 39 hHeld ?_
      try simp only [Act.put, List.setIfInBounds_toArray, List.set_cons_zero, List.set_cons_succ]
      refine oneL (i := 40) rfl (by kernel_rfl) (fun K hK => ?_)
      go_simp
      refine (jump_any 2 _).mono ?_
      rintro e q33 ⟨rfl, hb⟩
      unfold ebA
      replace J := J.trans (hb.mono J.size)
      clear hb
      clear hHeld
      refine hK.out _ _ (HS.out _ J) (fun hHeld => ?_)
      clear hK K
      try simp only [Act.put, List.setIfInBounds_toArray, List.set_cons_zero, List.set_cons_succ]
      refine tQ 41 hHeld ?_
      try simp only [Act.put, List.setIfInBounds_toArray, List.set_cons_zero, List.set_cons_succ]
      refine tQ 42 hHeld ?_
      try simp only [Act.put, List.setIfInBounds_toArray, List.set_cons_zero, List.set_cons_succ]
      refine tQ 43 hHeld ?_
      try simp only [Act.put, List.setIfInBounds_toArray, List.set_cons_zero, List.set_cons_succ]
      refine tQ 44 hHeld ?_
      try simp only [Act.put, List.setIfInBounds_toArray, List.set_cons_zero, List.set_cons_succ]
      refine oneL (i := 45) rfl (by kernel_rfl) (fun K hK => ?_)
      go_simp
      refine (redL _ esK2 _ (HB2.out _ J) (by decide) (by decide) esK2_ok esK2_red).mono ?_
      rintro e q34 ⟨rfl, hb⟩
      replace J := J.trans (hb.mono J.size)
      clear hb
      clear hHeld
      refine hK.out _ _ (HS.out _ J) (fun hHeld => ?_)
      clear hK K
      try simp only [Act.put, List.setIfInBounds_toArray, List.set_cons_zero, List.set_cons_succ]
      refine tQ 46 hHeld ?_
      try simp only [Act.put, List.setIfInBounds_toArray, List.set_cons_zero, List.set_cons_succ]
      refine tQ 47 hHeld ?_
      try simp only [Act.put, List.setIfInBounds_toArray, List.set_cons_zero, List.set_cons_succ]
      refine wpAnyH_done (by kernel_rfl) ?_ _
      have HFF := Lib.hid (H8.out.trans (J.mono H8.out.size))
      clear J hHeld
      go_wp2_with fail
      go_ret
      exact ⟨rfl, HFF.out⟩
end Go.Proofs.Ytjmlpbnejcfnhaa
