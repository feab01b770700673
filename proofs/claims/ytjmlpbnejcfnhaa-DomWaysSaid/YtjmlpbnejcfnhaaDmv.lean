/-
  Layer dom: walk of the law's ends.
-/
import Derived.Test.YtjmlpbnejcfnhaaDmu
namespace Go.Proofs.Ytjmlpbnejcfnhaa
open Go Go.RowKit Go.Maps
set_option linter.unusedVariables false
set_option linter.unusedSimpArgs false

theorem own_grown {w w' : World} {base sz n : Nat} {t : TypeId} {v : Value} {xs : List Value} (hp : w.ownsRow base t sz v n xs) : (∃ A c, v = .slice A n c) := by
  rcases hp.2 with ⟨rfl, e⟩ | ⟨g, cap, cur, rfl, _⟩
  · exact ⟨_, _, by rw [e]⟩
  · exact ⟨_, _, rfl⟩
theorem own_lt5 {w : World} {base sz n : Nat} {t : TypeId} {p : Value} {xs : List Value} (hp : w.ownsRow base t sz p n xs) {i : Nat} (hi : p.ownBlock = some i) : i < w.heap.size ∧ base ≤ i := by
  rcases hp.2 with ⟨rfl, _⟩ | ⟨g, cap, cur, rfl, hb, hh, _⟩
  · cases hi
  · cases hi
    exact ⟨(Array.getElem?_eq_some_iff.1 hh).1, hb⟩
set_option maxHeartbeats 4000000 in
set_option maxRecDepth 100000 in
theorem ends_any {w : World} {es : List Eb} {eb : Nat} {ev : Value} (he : RwE w eb ev es) (hm : es.length ≤ 400) (hw : ∀ e ∈ es, e.w) :
    Calls Try.prog 9 #[ev] w fun e w' => ∃ rv bv, e = .returned (.agg (codA (dcod es) rv bv)) ∧ BaR w' rv bv es ∧ Below w.heap.size w w' := by
  obtain ⟨cap, rfl, hlc, hcm⟩ := he.sl
  obtain ⟨N, hN⟩ : ∃ N, es.length = N := ⟨_, rfl⟩
  rw [hN] at hm hlc ⊢
  obtain ⟨i0, hi0, hz0, hz1, hz2⟩ := info_parts infoCnB
  have HE := Lib.hid (And.intro he (And.intro hN hw))
  clear he hN hw hcm
  go_enter Try.func9, Try.ntmps9
  obtain ⟨H, hH⟩ : ∃ x, x = w.heap.size := ⟨_, rfl⟩
  obtain ⟨W3, hW3⟩ : ∃ x, x = ((w.alloc (.cells #[.string ⟨#[]⟩, .int .i64 0, .int .i64 0, .slice none 0 0, .slice none 0 0] tCd)).alloc (.cells #[.int .i64 1] tI1)).alloc (.cells #[.string ⟨#[109, 97, 105, 110]⟩, .int .i64 1, .int .i64 0, .slice (some ⟨w.heap.size + 1, 0, none⟩) 1 1, .slice none 0 0] tCd) := ⟨_, rfl⟩
  have b0 : Blk W3 H tCd #[.string ⟨#[]⟩, .int .i64 0, .int .i64 0, .slice none 0 0, .slice none 0 0] := by rw [hW3, hH]; exact ((Blk.new w tCd _).alloc _).alloc _
  have b1 : Blk W3 (H + 1) tI1 #[.int .i64 1] := by rw [hW3, hH]; exact (bN (by simp)).alloc _
  have b2 : Blk W3 (H + 1 + 1) tCd #[.string ⟨#[109, 97, 105, 110]⟩, .int .i64 1, .int .i64 0, .slice (some ⟨H + 1, 0, none⟩) 1 1, .slice none 0 0] := by rw [hW3, hH]; exact bN (by simp)
  have hz3 : W3.heap.size = H + 1 + 1 + 1 := by rw [hW3, hH]; simp
  have hb3 : Below H w W3 := by rw [hW3, hH]; exact (((Below.refl _ w).alloc (Nat.le_refl _) _).alloc (by simp) _).alloc (by simp; omega) _
  go_wp2_with fail
  rw [← hW3, ← hH]
  have HE3 := HE.out.1.below hb3 (by rw [hH]; exact HE.out.1.lt)
  have hebH : eb < H := by rw [hH]; exact HE.out.1.lt
  have HW := Lib.hid (And.intro b0 (And.intro b1 (And.intro b2 (And.intro hz3 (And.intro hb3 (And.intro HE3 hH))))))
  clear b0 b1 b2 hz3 hb3 HE3 hW3 hH
  go_loopw [4] (fun v wr => ∃ (i : Nat) (bv : Value), i ≤ N ∧ v = .int .i64 (i : Nat) ∧ Blk wr (H + 1 + 1) tCd #[.string ⟨#[109, 97, 105, 110]⟩, .int .i64 1, .int .i64 0, .slice (some ⟨H + 1, 0, none⟩) 1 1, bv] ∧ wr.ownsRow (H + 1 + 1 + 1) tBlo 5 bv i (bareC (es.take i)) ∧ Below (H + 1 + 1) W3 wr) (fun v _ => N - (intOf v).toNat)
  case atStart => exact ⟨0, _, by omega, rfl, HW.out.2.2.1, by rw [List.take_zero]; exact World.ownsRow_nil _ _ _ _, Below.refl _ _⟩
  case round =>
    obtain ⟨i, bv, hi, rfl, hbx, hrow, hbe⟩ := hrel
    obtain ⟨wo, hwo⟩ : ∃ x, x = wr := ⟨_, rfl⟩
    subst hwo
    obtain ⟨bA, bc, rfl⟩ : ∃ A c, bv = .slice A i c := by
      rcases hrow.2 with ⟨rfl, e⟩ | ⟨g, cap, cur, rfl, _⟩
      · exact ⟨_, _, by rw [e]⟩
      · exact ⟨_, _, rfl⟩
    obtain ⟨b0, b1, b2, hz3, hb3, he3, hH⟩ := HW.out
    have heo := he3.below hbe (by omega)
    have hzo := hbe.size
    by_cases hin : i < N
    · have hi2 : i < es.length := by rw [HE.out.2.1]; exact hin
      obtain ⟨e, hx⟩ : ∃ e, es[i]? = some e := ⟨_, List.getElem?_eq_getElem hi2⟩
      obtain ⟨c0, c1, c2, c3⟩ := heo.cells hx
      have c4 : wo.cell? ⟨H + 1 + 1, 4, none⟩ = some (.slice bA i bc) := hbx.cell 4
      have l4 := hbx.lt
      have le := heo.lt
      obtain ⟨q1, hq1⟩ : ∃ x, x = (wo.alloc (.cells #[.slice none 0 0, .int .i64 e.k, .int .i64 e.a, .int .i64 e.to, .int .i64 e.el] tBlo)).drew := ⟨_, rfl⟩
      have hbq : Below wo.heap.size wo q1 := by rw [hq1]; exact ((Below.refl _ _).alloc (Nat.le_refl _) _).trans (below_drewN _ _ 1)
      have hnew : Blk q1 wo.heap.size tBlo #[.slice none 0 0, .int .i64 e.k, .int .i64 e.a, .int .i64 e.to, .int .i64 e.el] := by rw [hq1]; exact Blk.new wo tBlo _
      have hrow1 := own_on hrow hbq
      have hbx1 := hbx.on hbq
      have hsz1 : H + 1 + 1 + 1 ≤ q1.heap.size := by have := hbq.size; omega
      have htk : bareC (es.take (i + 1)) = bareC (es.take i) ++ [.slice none 0 0, .int .i64 e.k, .int .i64 e.a, .int .i64 e.to, .int .i64 e.el] := by
        rw [← bareC_snoc, List.take_add_one, hx]; rfl
      have HA := Lib.hid (And.intro hrow1 (And.intro hnew (And.intro hsz1 (And.intro hbx1 (And.intro (hbe.trans (hbq.mono (by omega))) htk)))))
      have HQ1 := Lib.hid hq1
      have HSS : Hid (∀ W, Below (H + 1) wo W → (fun (Wx : World) => Wx.cell? ⟨eb, i * 4, none⟩ = some (.int .i64 e.k) ∧ Wx.cell? ⟨eb, i * 4 + 1, none⟩ = some (.int .i64 e.a) ∧ Wx.cell? ⟨eb, i * 4 + 2, none⟩ = some (.int .i64 e.to) ∧ Wx.cell? ⟨eb, i * 4 + 3, none⟩ = some (.int .i64 e.el) ∧ H + 1 + 1 < Wx.heap.size ∧ eb < Wx.heap.size) W) := Lib.hid fun W hW => ⟨(hW.cell (p := ⟨eb, _, none⟩) (by show eb < H + 1; omega)).trans c0, (hW.cell (p := ⟨eb, _, none⟩) (by show eb < H + 1; omega)).trans c1, (hW.cell (p := ⟨eb, _, none⟩) (by show eb < H + 1; omega)).trans c2, (hW.cell (p := ⟨eb, _, none⟩) (by show eb < H + 1; omega)).trans c3, Nat.lt_of_lt_of_le l4 hW.size, Nat.lt_of_lt_of_le le hW.size⟩
      have HB1 := Lib.hid (hbq.mono (show H + 1 ≤ wo.heap.size by omega))
      clear b0 b1 b2 hz3 hb3 he3 hH heo hx hbx hrow hbe hbq hnew hrow1 hbx1 htk hq1 hi2
      go_upto_region 5 with (fail)
      refine wp_region_held_drew (S := (fun (Wx : World) => Wx.cell? ⟨eb, i * 4, none⟩ = some (.int .i64 e.k) ∧ Wx.cell? ⟨eb, i * 4 + 1, none⟩ = some (.int .i64 e.a) ∧ Wx.cell? ⟨eb, i * 4 + 2, none⟩ = some (.int .i64 e.to) ∧ Wx.cell? ⟨eb, i * 4 + 3, none⟩ = some (.int .i64 e.el) ∧ H + 1 + 1 < Wx.heap.size ∧ eb < Wx.heap.size)) (by kernel_rfl) (by exact HSS.out _ ((Below.refl _ wo).trans (below_drewN _ _ 1))) (fun hHeld => ?_)
      refine tQ 0 hHeld ?_
      refine tQ 2 hHeld ?_
      refine tQ 3 hHeld ?_
      refine tQ 4 hHeld ?_
      refine tQ 5 hHeld ?_
      refine tQ 6 hHeld ?_
      refine twoL (i := 1) (j := 7) rfl rfl (by kernel_rfl) (fun K hK => ?_) (fun K hK => ?_)
      · go_simp
        clear hHeld
        refine hK.out _ _ ?_ (fun hHeld => ?_)
        · first | exact HSS.out _ ((Below.refl _ wo).trans (below_drewN _ _ 1)) | (try rw [← HQ1.out]); exact HSS.out _ HB1.out
        clear hK K
        try simp only [Act.put, List.setIfInBounds_toArray, List.set_cons_zero, List.set_cons_succ]
        refine oneL (i := 7) rfl (by kernel_rfl) (fun K hK => ?_)
        go_simp
        clear hHeld
        refine hK.out _ _ ?_ (fun hHeld => ?_)
        · rw [← HQ1.out]; exact HSS.out _ HB1.out
        clear hK K
        try simp only [Act.put, List.setIfInBounds_toArray, List.set_cons_zero, List.set_cons_succ]
        refine oneL (i := 8) rfl (by kernel_rfl) (fun K hK => ?_)
        try rw [← HQ1.out]
        refine step_append_lies _ rfl (.tmp 14) (.tmp 20) 32 rfl (H + 1 + 1 + 1) tBlo i0 _ 5 56 Try.underlying32 hi0 hz0 hz1 hz2 rfl (by decide) (.slice bA i bc) i (bareC (es.take i)) (by simp [Act.eval, Act.put]) HA.out.1 ⟨wo.heap.size, 0, none⟩ 1 1 [.slice none 0 0, .int .i64 e.k, .int .i64 e.a, .int .i64 e.to, .int .i64 e.el] (by simp [Act.eval, Act.put]) rfl (news5 HA.out.2.1) (by simp [Value.oneCell']) (by decide) (by unfold maxLen; omega) (by omega) HA.out.2.2.1 _ rfl ?_
        intro g9 cap9 w2 hown hgrow hgl hlt9
        have hb2 : Below (H + 1 + 1 + 1) q1 w2 := below_grown (Below.refl _ q1) hgrow HA.out.2.2.1 (fun i e => (own_lt5 HA.out.1 e).2)
        have hbk := HA.out.2.2.2.1.below hb2 (by omega)
        have f2 := hbk.frozen 4
        have l9 := hbk.lt
        have q5 : w2.cell? ⟨H + 1 + 1, 4, none⟩ = some (.slice bA i bc) := hbk.cell 4
        have HG := Lib.hid (And.intro hown (And.intro hb2 (And.intro hbk (And.intro hgl hlt9))))
        clear hown hgrow hgl hb2 hbk hlt9
        clear hHeld
        refine hK.out _ _ ?_ (fun hHeld => ?_)
        · exact HSS.out _ (HB1.out.trans (HG.out.2.1.mono (by omega)))
        clear hK K
        try simp only [Act.put, List.setIfInBounds_toArray, List.set_cons_zero, List.set_cons_succ]
        refine tQ 9 hHeld ?_
        refine oneL (i := 10) rfl (by kernel_rfl) (fun K hK => ?_)
        go_simp
        clear hHeld
        refine hK.out _ _ ?_ (fun hHeld => ?_)
        · exact HSS.out _ ((HB1.out.trans (HG.out.2.1.mono (by omega))).setCell (p := ⟨H + 1 + 1, 4, none⟩) (by show H + 1 ≤ H + 1 + 1; omega) _)
        clear hK K
        try simp only [Act.put, List.setIfInBounds_toArray, List.set_cons_zero, List.set_cons_succ]
        refine wpAnyH_done (by kernel_rfl) ?_ _
        have hb9 : Below (H + 1 + 1) W3 (w2.setCell ⟨H + 1 + 1, 4, none⟩ (.slice (some ⟨g9, 0, none⟩) (i + 1) cap9)) := (HA.out.2.2.2.2.1.trans (HG.out.2.1.mono (by omega))).setCell (p := ⟨H + 1 + 1, 4, none⟩) (Nat.le_refl _) _
        have hbx9 := HG.out.2.2.1.set_ 4 (.slice (some ⟨g9, 0, none⟩) (i + 1) cap9)
        have hg9 : H + 1 + 1 + 1 ≤ g9 := by
          rcases HG.out.2.2.2.1 with e | e
          · exact (own_lt5 HA.out.1 e).2
          · have := HA.out.2.2.1; omega
        have hrow9 : (w2.setCell ⟨H + 1 + 1, 4, none⟩ (.slice (some ⟨g9, 0, none⟩) (i + 1) cap9)).ownsRow (H + 1 + 1 + 1) tBlo 5 (.slice (some ⟨g9, 0, none⟩) (i + 1) cap9) (i + 1) (bareC (es.take (i + 1))) := by
          rw [HA.out.2.2.2.2.2]
          obtain ⟨h1, h2⟩ := HG.out.1
          refine ⟨h1, ?_⟩
          rcases h2 with h2 | ⟨g, cap, cur, hv, hbs, hh, r⟩
          · exact .inl h2
          · refine .inr ⟨g, cap, cur, hv, hbs, (Below.heap_setCell w2 ⟨H + 1 + 1, 4, none⟩ _ g (by show g ≠ H + 1 + 1; omega)).trans hh, r⟩
        have HF := Lib.hid (And.intro hbx9 (And.intro hrow9 hb9))
        clear hbx9 hrow9 hb9 HA HSS
        go_wp2_with fail
        go_roundw
        case rel => exact ⟨i + 1, _, by omega, by go_num, HF.out.1, HF.out.2.1, HF.out.2.2⟩
        case measure => simp [intOf]; omega
      · go_simp
        clear hHeld
        refine hK.out _ _ ?_ (fun hHeld => ?_)
        · rw [← HQ1.out]; exact HSS.out _ HB1.out
        clear hK K
        try simp only [Act.put, List.setIfInBounds_toArray, List.set_cons_zero, List.set_cons_succ]
        refine oneL (i := 1) rfl (by kernel_rfl) (fun K hK => ?_)
        go_simp
        clear hHeld
        refine hK.out _ _ ?_ (fun hHeld => ?_)
        · first | exact HSS.out _ ((Below.refl _ wo).trans (below_drewN _ _ 1)) | (try rw [← HQ1.out]); exact HSS.out _ HB1.out
        clear hK K
        try simp only [Act.put, List.setIfInBounds_toArray, List.set_cons_zero, List.set_cons_succ]
        refine oneL (i := 8) rfl (by kernel_rfl) (fun K hK => ?_)
        try rw [← HQ1.out]
        refine step_append_lies _ rfl (.tmp 14) (.tmp 20) 32 rfl (H + 1 + 1 + 1) tBlo i0 _ 5 56 Try.underlying32 hi0 hz0 hz1 hz2 rfl (by decide) (.slice bA i bc) i (bareC (es.take i)) (by simp [Act.eval, Act.put]) HA.out.1 ⟨wo.heap.size, 0, none⟩ 1 1 [.slice none 0 0, .int .i64 e.k, .int .i64 e.a, .int .i64 e.to, .int .i64 e.el] (by simp [Act.eval, Act.put]) rfl (news5 HA.out.2.1) (by simp [Value.oneCell']) (by decide) (by unfold maxLen; omega) (by omega) HA.out.2.2.1 _ rfl ?_
        intro g9 cap9 w2 hown hgrow hgl hlt9
        have hb2 : Below (H + 1 + 1 + 1) q1 w2 := below_grown (Below.refl _ q1) hgrow HA.out.2.2.1 (fun i e => (own_lt5 HA.out.1 e).2)
        have hbk := HA.out.2.2.2.1.below hb2 (by omega)
        have f2 := hbk.frozen 4
        have l9 := hbk.lt
        have q5 : w2.cell? ⟨H + 1 + 1, 4, none⟩ = some (.slice bA i bc) := hbk.cell 4
        have HG := Lib.hid (And.intro hown (And.intro hb2 (And.intro hbk (And.intro hgl hlt9))))
        clear hown hgrow hgl hb2 hbk hlt9
        clear hHeld
        refine hK.out _ _ ?_ (fun hHeld => ?_)
        · exact HSS.out _ (HB1.out.trans (HG.out.2.1.mono (by omega)))
        clear hK K
        try simp only [Act.put, List.setIfInBounds_toArray, List.set_cons_zero, List.set_cons_succ]
        refine tQ 9 hHeld ?_
        refine oneL (i := 10) rfl (by kernel_rfl) (fun K hK => ?_)
        go_simp
        clear hHeld
        refine hK.out _ _ ?_ (fun hHeld => ?_)
        · exact HSS.out _ ((HB1.out.trans (HG.out.2.1.mono (by omega))).setCell (p := ⟨H + 1 + 1, 4, none⟩) (by show H + 1 ≤ H + 1 + 1; omega) _)
        clear hK K
        try simp only [Act.put, List.setIfInBounds_toArray, List.set_cons_zero, List.set_cons_succ]
        refine wpAnyH_done (by kernel_rfl) ?_ _
        have hb9 : Below (H + 1 + 1) W3 (w2.setCell ⟨H + 1 + 1, 4, none⟩ (.slice (some ⟨g9, 0, none⟩) (i + 1) cap9)) := (HA.out.2.2.2.2.1.trans (HG.out.2.1.mono (by omega))).setCell (p := ⟨H + 1 + 1, 4, none⟩) (Nat.le_refl _) _
        have hbx9 := HG.out.2.2.1.set_ 4 (.slice (some ⟨g9, 0, none⟩) (i + 1) cap9)
        have hg9 : H + 1 + 1 + 1 ≤ g9 := by
          rcases HG.out.2.2.2.1 with e | e
          · exact (own_lt5 HA.out.1 e).2
          · have := HA.out.2.2.1; omega
        have hrow9 : (w2.setCell ⟨H + 1 + 1, 4, none⟩ (.slice (some ⟨g9, 0, none⟩) (i + 1) cap9)).ownsRow (H + 1 + 1 + 1) tBlo 5 (.slice (some ⟨g9, 0, none⟩) (i + 1) cap9) (i + 1) (bareC (es.take (i + 1))) := by
          rw [HA.out.2.2.2.2.2]
          obtain ⟨h1, h2⟩ := HG.out.1
          refine ⟨h1, ?_⟩
          rcases h2 with h2 | ⟨g, cap, cur, hv, hbs, hh, r⟩
          · exact .inl h2
          · refine .inr ⟨g, cap, cur, hv, hbs, (Below.heap_setCell w2 ⟨H + 1 + 1, 4, none⟩ _ g (by show g ≠ H + 1 + 1; omega)).trans hh, r⟩
        have HF := Lib.hid (And.intro hbx9 (And.intro hrow9 hb9))
        clear hbx9 hrow9 hb9 HA HSS
        go_wp2_with fail
        go_roundw
        case rel => exact ⟨i + 1, _, by omega, by go_num, HF.out.1, HF.out.2.1, HF.out.2.2⟩
        case measure => simp [intOf]; omega
    · have hiN : i = N := by omega
      have b0o := b0.below hbe (by omega)
      have b1o := b1.below hbe (by omega)
      obtain ⟨RW, hRW⟩ : ∃ x, x = #[Value.string ⟨#[109, 97, 105, 110]⟩, .int .i64 1, .int .i64 0, .slice (some ⟨H + 1, 0, none⟩) 1 1, .slice bA i bc] := ⟨_, rfl⟩
      have hr4 := setRow_heap wo H #[.string ⟨#[]⟩, .int .i64 0, .int .i64 0, .slice none 0 0, .slice none 0 0] #[Value.string ⟨#[109, 97, 105, 110]⟩, .int .i64 1, .int .i64 0, .slice (some ⟨H + 1, 0, none⟩) 1 1, .slice bA i bc] tCd (0, 0) b0o
      have HEE := Lib.hid (And.intro hr4 (Go.below_setRow (B := H) (w0 := wo) (Below.refl _ _) (Nat.le_refl _) #[Value.string ⟨#[109, 97, 105, 110]⟩, .int .i64 1, .int .i64 0, .slice (some ⟨H + 1, 0, none⟩) 1 1, .slice bA i bc]))
      have HF := Lib.hid (And.intro hrow (And.intro b1o (And.intro hiN (And.intro hH (And.intro hb3 hbe)))))
      have hHo : H < wo.heap.size := b0o.lt
      clear hr4 hrow b1o hiN hH hb3 hbe b0 b1 b2 he3 heo hRW RW hz3 hzo
      go_upto_region 6 with (fail)
      refine wp_region_list ?_
      refine wpList_load_row rfl tCd _ rfl (H + 1 + 1) rfl tCd _ (0, 0) _ hbx Try.underlying34 rfl cdInf ?_
      refine wpList_store_row rfl tCd _ _ rfl H _ rfl rfl tCd _ b0o cdInf rfl (by simp [Value.oneCell']) ?_
      refine wpList_nil ?_
      go_wp2_with fail
      refine bodyPost_ret (results_cell_row rfl _ _ H tCd _ (0, 0) _ rfl HEE.out.1 Try.underlying34 rfl cdInf) rfl ?_
      obtain ⟨hrow, b1o, hiN, hH, hb3, hbe⟩ := HF.out
      have hfin : ∀ g, g ≠ H → (wo.setRow H #[Value.string ⟨#[109, 97, 105, 110]⟩, .int .i64 1, .int .i64 0, .slice (some ⟨H + 1, 0, none⟩) 1 1, .slice bA i bc]).heap[g]? = wo.heap[g]? := fun g hg => setRow_other wo H g _ hg
      have hNi : es.length = i := by rw [HE.out.2.1, hiN]
      rw [List.take_of_length_le (by omega)] at hrow
      refine ⟨.slice (some ⟨H + 1, 0, none⟩) 1 1, .slice bA i bc, rfl, ⟨?_, ⟨H + 1 + 1 + 1, ?_⟩, HE.out.2.2⟩, ?_⟩
      · have hr1 : RwI wo (H + 1) (.slice (some ⟨H + 1, 0, none⟩) 1 1) [1] := ⟨1, [], rfl, by simp, by unfold maxLen; omega, b1o⟩
        exact ⟨H + 1, hr1.keep (hfin (H + 1) (by omega))⟩
      · rw [hNi]
        obtain ⟨h1, h2⟩ := hrow
        refine ⟨h1, ?_⟩
        rcases h2 with h2 | ⟨g, cap, cur, hv, hbs, hh, r⟩
        · exact .inl h2
        · exact .inr ⟨g, cap, cur, hv, hbs, (hfin g (by omega)).trans hh, r⟩
      · rw [← hH]
        exact hb3.trans ((hbe.mono (by omega)).trans HEE.out.2)
end Go.Proofs.Ytjmlpbnejcfnhaa
