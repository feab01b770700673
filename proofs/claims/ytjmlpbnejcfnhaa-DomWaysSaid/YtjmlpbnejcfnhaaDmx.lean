/-
  Layer dom: walks of clone.Block and clone.Code where no block has instructions.
-/
import Derived.Test.YtjmlpbnejcfnhaaDmw
namespace Go.Proofs.Ytjmlpbnejcfnhaa
open Go Go.RowKit Go.Maps
set_option linter.unusedVariables false
set_option linter.unusedSimpArgs false

theorem bloInf : (Try.prog.info? tBlo).map (·.size) = some 5 := by kernel_rfl
set_option maxHeartbeats 1000000 in
set_option maxRecDepth 100000 in
theorem cloneN_nil (w : World) : Calls Try.prog 69 #[.slice none 0 0] w fun e w' => e = .returned (.slice none 0 0) ∧ w = w' := by
  have q22 : ∀ (w : World) (a : Option Addr) (n c n' c' : Nat), (binOp .eql 44 (.slice a n c) (.slice none n' c')).run Try.prog w = .ok (.bool a.isNone) w := fun w a n c n' c' => Lib.run_eql_slice_nil w _ _ a n c n' c' Try.underlying44
  go_enter Try.func69, Try.ntmps69
  go_wp2_with fail
  go_ret
  exact ⟨rfl, rfl⟩
abbrev bcells (e : Eb) : Array Value := #[.slice none 0 0, .int .i64 e.k, .int .i64 e.a, .int .i64 e.to, .int .i64 e.el]
set_option maxHeartbeats 4000000 in
set_option maxRecDepth 100000 in
theorem cblock_any (e : Eb) (w : World) : Calls Try.prog 53 #[.agg (bcells e)] w fun r w' => r = .returned (.agg (bcells e)) ∧ Below w.heap.size w w' := by
  go_enter Try.func53, Try.ntmps53
  go_wp2_with fail
  refine (cloneN_nil _).mono ?_
  rintro r w1 ⟨rfl, rfl⟩
  go_wp2_with fail
  go_loopw [12] (fun v wr => v = .int .i64 0 ∧ wr = (w.alloc (.cells (bcells e) tBlo)).alloc (.cells #[.slice none 0 0, .int .i64 0, .int .i64 0, .int .i64 0, .int .i64 0] tBlo)) (fun v _ => 0)
  case atStart => exact ⟨rfl, rfl⟩
  case round =>
    obtain ⟨rfl, hwr⟩ := hrel
    have b0 : Blk wr w.heap.size tBlo (bcells e) := by rw [hwr]; exact (Blk.new w tBlo _).alloc _
    have b1 : Blk wr (w.heap.size + 1) tBlo #[.slice none 0 0, .int .i64 0, .int .i64 0, .int .i64 0, .int .i64 0] := by rw [hwr]; exact bN (by simp)
    have hb : Below w.heap.size w wr := by rw [hwr]; exact ((Below.refl _ w).alloc (Nat.le_refl _) _).alloc (by simp) _
    have HB := Lib.hid hb
    have hr4 := setRow_heap wr (w.heap.size + 1) _ (bcells e) tBlo (0, 0) b1
    have HEE := Lib.hid (And.intro hr4 (Go.below_setRow (B := w.heap.size) (w0 := wr) (Below.refl _ _) (show w.heap.size ≤ w.heap.size + 1 by omega) (bcells e)))
    clear hwr hb hr4
    go_upto_region 8 with (fail)
    refine wp_region_list ?_
    refine wpList_load_row rfl tBlo _ rfl w.heap.size rfl tBlo _ (0, 0) _ b0 Try.underlying46 rfl bloInf ?_
    refine wpList_store_row rfl tBlo _ _ rfl (w.heap.size + 1) _ rfl rfl tBlo _ b1 bloInf rfl (by simp [Value.oneCell']) ?_
    refine wpList_nil ?_
    go_wp2_with fail
    refine bodyPost_ret (results_cell_row rfl _ _ (w.heap.size + 1) tBlo _ (0, 0) _ rfl HEE.out.1 Try.underlying46 rfl bloInf) rfl ⟨rfl, HB.out.trans HEE.out.2⟩
theorem rdS_own {w : World} {base n sz : Nat} {t : TypeId} {v : Value} {xs : List Value} (h : w.ownsRow base t sz v n xs) : RdS w v n xs := by
  have hl := h.1
  rcases h.2 with ⟨rfl, rfl⟩ | ⟨g, cap, cur, rfl, h1, h2, h3⟩
  · exact ⟨none, 0, rfl, .inl ⟨rfl, by simpa using hl⟩⟩
  · refine ⟨_, cap, rfl, .inr ⟨g, 0, rfl, fun j u hj => ⟨(Array.getElem?_eq_some_iff.1 h2).1, ?_⟩⟩⟩
    rw [Nat.zero_add, h.cellAt j (by have := (List.getElem?_eq_some_iff.1 hj).1; omega)]
    exact hj
theorem bareC_one (es : List Eb) : ∀ u ∈ bareC es, u.oneCell' = true := by
  intro u hu
  unfold bareC at hu
  obtain ⟨e, -, hu⟩ := List.mem_flatMap.1 hu
  simp only [endC, List.mem_cons, List.not_mem_nil, or_false] at hu
  rcases hu with rfl | rfl | rfl | rfl | rfl <;> rfl
theorem row_same {w : World} {B sz n g cap j : Nat} {t : TypeId} {xs : List Value} {u : Value} (h : w.ownsRow B t sz (.slice (some ⟨g, 0, none⟩) n cap) n xs) (hj : xs[j]? = some u) : w.setCell ⟨g, j, none⟩ u = w := by
  rcases h.2 with ⟨e, _⟩ | ⟨g', cap', cur, e, hb, hg, h1, h2, h3, h4⟩
  · cases e
  simp only [Value.slice.injEq, Option.some.injEq, Addr.mk.injEq, and_true, true_and] at e
  obtain ⟨rfl, rfl⟩ := e
  have hjl := (List.getElem?_eq_some_iff.1 hj).1
  have hcj : cur[j]? = some u := by
    rw [← h4, List.getElem?_take] at hj
    split at hj
    · simpa using hj
    · cases hj
  have hcur : cur.setIfInBounds j u = cur := by
    apply Array.ext_getElem?
    intro m
    by_cases hm : j = m
    · subst hm
      rw [Array.getElem?_setIfInBounds_self_of_lt (Array.getElem?_eq_some_iff.1 hcj).1, hcj]
    · rw [Array.getElem?_setIfInBounds_ne hm]
  have eh : (w.setCell ⟨g, j, none⟩ u).heap = w.heap := by
    apply Array.ext_getElem?
    intro m
    by_cases hm : m = g
    · subst hm
      rw [heap_setCell_same w m j cur t u hg, hg, hcur]
    · exact heap_setCell_other w ⟨g, j, none⟩ m u hm
  calc w.setCell ⟨g, j, none⟩ u = { w with heap := (w.setCell ⟨g, j, none⟩ u).heap } := rfl
    _ = w := by rw [eh]
theorem str_main : str [109, 97, 105, 110] = ⟨#[109, 97, 105, 110]⟩ := rfl
abbrev cdz : Array Value := #[.string ⟨#[]⟩, .int .i64 0, .int .i64 0, .slice none 0 0, .slice none 0 0]
set_option maxHeartbeats 4000000 in
set_option maxRecDepth 100000 in
theorem ccode_any {w : World} {es : List Eb} {rv bv : Value} (h : BaR w rv bv es) (hm : es.length ≤ 400) :
    Calls Try.prog 38 #[.agg (codA (dcod es) rv bv)] w fun r w' => ∃ rv' bv', r = .returned (.agg (codA (dcod es) rv' bv')) ∧ BaR w' rv' bv' es ∧ Below w.heap.size w w' := by
  obtain ⟨rA, rc, rfl⟩ : ∃ A c, rv = .slice A 1 c := by obtain ⟨A, c, e, _⟩ := h.r; exact ⟨A, c, e⟩
  obtain ⟨base, hown⟩ := h.b
  obtain ⟨bA, bc, rfl⟩ : ∃ A c, bv = .slice A es.length c := by
    rcases hown.2 with ⟨rfl, e⟩ | ⟨g, cap, cur, rfl, _⟩
    · exact ⟨_, _, by rw [e]⟩
    · exact ⟨_, _, rfl⟩
  obtain ⟨N, hN⟩ : ∃ N, es.length = N := ⟨_, rfl⟩
  rw [hN] at hm hown ⊢
  obtain ⟨H, hH⟩ : ∃ x, x = w.heap.size := ⟨_, rfl⟩
  obtain ⟨W2, hW2⟩ : ∃ x, x = (w.alloc (.cells #[.string ⟨#[109, 97, 105, 110]⟩, .int .i64 1, .int .i64 0, .slice rA 1 rc, .slice bA N bc] tCd)).alloc (.cells cdz tCd) := ⟨_, rfl⟩
  have hb2 : Below H w W2 := by rw [hW2, hH]; exact ((Below.refl _ w).alloc (Nat.le_refl _) _).alloc (by simp) _
  have b0 : Blk W2 H tCd #[.string ⟨#[109, 97, 105, 110]⟩, .int .i64 1, .int .i64 0, .slice rA 1 rc, .slice bA N bc] := by rw [hW2, hH]; exact (Blk.new w tCd _).alloc _
  have b1 : Blk W2 (H + 1) tCd cdz := by rw [hW2, hH]; exact bN (by simp)
  have hz2 : W2.heap.size = H + 1 + 1 := by rw [hW2, hH]; simp
  have HS := Lib.hid (sclone_any [109, 97, 105, 110] (by simp) W2)
  rw [str_main] at HS
  have HH := Lib.hid (And.intro h.r (And.intro hown (And.intro h.w hN)))
  have HW := Lib.hid (And.intro hb2 (And.intro b0 (And.intro b1 (And.intro hz2 hH))))
  have c0 : W2.cell? ⟨H, 0, none⟩ = some (.string ⟨#[109, 97, 105, 110]⟩) := b0.cell 0
  have l0 := b0.lt
  have HW2 := Lib.hid hW2
  clear h hown hN hb2 b0 b1 hz2 hH hW2
  unfold codA dcod
  simp only [str_main]
  go_enter Try.func38, Try.ntmps38
  go_upto_region 1 with (fail)
  rw [← HW2.out, ← HW.out.2.2.2.2]
  go_wp2_with fail
  refine HS.out.mono ?_
  rintro e w3 ⟨rfl, hb3⟩
  have b03 := HW.out.2.1.on hb3
  have d0 : w3.cell? ⟨H, 0, none⟩ = some (.string ⟨#[109, 97, 105, 110]⟩) := b03.cell 0
  have f0 := b03.frozen 0
  have m0 := b03.lt
  -- the name is stored again
  have b04 := b03.set_ 0 (.string ⟨#[109, 97, 105, 110]⟩)
  obtain ⟨w4, hw4⟩ : ∃ x, x = w3.setCell ⟨H, 0, none⟩ (.string ⟨#[109, 97, 105, 110]⟩) := ⟨_, rfl⟩
  rw [← hw4] at b04
  have hb4 : Below H W2 w4 := by rw [hw4]; exact (hb3.mono (show H ≤ W2.heap.size by have h9 := HW.out.2.2.2.1; omega)).setCell (p := ⟨H, 0, none⟩) (Nat.le_refl _) _
  have b14 : Blk w4 (H + 1) tCd cdz := by rw [hw4]; exact (HW.out.2.2.1.on hb3).far (p := ⟨H, 0, none⟩) (by simp) _
  have hr4 : RdV w4 w4.heap.size (.slice rA 1 rc) [1] := by
    have h9 := HH.out.1
    have h8 : Below w.heap.size w w4 := by rw [← HW.out.2.2.2.2]; exact HW.out.1.trans hb4
    exact h9.on h8
  have HCL := Lib.hid (iclone_any hr4 (by simp) (by simp))
  have H4 := Lib.hid (And.intro hb4 (And.intro b04 b14))
  have HW4 := Lib.hid hw4
  have c3 : w4.cell? ⟨H, 3, none⟩ = some (.slice rA 1 rc) := b04.cell 3
  have l4 := b04.lt
  clear hb3 b03 hw4 hb4 b04 b14 hr4 HS c0 l0
  go_upto_region 2 with (fail)
  rw [← HW4.out]
  go_wp2_with fail
  refine HCL.out.mono ?_
  rintro e w5 ⟨rv', rb, rfl, hrb, hrr, hb5⟩
  obtain ⟨rcap, rfl, hrl, hrm⟩ := hrr.sl
  have b05 := H4.out.2.1.on hb5
  have f3 := b05.frozen 3
  have m3 := b05.lt
  have d3 : w5.cell? ⟨H, 3, none⟩ = some (.slice rA 1 rc) := b05.cell 3
  have b06 := b05.set_ 3 (.slice (some ⟨rb, 0, none⟩) 1 rcap)
  obtain ⟨w6, hw6⟩ : ∃ x, x = w5.setCell ⟨H, 3, none⟩ (.slice (some ⟨rb, 0, none⟩) 1 rcap) := ⟨_, rfl⟩
  rw [← hw6] at b06
  have hz4 : H < w4.heap.size := H4.out.2.1.lt
  have hb6 : Below H W2 w6 := by rw [hw6]; exact (H4.out.1.trans (hb5.mono (show H ≤ w4.heap.size by omega))).setCell (p := ⟨H, 3, none⟩) (Nat.le_refl _) _
  have b16 : Blk w6 (H + 1) tCd cdz := by rw [hw6]; exact (H4.out.2.2.on hb5).far (p := ⟨H, 3, none⟩) (by simp) _
  have hr6 : RwI w6 rb (.slice (some ⟨rb, 0, none⟩) 1 rcap) [1] := by rw [hw6]; exact hrr.far (p := ⟨H, 3, none⟩) (by show rb ≠ H; omega) _
  have hrbW : H + 1 < rb := by
    have h9 := H4.out.2.2.lt
    have h8 : H + 1 < w4.heap.size := h9
    omega
  have ho6 : w6.ownsRow base tBlo 5 (.slice bA N bc) N (bareC es) := by
    have h8 : Below w.heap.size w w6 := by rw [← HW.out.2.2.2.2]; exact HW.out.1.trans hb6
    exact own_on HH.out.2.1 h8
  have HCB := Lib.hid (cloneCnB_any (rdS_own ho6) (by rw [bareC_len, HH.out.2.2.2]) (by omega) (bareC_one es))
  have H6 := Lib.hid (And.intro hb6 (And.intro b06 (And.intro b16 (And.intro hr6 hrbW))))
  have HW6 := Lib.hid hw6
  have c4 : w6.cell? ⟨H, 4, none⟩ = some (.slice bA N bc) := b06.cell 4
  have l6 := b06.lt
  clear hrr hb5 b05 hw6 hb6 b06 b16 hr6 ho6 HCL hrb hz4 c3 l4
  go_upto_region 3 with (fail)
  rw [← HW6.out]
  go_wp2_with fail
  refine HCB.out.mono ?_
  rintro e w7 ⟨bv', rfl, ho7, hnn, hb7⟩
  have b07 := H6.out.2.1.on hb7
  have f4 := b07.frozen 4
  have m4 := b07.lt
  have d4 : w7.cell? ⟨H, 4, none⟩ = some (.slice bA N bc) := b07.cell 4
  obtain ⟨vA, vc, rfl⟩ : ∃ A c, bv' = .slice A N c := by
    rcases ho7.2 with ⟨rfl, e⟩ | ⟨g, cap, cur, rfl, _⟩
    · exact ⟨_, _, by rw [e]⟩
    · exact ⟨_, _, rfl⟩
  have b08 := b07.set_ 4 (.slice vA N vc)
  obtain ⟨w8, hw8⟩ : ∃ x, x = w7.setCell ⟨H, 4, none⟩ (.slice vA N vc) := ⟨_, rfl⟩
  rw [← hw8] at b08
  have hz6 : H < w6.heap.size := H6.out.2.1.lt
  have hb8 : Below H W2 w8 := by rw [hw8]; exact (H6.out.1.trans (hb7.mono (show H ≤ w6.heap.size by omega))).setCell (p := ⟨H, 4, none⟩) (Nat.le_refl _) _
  have b18 : Blk w8 (H + 1) tCd cdz := by rw [hw8]; exact (H6.out.2.2.1.on hb7).far (p := ⟨H, 4, none⟩) (by simp) _
  have hr8 : RwI w8 rb (.slice (some ⟨rb, 0, none⟩) 1 rcap) [1] := by rw [hw8]; exact (H6.out.2.2.2.1.on hb7).far (p := ⟨H, 4, none⟩) (by show rb ≠ H; have := H6.out.2.2.2.2; omega) _
  have ho8 : w8.ownsRow w6.heap.size tBlo 5 (.slice vA N vc) N (bareC es) := by
    obtain ⟨h1, h2⟩ := ho7
    refine ⟨h1, ?_⟩
    rcases h2 with h2 | ⟨g, cap, cur, hv, hbs, hh, r⟩
    · exact .inl h2
    · exact .inr ⟨g, cap, cur, hv, hbs, by rw [hw8]; exact (Below.heap_setCell w7 ⟨H, 4, none⟩ _ g (by show g ≠ H; omega)).trans hh, r⟩
  have H8 := Lib.hid (And.intro hb8 (And.intro b08 (And.intro b18 (And.intro hr8 ho8))))
  have HW8 := Lib.hid hw8
  have c48 : w8.cell? ⟨H, 4, none⟩ = some (.slice vA N vc) := b08.cell 4
  have l8 := b08.lt
  clear hb7 b07 hw8 hb8 b08 b18 hr8 ho8 ho7 hnn HCB hz6 c4 l6
  go_upto_region 4 with (fail)
  rw [← HW8.out]
  go_wp2_with fail
  go_loopw [19] (fun v wr => ∃ (k : Nat), k ≤ N ∧ v = .int .i64 (k : Nat) ∧ Below w8.heap.size w8 wr) (fun v _ => N - (intOf v).toNat)
  case atStart => exact ⟨0, by omega, rfl, Below.refl _ _⟩
  case round =>
    obtain ⟨k, hk, rfl, hbe⟩ := hrel
    obtain ⟨wo, hwo⟩ : ∃ x, x = wr := ⟨_, rfl⟩
    subst hwo
    have b0o : Blk wo H tCd #[.string ⟨#[109, 97, 105, 110]⟩, .int .i64 1, .int .i64 0, .slice (some ⟨rb, 0, none⟩) 1 rcap, .slice vA N vc] := H8.out.2.1.on hbe
    have b1o := H8.out.2.2.1.on hbe
    have hoo := own_on H8.out.2.2.2.2 hbe
    by_cases hkn : k < N
    · have hk2 : k < es.length := by rw [HH.out.2.2.2]; exact hkn
      obtain ⟨e, hx⟩ : ∃ e, es[k]? = some e := ⟨_, List.getElem?_eq_getElem hk2⟩
      obtain ⟨g, rfl⟩ : ∃ g, vA = some ⟨g, 0, none⟩ := by
        rcases hoo.2 with ⟨_, e9⟩ | ⟨g, cap, cur, e9, _⟩
        · omega
        · simp only [Value.slice.injEq] at e9
          exact ⟨g, e9.1⟩
      have hcell : ∀ W, Below wo.heap.size wo W → ∀ j u, j < 5 → (Value.slice none 0 0 :: endC e)[j]? = some u → W.cell? ⟨g, k * 5 + j, none⟩ = some u := fun W hW j u hj hu => by
        have h9 := own_on hoo hW
        rw [h9.cellAt (k * 5 + j) (by omega), bareC_at es k j e hx hj]
        exact hu
      have hfz : ∀ W, Below wo.heap.size wo W → ∀ j, W.frozen? ⟨g, k * 5 + j, none⟩ = false := fun W hW j => by
        have h9 := own_on hoo hW
        rcases h9.2 with ⟨e9, _⟩ | ⟨g', cap, cur, e9, hb9, hh9, _⟩
        · cases e9
        · simp only [Value.slice.injEq, Option.some.injEq, Addr.mk.injEq, and_true, true_and] at e9
          obtain ⟨rfl, rfl⟩ := e9
          exact Blk.frozen (t := tBlo) (cs := cur) hh9 _
      have hgl : g < wo.heap.size := own_lt5 hoo rfl |>.1
      have e0 : wo.cell? ⟨g, k * 5, none⟩ = some (.slice none 0 0) := hcell wo (Below.refl _ _) 0 _ (by omega) rfl
      have e1 : wo.cell? ⟨g, k * 5 + 1, none⟩ = some (.int .i64 e.k) := hcell wo (Below.refl _ _) 1 _ (by omega) rfl
      have e2 : wo.cell? ⟨g, k * 5 + 2, none⟩ = some (.int .i64 e.a) := hcell wo (Below.refl _ _) 2 _ (by omega) rfl
      have e3 : wo.cell? ⟨g, k * 5 + 3, none⟩ = some (.int .i64 e.to) := hcell wo (Below.refl _ _) 3 _ (by omega) rfl
      have e4 : wo.cell? ⟨g, k * 5 + 4, none⟩ = some (.int .i64 e.el) := hcell wo (Below.refl _ _) 4 _ (by omega) rfl
      have eb : wo.cell? ⟨H, 4, none⟩ = some (.slice (some ⟨g, 0, none⟩) N vc) := b0o.cell 4
      have lb := b0o.lt
      have HCB := Lib.hid (cblock_any e)
      have HR := Lib.hid (And.intro hbe (And.intro hcell (And.intro hfz (And.intro hoo hx))))
      clear hbe hcell hfz hoo hx b0o b1o hk2 d0 f0 m0 d3 f3 m3 d4 f4 m4 c48 l8
      go_upto_region 7 with (fail)
      refine wp_region_held_drew (S := (fun (Wx : World) => Wx.cell? ⟨H, 4, none⟩ = some (.slice (some ⟨g, 0, none⟩) N vc) ∧ Wx.cell? ⟨g, k * 5, none⟩ = some (.slice none 0 0) ∧ Wx.cell? ⟨g, k * 5 + 1, none⟩ = some (.int .i64 e.k) ∧ Wx.cell? ⟨g, k * 5 + 2, none⟩ = some (.int .i64 e.a) ∧ Wx.cell? ⟨g, k * 5 + 3, none⟩ = some (.int .i64 e.to) ∧ Wx.cell? ⟨g, k * 5 + 4, none⟩ = some (.int .i64 e.el) ∧ H < Wx.heap.size ∧ g < Wx.heap.size)) (by kernel_rfl) (by exact ⟨eb, e0, e1, e2, e3, e4, lb, hgl⟩) (fun hHeld => ?_)
      refine tQ 0 hHeld ?_
      refine tQ 1 hHeld ?_
      refine tQ 2 hHeld ?_
      refine tQ 3 hHeld ?_
      refine tQ 4 hHeld ?_
      refine tQ 5 hHeld ?_
      refine tQ 6 hHeld ?_
      refine tQ 7 hHeld ?_
      try simp only [Act.put, List.setIfInBounds_toArray, List.set_cons_zero, List.set_cons_succ]
      refine oneL (i := 8) rfl (by kernel_rfl) (fun K hK => ?_)
      go_simp
      refine (HCB.out _).mono ?_
      rintro r w9 ⟨rfl, hb9'⟩
      have hb9 : Below wo.heap.size wo w9 := (below_drewN _ _ 1).trans hb9'
      have g0 : w9.cell? ⟨g, k * 5, none⟩ = some (.slice none 0 0) := HR.out.2.1 w9 hb9 0 _ (by omega) rfl
      have g1 : w9.cell? ⟨g, k * 5 + 1, none⟩ = some (.int .i64 e.k) := HR.out.2.1 w9 hb9 1 _ (by omega) rfl
      have g2 : w9.cell? ⟨g, k * 5 + 2, none⟩ = some (.int .i64 e.a) := HR.out.2.1 w9 hb9 2 _ (by omega) rfl
      have g3 : w9.cell? ⟨g, k * 5 + 3, none⟩ = some (.int .i64 e.to) := HR.out.2.1 w9 hb9 3 _ (by omega) rfl
      have g4 : w9.cell? ⟨g, k * 5 + 4, none⟩ = some (.int .i64 e.el) := HR.out.2.1 w9 hb9 4 _ (by omega) rfl
      have z0 : w9.frozen? ⟨g, k * 5, none⟩ = false := HR.out.2.2.1 w9 hb9 0
      have z1 := HR.out.2.2.1 w9 hb9 1
      have z2 := HR.out.2.2.1 w9 hb9 2
      have z3 := HR.out.2.2.1 w9 hb9 3
      have z4 := HR.out.2.2.1 w9 hb9 4
      have gb : w9.cell? ⟨H, 4, none⟩ = some (.slice (some ⟨g, 0, none⟩) N vc) := (hb9.cell (p := ⟨H, 4, none⟩) lb).trans eb
      have gl : g < w9.heap.size := Nat.lt_of_lt_of_le hgl hb9.size
      have gH : H < w9.heap.size := Nat.lt_of_lt_of_le lb hb9.size
      have H9 := Lib.hid hb9
      clear hb9 hb9' hHeld e0 e1 e2 e3 e4 eb
      refine hK.out _ _ ⟨gb, g0, g1, g2, g3, g4, gH, gl⟩ (fun hHeld => ?_)
      clear hK K
      try simp only [Act.put, List.setIfInBounds_toArray, List.set_cons_zero, List.set_cons_succ]
      refine tQ 9 hHeld ?_
      try simp only [Act.put, List.setIfInBounds_toArray, List.set_cons_zero, List.set_cons_succ]
      refine oneL (i := 10) rfl (by kernel_rfl) (fun K hK => ?_)
      go_simp
      have ho9 := own_on HR.out.2.2.2.1 H9.out
      have hat : ∀ j u, j < 5 → (Value.slice none 0 0 :: endC e)[j]? = some u → (bareC es)[k * 5 + j]? = some u := fun j u hj hu => (bareC_at es k j e HR.out.2.2.2.2 hj).trans hu
      rw [show w9.setCell ⟨g, k * 5, none⟩ (.slice none 0 0) = w9 from row_same ho9 (hat 0 _ (by omega) rfl)]
      rw [show w9.setCell ⟨g, k * 5 + 1, none⟩ (.int .i64 e.k) = w9 from row_same ho9 (hat 1 _ (by omega) rfl)]
      rw [show w9.setCell ⟨g, k * 5 + 2, none⟩ (.int .i64 e.a) = w9 from row_same ho9 (hat 2 _ (by omega) rfl)]
      rw [show w9.setCell ⟨g, k * 5 + 3, none⟩ (.int .i64 e.to) = w9 from row_same ho9 (hat 3 _ (by omega) rfl)]
      rw [show w9.setCell ⟨g, k * 5 + 4, none⟩ (.int .i64 e.el) = w9 from row_same ho9 (hat 4 _ (by omega) rfl)]
      clear ho9 hat hHeld
      refine hK.out _ _ ⟨gb, g0, g1, g2, g3, g4, gH, gl⟩ (fun hHeld => ?_)
      clear hK K
      try simp only [Act.put, List.setIfInBounds_toArray, List.set_cons_zero, List.set_cons_succ]
      refine wpAnyH_done (by kernel_rfl) ?_ _
      go_wp2_with fail
      go_roundw
      case rel => exact ⟨k + 1, by omega, by go_num, HR.out.1.trans (H9.out.mono HR.out.1.size)⟩
      case measure => simp [intOf]; omega
    · have hr4 := setRow_heap wo (H + 1) cdz #[.string ⟨#[109, 97, 105, 110]⟩, .int .i64 1, .int .i64 0, .slice (some ⟨rb, 0, none⟩) 1 rcap, .slice vA N vc] tCd (0, 0) b1o
      have HEE := Lib.hid (And.intro hr4 (Go.below_setRow (B := H) (w0 := wo) (Below.refl _ _) (show H ≤ H + 1 by omega) #[.string ⟨#[109, 97, 105, 110]⟩, .int .i64 1, .int .i64 0, .slice (some ⟨rb, 0, none⟩) 1 rcap, .slice vA N vc]))
      have hrr := H8.out.2.2.2.1.on hbe
      have HF := Lib.hid (And.intro hbe (And.intro hoo hrr))
      have h1o := b1o.lt
      clear hr4 hbe hoo hrr d0 f0 m0 d3 f3 m3 d4 f4 m4 c48 l8
      go_upto_region 9 with (fail)
      refine wp_region_list ?_
      refine wpList_load_row rfl tCd _ rfl H rfl tCd _ (0, 0) _ b0o Try.underlying34 rfl cdInf ?_
      refine wpList_store_row rfl tCd _ _ rfl (H + 1) _ rfl rfl tCd _ b1o cdInf rfl (by simp [Value.oneCell']) ?_
      refine wpList_nil ?_
      go_wp2_with fail
      refine bodyPost_ret (results_cell_row rfl _ _ (H + 1) tCd _ (0, 0) _ rfl HEE.out.1 Try.underlying34 rfl cdInf) rfl ?_
      obtain ⟨hbe, hoo, hrr⟩ := HF.out
      have hfin : ∀ g, g ≠ H + 1 → (wo.setRow (H + 1) #[.string ⟨#[109, 97, 105, 110]⟩, .int .i64 1, .int .i64 0, .slice (some ⟨rb, 0, none⟩) 1 rcap, .slice vA N vc]).heap[g]? = wo.heap[g]? := fun g hg => setRow_other wo (H + 1) g _ hg
      have hrb9 := H6.out.2.2.2.2
      have hz6 : H + 1 < w6.heap.size := H6.out.2.2.1.lt
      refine ⟨_, _, rfl, ⟨⟨rb, hrr.keep (hfin rb (by omega))⟩, ⟨w6.heap.size, ?_⟩, HH.out.2.2.1⟩, ?_⟩
      · rw [HH.out.2.2.2]
        obtain ⟨h1, h2⟩ := hoo
        refine ⟨h1, ?_⟩
        rcases h2 with h2 | ⟨g, cap, cur, hv, hbs, hh, r⟩
        · exact .inl h2
        · exact .inr ⟨g, cap, cur, hv, hbs, (hfin g (by omega)).trans hh, r⟩
      · have h9 := HW.out.2.2.2.2
        rw [← h9]
        exact HW.out.1.trans (H8.out.1.trans ((hbe.mono (by have := H8.out.2.1.lt; omega)).trans HEE.out.2))
end Go.Proofs.Ytjmlpbnejcfnhaa
