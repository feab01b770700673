/-
  Layer dom: walk of withBlocks where no block has instructions.
-/
import Derived.Test.YtjmlpbnejcfnhaaDmx
namespace Go.Proofs.Ytjmlpbnejcfnhaa
open Go Go.RowKit Go.Maps
set_option linter.unusedVariables false
set_option linter.unusedSimpArgs false

theorem bareC_set (l : List Eb) (i : Nat) (e : Eb) (hi : i < l.length) : (((((bareC l).set (i * 5) (.slice none 0 0)).set (i * 5 + 1) (.int .i64 e.k)).set (i * 5 + 2) (.int .i64 e.a)).set (i * 5 + 3) (.int .i64 e.to)).set (i * 5 + 4) (.int .i64 e.el) = bareC (l.set i e) := by
  induction l generalizing i with
  | nil => simp at hi
  | cons a l ih =>
    have ea : ∀ (a : Eb) (l : List Eb), bareC (a :: l) = .slice none 0 0 :: .int .i64 a.k :: .int .i64 a.a :: .int .i64 a.to :: .int .i64 a.el :: bareC l := fun a l => by simp [bareC, endC]
    cases i with
    | zero => simp [ea]
    | succ i =>
      have h1 := ih i (by simpa using hi)
      rw [List.set_cons_succ, ea, ea, ← h1]
      have e2 : (i + 1) * 5 = i * 5 + 5 := by omega
      rw [e2]
      simp
theorem blkInfo : (Try.prog.info? tBlo).map (fun i => (i.zero, i.size, i.bytes)) = some (some (.agg #[.slice none 0 0, .int .i64 0, .int .i64 0, .int .i64 0, .int .i64 0]), 5, 56) := by kernel_rfl
theorem made_blks (n : Nat) : madeCells (Value.agg #[.slice none 0 0, .int .i64 0, .int .i64 0, .int .i64 0, .int .i64 0]).cells (n * 5) = (bareC (List.replicate n eb0)).toArray := by
  apply Array.ext'
  apply List.ext_getElem?
  intro j
  have hl := bareC_len (List.replicate n eb0)
  rw [List.length_replicate] at hl
  by_cases hj : j < n * 5
  · have h1 : (List.replicate n eb0)[j / 5]? = some eb0 := by rw [List.getElem?_replicate, if_pos (by omega)]
    have h2 := bareC_at _ (j / 5) (j % 5) eb0 h1 (by omega)
    rw [show j / 5 * 5 + j % 5 = j by omega] at h2
    have h3 : j % 5 = 0 ∨ j % 5 = 1 ∨ j % 5 = 2 ∨ j % 5 = 3 ∨ j % 5 = 4 := by omega
    show _ = (bareC (List.replicate n eb0))[j]?
    rw [h2]
    have hz : (Value.agg #[.slice none 0 0, .int .i64 0, .int .i64 0, .int .i64 0, .int .i64 0]).cells = #[.slice none 0 0, .int .i64 0, .int .i64 0, .int .i64 0, .int .i64 0] := by kernel_rfl
    rcases h3 with h3 | h3 | h3 | h3 | h3 <;> (simp [madeCells, hz, h3, hj, endC, eb0])
  · show _ = (bareC (List.replicate n eb0))[j]?
    rw [List.getElem?_eq_none (l := bareC _) (by omega)]
    simp [madeCells, hj]
theorem make_blks (n : Nat) (hn : n ≤ 1000) (W : World) : (Instr.makeSlice 32 (.int .i64 n) (.int .i64 n)).run Try.prog W = .ok (.slice (some ⟨W.heap.size, 0, none⟩) n n) (W.alloc (.cells (bareC (List.replicate n eb0)).toArray tBlo)) := by
  obtain ⟨ib, hib, hbz0, hbz1, hbz2⟩ := info_parts blkInfo
  have hb : (ib.bytes : Int) * (n : Int) ≤ 281474976710656 := by rw [hbz2]; omega
  have hr := run_make (P := Try.prog) W 32 tBlo ib _ Try.underlying32 hib hbz0 .i64 .i64 n n (by omega) (Int.le_refl _) hb (by omega)
  simp only [Int.toNat_natCast, hbz1, made_blks] at hr
  exact hr
theorem own_blk {w : World} {b n base : Nat} {l : List Eb} (h : Blk w b tBlo (bareC l).toArray) (hl : l.length = n) (hn : n ≤ 1000) (hb : base ≤ b) : w.ownsRow base tBlo 5 (.slice (some ⟨b, 0, none⟩) n n) n (bareC l) := by
  have h5 := bareC_len l
  refine ⟨by rw [h5, hl], .inr ⟨b, n, _, rfl, hb, h, Nat.le_refl _, by unfold maxLen; omega, by simp [h5, hl], ?_⟩⟩
  show (bareC l).take (n * 5) = bareC l
  exact List.take_of_length_le (by omega)
set_option maxHeartbeats 4000000 in
set_option maxRecDepth 100000 in
theorem withBlocks_any {w : World} {es0 es : List Eb} {os : List Nat} {rv bv ov ev : Value} {ob eb : Nat} (h : BaR w rv bv es0) (ho : RwI w ob ov (nz os)) (he : RwE w eb ev es) (hw : ∀ e ∈ es, e.w) (hl : os.length = es.length) (hm : es.length ≤ 400) (hlt : ∀ o ∈ os, o < es0.length) :
    Calls Try.prog 27 #[.agg (codA (dcod es0) rv bv), ov, ev] w fun r w' => ∃ rv' bv', r = .returned (.agg (codA (dcod es) rv' bv')) ∧ BaR w' rv' bv' es ∧ Below w.heap.size w w' := by
  obtain ⟨rA, rc, rfl⟩ : ∃ A c, rv = .slice A 1 c := by obtain ⟨A, c, e, _⟩ := h.r; exact ⟨A, c, e⟩
  obtain ⟨base, hown⟩ := h.b
  obtain ⟨N0, hN0⟩ : ∃ N, es0.length = N := ⟨_, rfl⟩
  rw [hN0] at hown hlt
  obtain ⟨bA, bc, rfl⟩ : ∃ A c, bv = .slice A N0 c := by
    rcases hown.2 with ⟨rfl, e⟩ | ⟨g, cap, cur, rfl, _⟩
    · exact ⟨_, _, by rw [e]⟩
    · exact ⟨_, _, rfl⟩
  obtain ⟨ocap, rfl, hoc, hom⟩ := ho.sl
  obtain ⟨ecap, rfl, hec, hem⟩ := he.sl
  obtain ⟨N, hN⟩ : ∃ N, es.length = N := ⟨_, rfl⟩
  have hnz : (nz os).length = N := by simp only [nz, List.length_map]; omega
  rw [hnz] at ho hoc ⊢
  rw [hN] at he hec hm hl ⊢
  obtain ⟨H, hH⟩ : ∃ x, x = w.heap.size := ⟨_, rfl⟩
  obtain ⟨W2, hW2⟩ : ∃ x, x = (w.alloc (.cells #[.string ⟨#[109, 97, 105, 110]⟩, .int .i64 1, .int .i64 0, .slice rA 1 rc, .slice bA N0 bc] tCd)).alloc (.cells cdz tCd) := ⟨_, rfl⟩
  have hb2 : Below H w W2 := by rw [hW2, hH]; exact ((Below.refl _ w).alloc (Nat.le_refl _) _).alloc (by simp) _
  have b0 : Blk W2 H tCd #[.string ⟨#[109, 97, 105, 110]⟩, .int .i64 1, .int .i64 0, .slice rA 1 rc, .slice bA N0 bc] := by rw [hW2, hH]; exact (Blk.new w tCd _).alloc _
  have b1 : Blk W2 (H + 1) tCd cdz := by rw [hW2, hH]; exact bN (by simp)
  have hz2 : W2.heap.size = H + 1 + 1 := by rw [hW2, hH]; simp
  have hmk := fun W => make_blks N (by omega) W
  have HH := Lib.hid (And.intro h.r0 (And.intro hown (And.intro ho (And.intro he (And.intro hw (And.intro hlt (And.intro hN (And.intro hl hN0))))))))
  have HW := Lib.hid (And.intro hb2 (And.intro b0 (And.intro b1 (And.intro hz2 hH))))
  have HW2 := Lib.hid hW2
  have l0 := b0.lt
  clear h hown hN hb2 b0 b1 hz2 hH hW2 ho he hw hlt hl hN0 hnz hoc hom hem
  unfold codA dcod
  simp only [str_main]
  go_enter Try.func27, Try.ntmps27
  go_upto_region 1 with (fail)
  rw [← HW2.out, ← HW.out.2.2.2.2]
  go_wp2_with fail
  obtain ⟨nb, hnb⟩ : ∃ x, x = W2.heap.size := ⟨_, rfl⟩
  obtain ⟨W3, hW3⟩ : ∃ x, x = W2.alloc (.cells (bareC (List.replicate N eb0)).toArray tBlo) := ⟨_, rfl⟩
  rw [← hW3, ← hnb]
  have hn3 : Blk W3 nb tBlo (bareC (List.replicate N eb0)).toArray := by rw [hW3, hnb]; exact Blk.new W2 tBlo _
  have hb3 : Below nb W2 W3 := by rw [hW3, hnb]; exact (Below.refl _ _).alloc (Nat.le_refl _) _
  have hnH : nb = H + 1 + 1 := by rw [hnb]; exact HW.out.2.2.2.1
  have H3 := Lib.hid (And.intro hn3 (And.intro hb3 (And.intro hnb hnH)))
  clear hn3 hb3 hW3 hnb hnH
  go_loopw [15] (fun v wr => ∃ (k : Nat) (l : List Eb), k ≤ N ∧ v = .int .i64 (k : Nat) ∧ l.length = N ∧ (∀ i, i < k → l[i]? = es[i]?) ∧ Blk wr nb tBlo (bareC l).toArray ∧ Below nb W3 wr) (fun v _ => N - (intOf v).toNat)
  case atStart => exact ⟨0, _, by omega, rfl, by simp, fun i hi => by omega, H3.out.1, Below.refl _ _⟩
  case round =>
    obtain ⟨k, l, hk, rfl, hll, hle, hbl, hbe⟩ := hrel
    obtain ⟨wo, hwo⟩ : ∃ x, x = wr := ⟨_, rfl⟩
    subst hwo
    obtain ⟨hn3, hb3, hnb, hnH⟩ := H3.out
    obtain ⟨hb2, b0, b1, hz2, hH⟩ := HW.out
    have hbo : Below w.heap.size w wo := by rw [← hH]; exact hb2.trans ((hb3.mono (by omega)).trans (hbe.mono (by omega)))
    have b0o := (b0.below hb3 (by omega)).below hbe (by omega)
    have b1o := (b1.below hb3 (by omega)).below hbe (by omega)
    by_cases hkn : k < N
    · obtain ⟨e, hx⟩ : ∃ e, es[k]? = some e := ⟨_, List.getElem?_eq_getElem (by rw [HH.out.2.2.2.2.2.2.1]; exact hkn)⟩
      obtain ⟨o, hox⟩ : ∃ o, os[k]? = some o := ⟨_, List.getElem?_eq_getElem (by rw [HH.out.2.2.2.2.2.2.2.1]; exact hkn)⟩
      have hoN := HH.out.2.2.2.2.2.1 o (List.mem_of_getElem? hox)
      obtain ⟨e0, he0⟩ : ∃ e, es0[o]? = some e := ⟨_, List.getElem?_eq_getElem (by rw [HH.out.2.2.2.2.2.2.2.2]; exact hoN)⟩
      obtain ⟨y, hy⟩ : ∃ y, l[k]? = some y := ⟨_, List.getElem?_eq_getElem (by rw [hll]; exact hkn)⟩
      have hoo := own_on HH.out.2.1 hbo
      obtain ⟨g, rfl⟩ : ∃ g, bA = some ⟨g, 0, none⟩ := by
        rcases hoo.2 with ⟨_, e9⟩ | ⟨g, cap, cur, e9, _⟩
        · omega
        · simp only [Value.slice.injEq] at e9
          exact ⟨g, e9.1⟩
      have c0 : wo.cell? ⟨g, o * 5, none⟩ = some (.slice none 0 0) := by
        have h9 := hoo.cellAt (o * 5 + 0) (by omega)
        rw [bareC_at es0 o 0 e0 he0 (by omega)] at h9
        exact h9
      have hgo : g < w.heap.size ∧ base ≤ g := own_lt5 HH.out.2.1 rfl
      have hlg : g < wo.heap.size := Nat.lt_of_lt_of_le hgo.1 hbo.size
      have ho1 := HH.out.2.2.1.on hbo
      have he1 := HH.out.2.2.2.1.on hbo
      have hel : eb < w.heap.size := HH.out.2.2.2.1.lt
      have c1 : wo.cell? ⟨ob, k, none⟩ = some (.int .i64 (o : Nat)) := ho1.cell (nz_at hox)
      obtain ⟨c2, c3, c4, c5⟩ := he1.cells hx
      have cb : wo.cell? ⟨H, 4, none⟩ = some (.slice (some ⟨g, 0, none⟩) N0 bc) := b0o.cell 4
      have lH := b0o.lt
      have lo := ho1.lt
      have le := he1.lt
      have ln := hbl.lt
      have hyc : ∀ j, j < 5 → wo.cell? ⟨nb, k * 5 + j, none⟩ = (Value.slice none 0 0 :: endC y)[j]? := fun j hj => by
        rw [hbl.cell, List.getElem?_toArray]
        exact bareC_at l k j y hy hj
      have q0 : wo.cell? ⟨nb, k * 5, none⟩ = some (.slice none 0 0) := hyc 0 (by omega)
      have q1 : wo.cell? ⟨nb, k * 5 + 1, none⟩ = some (.int .i64 y.k) := hyc 1 (by omega)
      have q2 : wo.cell? ⟨nb, k * 5 + 2, none⟩ = some (.int .i64 y.a) := hyc 2 (by omega)
      have q3 : wo.cell? ⟨nb, k * 5 + 3, none⟩ = some (.int .i64 y.to) := hyc 3 (by omega)
      have q4 : wo.cell? ⟨nb, k * 5 + 4, none⟩ = some (.int .i64 y.el) := hyc 4 (by omega)
      have z0 := hbl.frozen (k * 5)
      have z1 := hbl.frozen (k * 5 + 1)
      have z2 := hbl.frozen (k * 5 + 2)
      have z3 := hbl.frozen (k * 5 + 3)
      have z4 := hbl.frozen (k * 5 + 4)
      have hgo1 := hgo.1
      have n1 : g ≠ nb := by omega
      have n2 : ob ≠ nb := by have := HH.out.2.2.1.lt; omega
      have n3 : eb ≠ nb := by omega
      have n4 : H ≠ nb := by omega
      have hst : Blk (((((wo.setCell ⟨nb, k * 5, none⟩ (.slice none 0 0)).setCell ⟨nb, k * 5 + 1, none⟩ (.int .i64 e.k)).setCell ⟨nb, k * 5 + 2, none⟩ (.int .i64 e.a)).setCell ⟨nb, k * 5 + 3, none⟩ (.int .i64 e.to)).setCell ⟨nb, k * 5 + 4, none⟩ (.int .i64 e.el)) nb tBlo (bareC (l.set k e)).toArray := by
        have h9 := ((((hbl.set_ (k * 5) (.slice none 0 0)).set_ (k * 5 + 1) (.int .i64 e.k)).set_ (k * 5 + 2) (.int .i64 e.a)).set_ (k * 5 + 3) (.int .i64 e.to)).set_ (k * 5 + 4) (.int .i64 e.el)
        simp only [List.setIfInBounds_toArray] at h9
        rw [bareC_set l k e (by omega)] at h9
        exact h9
      have hbs : Below nb W3 (((((wo.setCell ⟨nb, k * 5, none⟩ (.slice none 0 0)).setCell ⟨nb, k * 5 + 1, none⟩ (.int .i64 e.k)).setCell ⟨nb, k * 5 + 2, none⟩ (.int .i64 e.a)).setCell ⟨nb, k * 5 + 3, none⟩ (.int .i64 e.to)).setCell ⟨nb, k * 5 + 4, none⟩ (.int .i64 e.el)) :=
        ((((hbe.setCell (p := ⟨nb, k * 5, none⟩) (Nat.le_refl _) _).setCell (p := ⟨nb, k * 5 + 1, none⟩) (Nat.le_refl _) _).setCell (p := ⟨nb, k * 5 + 2, none⟩) (Nat.le_refl _) _).setCell (p := ⟨nb, k * 5 + 3, none⟩) (Nat.le_refl _) _).setCell (p := ⟨nb, k * 5 + 4, none⟩) (Nat.le_refl _) _
      have hle9 : ∀ i, i < k + 1 → (l.set k e)[i]? = es[i]? := fun i hi => by
        by_cases e9 : k = i
        · subst e9; rw [List.getElem?_set_self (by omega), hx]
        · rw [List.getElem?_set_ne e9]; exact hle i (by omega)
      have H9 := Lib.hid (And.intro hst (And.intro hbs (And.intro hle9 (show (l.set k e).length = N by rw [List.length_set]; exact hll))))
      clear hst hbs hle9 hle hll hbl hbe hbo b0o b1o hoo ho1 he1 hyc hx hox he0 hy hn3 hb3 hnb hnH hb2 b0 b1 hz2 hH hgo hel
      go_upto_region 5 with (fail)
      go_region
      all_goals
        go_wp2_with fail
        go_roundw
        case rel => exact ⟨k + 1, _, by omega, by go_num, H9.out.2.2.2, H9.out.2.2.1, H9.out.1, H9.out.2.1.trans (below_drewN _ _ 1)⟩
        case measure => simp [intOf]; omega
    · have hkN : k = N := by omega
      have hles : l = es := by
        apply List.ext_getElem?
        intro j
        by_cases hj : j < k
        · exact hle j hj
        · rw [List.getElem?_eq_none (by omega), List.getElem?_eq_none (by have := HH.out.2.2.2.2.2.2.1; omega)]
      subst hles
      have b0s := b0o.set_ 4 (.slice (some ⟨nb, 0, none⟩) N N)
      have f4 := b0o.frozen 4
      have cb : wo.cell? ⟨H, 4, none⟩ = some (.slice bA N0 bc) := b0o.cell 4
      have lH := b0o.lt
      have HBo := Lib.hid (And.intro hbl (And.intro hbe (And.intro hbo (And.intro b1o (And.intro b0s (And.intro hb2 (And.intro hnH (And.intro hH hb3))))))))
      clear hbl hbe hbo b0o b1o b0s hn3 hb3 hnb hnH hb2 b0 b1 hz2 hH hle hkN
      go_upto_region 8 with (fail)
      obtain ⟨hbl, hbe, hbo, b1o, b0s, hb2, hnH, hH, hb3⟩ := HBo.out
      obtain ⟨w4, hw4⟩ : ∃ x, x = wo.setCell ⟨H, 4, none⟩ (.slice (some ⟨nb, 0, none⟩) N N) := ⟨_, rfl⟩
      have b04 : Blk w4 H tCd #[.string ⟨#[109, 97, 105, 110]⟩, .int .i64 1, .int .i64 0, .slice rA 1 rc, .slice (some ⟨nb, 0, none⟩) N N] := by rw [hw4]; exact b0s
      have b14 : Blk w4 (H + 1) tCd cdz := by rw [hw4]; exact b1o.far (p := ⟨H, 4, none⟩) (by simp) _
      have hbl4 : Blk w4 nb tBlo (bareC l).toArray := by rw [hw4]; exact hbl.far (p := ⟨H, 4, none⟩) (by show nb ≠ H; omega) _
      have hb4 : Below w.heap.size w w4 := by rw [hw4]; exact hbo.setCell (p := ⟨H, 4, none⟩) (by show w.heap.size ≤ H; omega) _
      have hB : BaR w4 (.slice rA 1 rc) (.slice (some ⟨nb, 0, none⟩) N N) l := ⟨by obtain ⟨b9, h9⟩ := HH.out.1; exact ⟨b9, h9.on hb4⟩, ⟨0, by rw [HH.out.2.2.2.2.2.2.1]; exact own_blk hbl4 HH.out.2.2.2.2.2.2.1 (by omega) (Nat.zero_le _)⟩, HH.out.2.2.2.2.1⟩
      have HCC := ccode_any hB (by rw [HH.out.2.2.2.2.2.2.1]; exact hm)
      unfold codA dcod at HCC
      simp only [str_main] at HCC
      have HCCH := Lib.hid HCC
      have H4 := Lib.hid (And.intro b14 (And.intro hb4 hH))
      have c0 : w4.cell? ⟨H, 0, none⟩ = some (.string ⟨#[109, 97, 105, 110]⟩) := b04.cell 0
      have c1 : w4.cell? ⟨H, 1, none⟩ = some (.int .i64 1) := b04.cell 1
      have c2 : w4.cell? ⟨H, 2, none⟩ = some (.int .i64 0) := b04.cell 2
      have c3 : w4.cell? ⟨H, 3, none⟩ = some (.slice rA 1 rc) := b04.cell 3
      have c4 : w4.cell? ⟨H, 4, none⟩ = some (.slice (some ⟨nb, 0, none⟩) N N) := b04.cell 4
      have l4 := b04.lt
      rw [← hw4]
      clear hbl hbe hbo b1o b0s hb2 hnH hH hb3 b04 b14 hbl4 hb4 hB HCC hw4 cb f4 lH
      go_wp2_with fail
      refine HCCH.out.mono ?_
      rintro r w5 ⟨rv', bv', rfl, hB5, hb5⟩
      have b15 := H4.out.1.on hb5
      obtain ⟨rA', rn', rc', rfl⟩ : ∃ A n c, rv' = .slice A n c := by obtain ⟨A, c, e, _⟩ := hB5.r; exact ⟨A, _, c, e⟩
      obtain ⟨bA', bn', bc', rfl⟩ : ∃ A n c, bv' = .slice A n c := by
        obtain ⟨base5, ho5⟩ := hB5.b
        rcases ho5.2 with ⟨rfl, e⟩ | ⟨g, cap, cur, rfl, _⟩
        · exact ⟨_, _, _, rfl⟩
        · exact ⟨_, _, _, rfl⟩
      have g0 : w5.cell? ⟨H + 1, 0, none⟩ = some (.string ⟨#[]⟩) := b15.cell 0
      have g1 : w5.cell? ⟨H + 1, 1, none⟩ = some (.int .i64 0) := b15.cell 1
      have g2 : w5.cell? ⟨H + 1, 2, none⟩ = some (.int .i64 0) := b15.cell 2
      have g3 : w5.cell? ⟨H + 1, 3, none⟩ = some (.slice none 0 0) := b15.cell 3
      have g4 : w5.cell? ⟨H + 1, 4, none⟩ = some (.slice none 0 0) := b15.cell 4
      have z0 := b15.frozen 0
      have z1 := b15.frozen 1
      have z2 := b15.frozen 2
      have z3 := b15.frozen 3
      have z4 := b15.frozen 4
      have gl := b15.lt
      have b16 := ((((b15.set_ 0 (.string ⟨#[109, 97, 105, 110]⟩)).set_ 1 (.int .i64 1)).set_ 2 (.int .i64 0)).set_ 3 (.slice rA' rn' rc')).set_ 4 (.slice bA' bn' bc')
      have HF := Lib.hid (And.intro b16 (And.intro hB5 hb5))
      clear b15 b16 hB5 hb5 c0 c1 c2 c3 c4 HCCH
      go_wp2_with fail
      refine bodyPost_ret (results_cell_row rfl _ _ (H + 1) tCd #[.string ⟨#[109, 97, 105, 110]⟩, .int .i64 1, .int .i64 0, .slice rA' rn' rc', .slice bA' bn' bc'] (0, 0) _ rfl HF.out.1 Try.underlying34 rfl cdInf) rfl ?_
      obtain ⟨b16, hB5, hb5⟩ := HF.out
      obtain ⟨rb5, hr5⟩ := hB5.r0
      obtain ⟨base5, ho5⟩ := hB5.b
      have b15 := H4.out.1.on hb5
      have hne5 : rb5 ≠ H + 1 := by
        rintro rfl
        obtain ⟨c9, x9, _, _, _, h9⟩ := hr5
        unfold Blk at h9
        rw [b15] at h9
        cases h9
      have hne6 : ∀ g cur, w5.heap[g]? = some (.cells cur tBlo (0, 0)) → g ≠ H + 1 := by
        rintro g cur hg rfl
        rw [b15] at hg
        cases hg
      refine ⟨_, _, rfl, ⟨⟨rb5, ((((hr5.far (p := ⟨H + 1, 0, none⟩) hne5 _).far (p := ⟨H + 1, 1, none⟩) hne5 _).far (p := ⟨H + 1, 2, none⟩) hne5 _).far (p := ⟨H + 1, 3, none⟩) hne5 _).far (p := ⟨H + 1, 4, none⟩) hne5 _⟩, ⟨base5, ?_⟩, HH.out.2.2.2.2.1⟩, ?_⟩
      · obtain ⟨h1, h2⟩ := ho5
        refine ⟨h1, ?_⟩
        rcases h2 with h2 | ⟨g, cap, cur, hv, hbs, hh, r⟩
        · exact .inl h2
        · have hg := hne6 g cur hh
          exact .inr ⟨g, cap, cur, hv, hbs, ((((Below.heap_setCell _ ⟨H + 1, 4, none⟩ _ g hg).trans (Below.heap_setCell _ ⟨H + 1, 3, none⟩ _ g hg)).trans (Below.heap_setCell _ ⟨H + 1, 2, none⟩ _ g hg)).trans (Below.heap_setCell _ ⟨H + 1, 1, none⟩ _ g hg)).trans ((Below.heap_setCell _ ⟨H + 1, 0, none⟩ _ g hg).trans hh), r⟩
      · have hle5 : w.heap.size ≤ H + 1 := by have := H4.out.2.2; omega
        exact (((((H4.out.2.1.trans (hb5.mono H4.out.2.1.size)).setCell (p := ⟨H + 1, 0, none⟩) hle5 _).setCell (p := ⟨H + 1, 1, none⟩) hle5 _).setCell (p := ⟨H + 1, 2, none⟩) hle5 _).setCell (p := ⟨H + 1, 3, none⟩) hle5 _).setCell (p := ⟨H + 1, 4, none⟩) hle5 _
end Go.Proofs.Ytjmlpbnejcfnhaa
