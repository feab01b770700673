/-
  Layer ir: walks of end, check.
-/
import Derived.Test.YtgcjfbgfoiekmaaIvh
namespace Go.Proofs.Ytgcjfbgfoiekmaa
open Go Go.RowKit
set_option linter.unusedVariables false
set_option linter.unusedSimpArgs false

theorem isI_nil (w : World) (B : Nat) : IsI w B (.slice none 0 0) [] := ⟨none, 0, rfl, Nat.le_refl _, by simp, fun _ => rfl, .inl rfl⟩
theorem isI_1 {W : World} {H : Nat} {x : Int} (hb : Blk W H tI1 #[.int .i64 x]) (h : iw x) : IsI W W.heap.size (.slice (some ⟨H, 0, none⟩) 1 1) [x] :=
  ⟨_, 1, rfl, Nat.le_refl _, by unfold maxLen; omega, fun h => by (cases h), .inr ⟨H, 0, rfl, hb.lt, fun i y hi => by
    match i, hi with
    | 0, hi => cases hi; exact ⟨hb.cell 0, h⟩⟩⟩
theorem isI_2 {W : World} {H : Nat} {x y : Int} (hb : Blk W H tI1 #[.int .i64 x, .int .i64 y]) (h : iw x) (h2 : iw y) : IsI W W.heap.size (.slice (some ⟨H, 0, none⟩) 2 2) [x, y] :=
  ⟨_, 2, rfl, Nat.le_refl _, by unfold maxLen; omega, fun h => by (cases h), .inr ⟨H, 0, rfl, hb.lt, fun i y hi => by
    match i, hi with
    | 0, hi => cases hi; exact ⟨hb.cell 0, h⟩
    | 1, hi => cases hi; exact ⟨hb.cell 1, h2⟩⟩⟩
theorem isNd_nil (W : World) (ok : Prop) : IsNd W ok (.slice none 0 0) [] := ⟨none, 0, rfl, Nat.le_refl _, by simp, fun _ => rfl, .inl rfl⟩
theorem chkE_1 {f : Cod} {e : Eb} (h : e.k = 1) : chkE f e = leadM f [e.to] [] := by
  unfold chkE leadM
  rw [if_pos h]
  cases hh : inR f.bl e.to <;> simp [existL, fitL, hh]
theorem chkE_2 {f : Cod} {e : Eb} (h : e.k = 2) : chkE f e = leadM f [e.to, e.el] [(e.a, fun t => t == 1)] := by
  unfold chkE leadM
  rw [if_neg (by omega), if_pos h]
  cases h1 : inR f.bl e.to <;> cases h2 : inR f.bl e.el <;> cases h3 : inR f.regs e.a <;> simp [existL, fitL, h1, h2, h3]
theorem chkE_3 {f : Cod} {e : Eb} (h : e.k = 3) (ha : 0 ≤ e.a) : chkE f e = leadM f [] [(e.a, fun t => t == f.ty)] := by
  unfold chkE leadM
  rw [if_neg (by omega), if_neg (by omega), if_pos h, if_pos ha]
  cases h3 : inR f.regs e.a <;> simp [existL, fitL, h3]
theorem chkE_4 {f : Cod} {e : Eb} (h : e.k = 3) (ha : ¬ 0 ≤ e.a) : chkE f e = if f.ty = 0 then 0 else 6 := by
  unfold chkE
  rw [if_neg (by omega), if_neg (by omega), if_pos h, if_neg ha]
theorem chkE_5 {f : Cod} {e : Eb} (h : e.k ≠ 1 ∧ e.k ≠ 2 ∧ e.k ≠ 3) : chkE f e = 2 := by
  unfold chkE
  rw [if_neg h.1, if_neg h.2.1, if_neg h.2.2]
set_option maxHeartbeats 4000000 in
set_option maxRecDepth 100000 in
theorem end_any (m : Mdl) (f : Cod) (e : Eb) (he : e.w) (cb : Nat) (w : World) (hc : CkV w cb m f) :
    Calls Try.prog 26 #[.pointer (some ⟨cb, 0, none⟩), .agg (ebA e)] w fun r w' => r = .returned (.int .i64 (chkE f e)) ∧ Below w.heap.size w w' := by
  have hb1 : Below w.heap.size w (w.alloc (.cells (ebA e) tEn)) := (Below.refl _ _).alloc (Nat.le_refl _) _
  have HB1 := Lib.hid hb1
  have HC1 := Lib.hid (hc.on hb1)
  have HQ := Lib.hid (Blk.new w tEn (ebA e))
  obtain ⟨res, hres⟩ : ∃ r, chkE f e = r := ⟨_, rfl⟩
  have HRES := Lib.hid hres
  have HEW := Lib.hid he
  rw [hres]
  have HL : Hid (∀ W bl nl v v2, Below w.heap.size w W → IsI W W.heap.size v bl → IsNd W True v2 nl → Calls Try.prog 41 #[.pointer (some ⟨cb, 0, none⟩), v, v2] W fun e w' => e = .returned (.int .i64 (leadM f bl nl)) ∧ Below W.heap.size W w') := Lib.hid fun W bl nl v v2 hW h1 h2 => leadsTo_any m f bl nl v v2 cb W (hc.on hW) h1 h2
  clear hc hb1 hres he
  unfold ebA at HB1 HC1 HQ ⊢
  obtain ⟨k, a, to, el⟩ := e
  simp only at HB1 HC1 HQ ⊢
  go_enter Try.func26, Try.ntmps26
  go_upto_region 1 with (fail)
  generalize w.alloc (.cells #[.int .i64 k, .int .i64 a, .int .i64 to, .int .i64 el] tEn) = W1 at *
  have q0 : W1.cell? ⟨w.heap.size, 0, none⟩ = some (.int .i64 k) := HQ.out.cell 0
  have q1 : W1.cell? ⟨w.heap.size, 1, none⟩ = some (.int .i64 a) := HQ.out.cell 1
  have q2 : W1.cell? ⟨w.heap.size, 2, none⟩ = some (.int .i64 to) := HQ.out.cell 2
  have q3 : W1.cell? ⟨w.heap.size, 3, none⟩ = some (.int .i64 el) := HQ.out.cell 3
  have ql := HQ.out.lt
  by_cases h1 : k = 1
  · subst h1
    go_wp2_with fail
    refine (HL.out _ [to] [] _ _ (HB1.out.alloc HB1.out.size _) (isI_1 (Blk.new _ _ _) HEW.out.to) (isNd_nil _ _)).mono ?_
    rintro e w2 ⟨rfl, hb2⟩
    have HB2 := Lib.hid ((HB1.out.alloc HB1.out.size _).trans (hb2.mono (HB1.out.alloc HB1.out.size _).size))
    clear hb2
    go_wp2_with fail
    go_ret
    exact ⟨by rw [← HRES.out, chkE_1 rfl]; rfl, HB2.out⟩
  have d1 : (k == 1) = false := by simpa using h1
  by_cases h2 : k = 2
  · subst h2
    clear h1
    have J : Below W1.heap.size W1 W1 := Below.refl _ _
    have HS : Hid (∀ Wx, Below W1.heap.size W1 Wx → Wx.cell? ⟨w.heap.size, 1, none⟩ = some (.int .i64 a) ∧ Wx.cell? ⟨w.heap.size, 2, none⟩ = some (.int .i64 to) ∧ Wx.cell? ⟨w.heap.size, 3, none⟩ = some (.int .i64 el) ∧ w.heap.size < Wx.heap.size) := Lib.hid fun Wx h => by
      have hz := h.size
      exact ⟨(h.cell (p := ⟨w.heap.size, 1, none⟩) ql).trans q1, (h.cell (p := ⟨w.heap.size, 2, none⟩) ql).trans q2, (h.cell (p := ⟨w.heap.size, 3, none⟩) ql).trans q3, by omega⟩
    have HI : Hid (∀ v W, Calls Try.prog 42 #[.int .i64 v] W fun e w' => ∃ fv, e = .returned fv ∧ NeedV w' True fv (fun t => t == v) ∧ Below W.heap.size W w') := Lib.hid fun v W => is_any v W _
    go_upto_region 5 with (fail)
    go_region_held3 (fun Wx => Wx.cell? ⟨w.heap.size, 1, none⟩ = some (.int .i64 a) ∧ Wx.cell? ⟨w.heap.size, 2, none⟩ = some (.int .i64 to) ∧ Wx.cell? ⟨w.heap.size, 3, none⟩ = some (.int .i64 el) ∧ w.heap.size < Wx.heap.size)
      (first | exact ⟨q1, q2, q3, ql⟩ | exact HS.out _ J | exact HS.out _ (J.alloc J.size _) | exact HS.out _ (J.drew.alloc J.drew.size _) | exact HS.out _ J2 | exact HS.out _ ((J.alloc J.size _).alloc (J.alloc J.size _).size _))
      (first
        | (go_at_call 42; (with_reducible refine Calls.mono (HI.out _ _) ?_); rintro e v1 ⟨fv, rfl, hn1, b1⟩; obtain ⟨k1, caps1, rfl, hk1⟩ := hn1; first
            | (have hN := Blk.new W1 tI1 #[.int .i64 to, .int .i64 el]; have hR : Blk v1 W1.heap.size tI1 #[.int .i64 to, .int .i64 el] := (b1.block _ (show W1.heap.size < (W1.alloc (.cells #[.int .i64 to, .int .i64 el] tI1)).heap.size from hN.lt)).trans hN; have J9 := (J.alloc J.size (.cells #[.int .i64 to, .int .i64 el] tI1)).drew; have J : Below W1.heap.size W1 v1 := J9.trans (b1.mono J9.size))
            | (have J : Below W1.heap.size W1 v1 := by first | exact J.trans (b1.mono J.size) | exact J.drew.trans (b1.mono J.drew.size)))
        | (go_at_call 41; first
            | (have g1 := HB1.out.trans ((J.alloc J.size (.cells #[.int .i64 a, .func (.func k1) #[] caps1] tNd)).mono HB1.out.size); have g2 := isI_2 (hR.alloc (.cells #[.int .i64 a, .func (.func k1) #[] caps1] tNd)) HEW.out.to HEW.out.el; have g3 : IsNd (v1.alloc (.cells #[.int .i64 a, .func (.func k1) #[] caps1] tNd)) True (.slice (some ⟨v1.heap.size, 0, none⟩) 1 1) [(a, fun t => t == 1)] := isNd_1 (Blk.new _ _ _) (NeedV.on (w := v1) ⟨_, _, rfl, hk1⟩ ((Below.refl _ _).alloc (Nat.le_refl _) _)); (with_reducible refine Calls.mono (HL.out _ [to, el] [(a, fun t => t == 1)] _ _ g1 g2 g3) ?_); rintro e v2 ⟨rfl, b2⟩; have J2 : Below W1.heap.size W1 v2 := (J.alloc J.size _).trans (b2.mono (J.alloc J.size _).size))
            | (have j2 := (J.alloc J.size (.cells #[.int .i64 to, .int .i64 el] tI1)).alloc (J.alloc J.size (.cells #[.int .i64 to, .int .i64 el] tI1)).size (.cells #[.int .i64 a, .func (.func k1) #[] caps1] tNd); have g1 := HB1.out.trans (j2.mono HB1.out.size); have g2 := isI_2 ((Blk.new v1 tI1 #[.int .i64 to, .int .i64 el]).alloc (.cells #[.int .i64 a, .func (.func k1) #[] caps1] tNd)) HEW.out.to HEW.out.el; have h3 := Blk.new (v1.alloc (.cells #[.int .i64 to, .int .i64 el] tI1)) tNd #[.int .i64 a, .func (.func k1) #[] caps1]; rw [show (v1.alloc (.cells #[.int .i64 to, .int .i64 el] tI1)).heap.size = v1.heap.size + 1 by simp] at h3; have g3 : IsNd ((v1.alloc (.cells #[.int .i64 to, .int .i64 el] tI1)).alloc (.cells #[.int .i64 a, .func (.func k1) #[] caps1] tNd)) True (.slice (some ⟨v1.heap.size + 1, 0, none⟩) 1 1) [(a, fun t => t == 1)] := isNd_1 h3 (NeedV.on (w := v1) ⟨_, _, rfl, hk1⟩ (((Below.refl _ _).alloc (Nat.le_refl _) _).alloc (by simp) _)); (with_reducible refine Calls.mono (HL.out _ [to, el] [(a, fun t => t == 1)] _ _ g1 g2 g3) ?_); rintro e v2 ⟨rfl, b2⟩; have J2 : Below W1.heap.size W1 v2 := j2.trans (b2.mono j2.size))
            | (have j2 := (J.alloc J.size (.cells #[.int .i64 a, .func (.func k1) #[] caps1] tNd)).alloc (J.alloc J.size (.cells #[.int .i64 a, .func (.func k1) #[] caps1] tNd)).size (.cells #[.int .i64 to, .int .i64 el] tI1); have g1 := HB1.out.trans (j2.mono HB1.out.size); have h2 := Blk.new (v1.alloc (.cells #[.int .i64 a, .func (.func k1) #[] caps1] tNd)) tI1 #[.int .i64 to, .int .i64 el]; rw [show (v1.alloc (.cells #[.int .i64 a, .func (.func k1) #[] caps1] tNd)).heap.size = v1.heap.size + 1 by simp] at h2; have g2 := isI_2 h2 HEW.out.to HEW.out.el; have g3 : IsNd ((v1.alloc (.cells #[.int .i64 a, .func (.func k1) #[] caps1] tNd)).alloc (.cells #[.int .i64 to, .int .i64 el] tI1)) True (.slice (some ⟨v1.heap.size, 0, none⟩) 1 1) [(a, fun t => t == 1)] := isNd_1 ((Blk.new v1 tNd _).alloc (.cells #[.int .i64 to, .int .i64 el] tI1)) (NeedV.on (w := v1) ⟨_, _, rfl, hk1⟩ (((Below.refl _ _).alloc (Nat.le_refl _) _).alloc (by simp) _)); (with_reducible refine Calls.mono (HL.out _ [to, el] [(a, fun t => t == 1)] _ _ g1 g2 g3) ?_); rintro e v2 ⟨rfl, b2⟩; have J2 : Below W1.heap.size W1 v2 := j2.trans (b2.mono j2.size))))
    all_goals
      have HJ := Lib.hid (HB1.out.trans (J2.mono HB1.out.size))
      clear J2
      go_wp2_with fail
      first
        | (refine ⟨?_, HJ.out⟩; rw [← HRES.out, chkE_2 rfl]; rfl)
        | (go_ret; refine ⟨?_, HJ.out⟩; rw [← HRES.out, chkE_2 rfl]; rfl)
  have d2 : (k == 2) = false := by simpa using h2
  by_cases h3 : k = 3
  · subst h3
    obtain ⟨gv, fv, rv, bv, hb, -, -, -⟩ := HC1.out.x
    have c3 : W1.cell? ⟨cb, 3, none⟩ = some (.int .i64 f.ty) := hb.cell 3
    have cl := hb.lt
    clear h1 h2 hb
    by_cases ha : 0 ≤ a
    · have HA := Lib.hid ha
      have e1 : decide (0 ≤ a) = true := by simpa using ha
      clear ha
      have J : Below W1.heap.size W1 W1 := Below.refl _ _
      have HS : Hid (∀ Wx, Below W1.heap.size W1 Wx → Wx.cell? ⟨w.heap.size, 1, none⟩ = some (.int .i64 a) ∧ Wx.cell? ⟨cb, 3, none⟩ = some (.int .i64 f.ty) ∧ w.heap.size < Wx.heap.size ∧ cb < Wx.heap.size) := Lib.hid fun Wx h => by
        have hz := h.size
        exact ⟨(h.cell (p := ⟨w.heap.size, 1, none⟩) ql).trans q1, (h.cell (p := ⟨cb, 3, none⟩) cl).trans c3, by omega, by omega⟩
      have HI : Hid (∀ v W, Calls Try.prog 42 #[.int .i64 v] W fun e w' => ∃ fv, e = .returned fv ∧ NeedV w' True fv (fun t => t == v) ∧ Below W.heap.size W w') := Lib.hid fun v W => is_any v W _
      go_upto_region 8 with (fail)
      go_region_held3 (fun Wx => Wx.cell? ⟨w.heap.size, 1, none⟩ = some (.int .i64 a) ∧ Wx.cell? ⟨cb, 3, none⟩ = some (.int .i64 f.ty) ∧ w.heap.size < Wx.heap.size ∧ cb < Wx.heap.size)
        (first | exact ⟨q1, c3, ql, cl⟩ | exact HS.out _ J | exact HS.out _ (J.alloc J.size _) | exact HS.out _ J2)
        (first
          | (go_at_call 42; (with_reducible refine Calls.mono (HI.out _ _) ?_); rintro e v1 ⟨fv, rfl, hn1, b1⟩; obtain ⟨k1, caps1, rfl, hk1⟩ := hn1; have J : Below W1.heap.size W1 v1 := by first | exact J.trans (b1.mono J.size) | exact J.drew.trans (b1.mono J.drew.size))
          | (go_at_call 41; (with_reducible refine Calls.mono (HL.out _ [] [(a, fun t => t == f.ty)] _ _ ?g1 ?g2 ?g3) ?_); (case g1 => exact HB1.out.trans ((J.alloc J.size _).mono HB1.out.size)); (case g2 => exact isI_nil _ _); (case g3 => exact isNd_1 (Blk.new _ _ _) (NeedV.on (w := v1) ⟨_, _, rfl, hk1⟩ ((Below.refl _ _).alloc (Nat.le_refl _) _))); rintro e v2 ⟨rfl, b2⟩; have J2 : Below W1.heap.size W1 v2 := (J.alloc J.size _).trans (b2.mono (J.alloc J.size _).size)))
      all_goals
        have HJ := Lib.hid (HB1.out.trans (J2.mono HB1.out.size))
        clear J2
        go_wp2_with fail
        first
          | (refine ⟨?_, HJ.out⟩; rw [← HRES.out, chkE_3 rfl HA.out]; rfl)
          | (go_ret; refine ⟨?_, HJ.out⟩; rw [← HRES.out, chkE_3 rfl HA.out]; rfl)
    · have HA := Lib.hid ha
      have e1 : decide (0 ≤ a) = false := by simpa using ha
      clear ha
      by_cases ht : f.ty = 0
      · have HT := Lib.hid ht
        have e2 : (f.ty == 0) = true := by simpa using ht
        clear ht
        go_wp2_with fail
        go_ret
        exact ⟨by rw [← HRES.out, chkE_4 rfl (by have := HA.out; simp only; omega), if_pos HT.out]; rfl, HB1.out⟩
      · have HT := Lib.hid ht
        have e2 : (f.ty == 0) = false := by simpa using ht
        clear ht
        go_wp2_with fail
        go_ret
        exact ⟨by rw [← HRES.out, chkE_4 rfl (by have := HA.out; simp only; omega), if_neg HT.out]; rfl, HB1.out⟩
  have d3 : (k == 3) = false := by simpa using h3
  have HX := Lib.hid (And.intro h1 (And.intro h2 h3))
  clear h1 h2 h3
  go_wp2_with fail
  go_ret
  exact ⟨by rw [← HRES.out, chkE_5 HX.out]; rfl, HB1.out⟩
end Go.Proofs.Ytgcjfbgfoiekmaa
