/-
  WordWraps: what is brought to a type: the law's walk.
-/
import Derived.Test.YtfbdoaaicomdjaaWd
import Derived.Test.YtfbdoaaicomdjaaRing
namespace Go.Proofs.Ytfbdoaaicomdjaa
open Go.RowKit Go.WideMaps Go.Maps
set_option linter.unusedSimpArgs false
set_option linter.unusedVariables false

def Fit (M : Int) (p : Int × Int) : Prop := -M ≤ p.1 ∧ p.1 ≤ M - 1 ∧ (p.2 = 0 ∨ p.1 = 0)
theorem fit_ite {M : Int} {c : Prop} [Decidable c] {p q : Int × Int} (h : Fit M p) (k : Fit M q) : Fit M (if c then p else q) := by
  split
  · exact h
  · exact k
theorem fit_ite' {M : Int} {c : Prop} [Decidable c] {p q : Int × Int} (h : Fit M p) (k : ¬ c → Fit M q) : Fit M (if c then p else q) := by
  split
  · exact h
  · exact k ‹_›
theorem fit_tr {M : Int} (hM : 2 ≤ M) (c : Bool) : Fit M (tr c, 0) := by
  cases c
  · exact ⟨show -M ≤ 0 by omega, show (0 : Int) ≤ M - 1 by omega, Or.inl rfl⟩
  · exact ⟨show -M ≤ 1 by omega, show (1 : Int) ≤ M - 1 by omega, Or.inl rfl⟩
theorem fit_0 {M x : Int} (hM : 2 ≤ M) : Fit M (0, x) := ⟨show -M ≤ 0 by omega, show (0 : Int) ≤ M - 1 by omega, Or.inr rfl⟩
theorem fit_of {M x : Int} (h : -M ≤ x ∧ x ≤ M - 1) : Fit M (x, 0) := ⟨h.1, h.2, Or.inl rfl⟩

theorem bn32_fit (l : List UInt8) (a b : Int) (ha1 : -2147483648 ≤ a) (ha2 : a ≤ 2147483648 - 1) (hb1 : -2147483648 ≤ b) (hb2 : b ≤ 2147483648 - 1) : Fit 2147483648 (bn32 l a b) := by
  have hM : (2 : Int) ≤ 2147483648 := by decide
  unfold bn32
  refine fit_ite (fit_of (w32_bd _)) (fit_ite (fit_of (w32_bd _)) (fit_ite (fit_of (w32_bd _)) ?_))
  refine fit_ite (fit_ite' (fit_0 hM) fun h0 => fit_ite' (fit_0 hM) fun h1 => fit_of (tdiv_bd 2147483648 a b ha1 ha2 h0 h1 hM)) ?_
  refine fit_ite (fit_ite' (fit_0 hM) fun h0 => fit_of (tmod_bd a b 2147483648 h0 hb1 hb2)) ?_
  refine fit_ite (fit_of (bits32_bd _ _ _)) (fit_ite (fit_of (bits32_bd _ _ _)) (fit_ite (fit_of (bits32_bd _ _ _)) ?_))
  refine fit_ite (fit_of (w32_bd _)) (fit_ite (fit_of (shr_bd 2147483648 a _ (by decide) ha1 ha2)) ?_)
  exact fit_ite (fit_tr hM _) (fit_ite (fit_tr hM _) (fit_ite (fit_tr hM _) (fit_ite (fit_tr hM _) (fit_ite (fit_tr hM _) (fit_ite (fit_tr hM _) (fit_0 hM))))))
theorem bn64_fit (l : List UInt8) (a b : Int) (ha1 : -9223372036854775808 ≤ a) (ha2 : a ≤ 9223372036854775808 - 1) (hb1 : -9223372036854775808 ≤ b) (hb2 : b ≤ 9223372036854775808 - 1) : Fit 9223372036854775808 (bn64 l a b) := by
  have hM : (2 : Int) ≤ 9223372036854775808 := by decide
  unfold bn64
  refine fit_ite (fit_of (w64_bd _)) (fit_ite (fit_of (w64_bd _)) (fit_ite (fit_of (w64_bd _)) ?_))
  refine fit_ite (fit_ite' (fit_0 hM) fun h0 => fit_ite' (fit_0 hM) fun h1 => fit_of (tdiv_bd 9223372036854775808 a b ha1 ha2 h0 h1 hM)) ?_
  refine fit_ite (fit_ite' (fit_0 hM) fun h0 => fit_of (tmod_bd a b 9223372036854775808 h0 hb1 hb2)) ?_
  refine fit_ite (fit_of (bits64_bd _ _ _)) (fit_ite (fit_of (bits64_bd _ _ _)) (fit_ite (fit_of (bits64_bd _ _ _)) ?_))
  refine fit_ite (fit_of (w64_bd _)) (fit_ite (fit_of (shr_bd 9223372036854775808 a _ (by decide) ha1 ha2)) ?_)
  exact fit_ite (fit_tr hM _) (fit_ite (fit_tr hM _) (fit_ite (fit_tr hM _) (fit_ite (fit_tr hM _) (fit_ite (fit_tr hM _) (fit_ite (fit_tr hM _) (fit_0 hM))))))

set_option maxHeartbeats 1000000 in
theorem wraps_none (t v times a : Int) (op : ByteArray) (w : World) (ht : (Lit.int .i64 t).wf = true) (hv : (Lit.int .i64 v).wf = true) (ha : (Lit.int .i64 a).wf = true) (h1 : ¬ t = 1) (h2 : ¬ t = 2) (h3 : ¬ t = 3) :
    Calls Try.prog 4 #[.int .i64 t, .int .i64 v, .int .i64 times, .string op, .int .i64 a] w fun e w' => e = .returned (.bool true) ∧ Below w.heap.size w w' := by
  have HW : Hid (wd t = 0) := by show wd t = 0; unfold wd; rw [if_neg h1, if_neg h2, if_neg h3]
  have HX : Hid (wr t v = 0) := by show wr t v = 0; unfold wr; rw [if_neg h1, if_neg h2, if_neg h3]
  have HB : Hid (bn t op.toList a v = (0, 0)) := by show bn t op.toList a v = (0, 0); unfold bn; rw [if_neg h1, if_neg h2]
  clear h1 h2 h3
  go_enter Try.func4, Try.ntmps4
  go_wp2_with fail
  refine (kwidth _ _ (Below.refl _ _) t ht).mono ?_
  rintro e y1 ⟨rfl, hb1⟩
  rw [HW.out]
  go_wp2_with fail
  refine (kw _ _ hb1 t v ht).mono ?_
  rintro e y2 ⟨rfl, hb2⟩
  clear hb1
  rw [HX.out]
  go_wp2_with fail
  refine (kbin _ _ hb2 t a v 0 0 _ _ rfl HB.out ha hv).mono ?_
  rintro e y3 ⟨rfl, hb3⟩
  clear hb2
  go_wp2_with fail
  refine (kworks _ _ hb3).mono ?_
  rintro e y4 ⟨rfl, hb4⟩
  clear hb3
  go_wp2_with fail
  go_ret
  exact ⟨rfl, hb4⟩

set_option maxHeartbeats 1000000 in
theorem wraps_1 (v times a x y q : Int) (op : ByteArray) (w : World) (hv : (Lit.int .i64 v).wf = true) (ha : (Lit.int .i64 a).wf = true) (HX : Hid (wr 1 v = x)) (HX1 : Hid (wr 1 x = x))
    (HB : Hid (bn 1 op.toList a v = (y, q))) (HY : Hid (wr 1 y = y)) (hyq : (q == 0) = true ∨ (q == 0) = false ∧ (y == 0) = true) (hx1 : -2147483648 ≤ x) (hx2 : x ≤ 2147483647)
    (HX2 : Hid (wr 1 (wrap64 (v + wrap64 (times * 4294967296))) = x)) (HB2 : Hid (bn 1 op.toList a (wrap64 (v + wrap64 (times * 4294967296))) = (y, q))) (hd : ((wrap64 (v - x)).tmod 4294967296 != 0) = false) :
    Calls Try.prog 4 #[.int .i64 1, .int .i64 v, .int .i64 times, .string op, .int .i64 a] w fun e w' => e = .returned (.bool true) ∧ Below w.heap.size w w' := by
  rcases hyq with hq | ⟨hq, hy⟩
  all_goals
    go_enter Try.func4, Try.ntmps4
    go_wp2_with fail
    refine (kwidth _ _ (Below.refl _ _) 1 (by decide)).mono ?_
    rintro e y1 ⟨rfl, hb1⟩
    rw [show wd 1 = 32 from rfl]
    go_wp2_with fail
    refine (kw _ _ hb1 1 v (by decide)).mono ?_
    rintro e y2 ⟨rfl, hb2⟩
    clear hb1
    rw [HX.out]
    go_wp2_with fail
    refine (kw _ _ hb2 1 x (by decide)).mono ?_
    rintro e y3 ⟨rfl, hb3⟩
    clear hb2
    rw [HX1.out]
    go_wp2_with fail
    refine (kw _ _ hb3 1 (wrap64 (v + wrap64 (times * 4294967296))) (by decide)).mono ?_
    rintro e y4 ⟨rfl, hb4⟩
    clear hb3
    rw [HX2.out]
    go_wp2_with fail
    refine (kbin _ _ hb4 1 a v y q _ _ rfl HB.out ha hv).mono ?_
    rintro e y5 ⟨rfl, hb5⟩
    clear hb4
    go_wp2_with fail
    refine (kbin _ _ hb5 1 a (wrap64 (v + wrap64 (times * 4294967296))) y q _ _ rfl HB2.out ha (wrap64_wf _)).mono ?_
    rintro e y6 ⟨rfl, hb6⟩
    clear hb5
    go_wp2_with fail
    refine (kw _ _ hb6 1 y (by decide)).mono ?_
    rintro e y7 ⟨rfl, hb7⟩
    clear hb6
    rw [HY.out]
    go_wp2_with fail
    refine (kworks _ _ hb7).mono ?_
    rintro e y8 ⟨rfl, hb8⟩
    clear hb7
    go_wp2_with fail
    go_ret
    exact ⟨rfl, hb8⟩

set_option maxHeartbeats 1000000 in
theorem wraps_2 (v times a x y q : Int) (op : ByteArray) (w : World) (hv : (Lit.int .i64 v).wf = true) (ha : (Lit.int .i64 a).wf = true) (HX : Hid (wr 2 v = x)) (HX1 : Hid (wr 2 x = x))
    (HB : Hid (bn 2 op.toList a v = (y, q))) (HY : Hid (wr 2 y = y)) (hyq : (q == 0) = true ∨ (q == 0) = false ∧ (y == 0) = true) (hx1 : -9223372036854775808 ≤ x) (hx2 : x ≤ 9223372036854775807)
    (hxv : (x != v) = false) :
    Calls Try.prog 4 #[.int .i64 2, .int .i64 v, .int .i64 times, .string op, .int .i64 a] w fun e w' => e = .returned (.bool true) ∧ Below w.heap.size w w' := by
  rcases hyq with hq | ⟨hq, hy⟩
  all_goals
    go_enter Try.func4, Try.ntmps4
    go_wp2_with fail
    refine (kwidth _ _ (Below.refl _ _) 2 (by decide)).mono ?_
    rintro e y1 ⟨rfl, hb1⟩
    rw [show wd 2 = 64 from rfl]
    go_wp2_with fail
    refine (kw _ _ hb1 2 v (by decide)).mono ?_
    rintro e y2 ⟨rfl, hb2⟩
    clear hb1
    rw [HX.out]
    go_wp2_with fail
    refine (kw _ _ hb2 2 x (by decide)).mono ?_
    rintro e y3 ⟨rfl, hb3⟩
    clear hb2
    rw [HX1.out]
    go_wp2_with fail
    refine (kw _ _ hb3 2 v (by decide)).mono ?_
    rintro e y4 ⟨rfl, hb4⟩
    clear hb3
    rw [HX.out]
    go_wp2_with fail
    refine (kbin _ _ hb4 2 a v y q _ _ rfl HB.out ha hv).mono ?_
    rintro e y5 ⟨rfl, hb5⟩
    clear hb4
    go_wp2_with fail
    refine (kbin _ _ hb5 2 a v y q _ _ rfl HB.out ha hv).mono ?_
    rintro e y6 ⟨rfl, hb6⟩
    clear hb5
    go_wp2_with fail
    refine (kw _ _ hb6 2 y (by decide)).mono ?_
    rintro e y7 ⟨rfl, hb7⟩
    clear hb6
    rw [HY.out]
    go_wp2_with fail
    refine (kworks _ _ hb7).mono ?_
    rintro e y8 ⟨rfl, hb8⟩
    clear hb7
    go_wp2_with fail
    go_ret
    exact ⟨rfl, hb8⟩

set_option maxHeartbeats 1000000 in
theorem wraps_3 (v times a x y q : Int) (op : ByteArray) (w : World) (hv : (Lit.int .i64 v).wf = true) (ha : (Lit.int .i64 a).wf = true) (HX : Hid (wr 3 v = x)) (HX1 : Hid (wr 3 x = x))
    (HB : Hid (bn 3 op.toList a v = (y, q))) (HY : Hid (wr 3 y = y)) (hyq : (q == 0) = true ∨ (q == 0) = false ∧ (y == 0) = true) (hx1 : -128 ≤ x) (hx2 : x ≤ 127)
    (HX2 : Hid (wr 3 (wrap64 (v + wrap64 (times * 256))) = x)) (HB2 : Hid (bn 3 op.toList a (wrap64 (v + wrap64 (times * 256))) = (y, q))) (hd : ((wrap64 (v - x)).tmod 256 != 0) = false) :
    Calls Try.prog 4 #[.int .i64 3, .int .i64 v, .int .i64 times, .string op, .int .i64 a] w fun e w' => e = .returned (.bool true) ∧ Below w.heap.size w w' := by
  rcases hyq with hq | ⟨hq, hy⟩
  all_goals
    go_enter Try.func4, Try.ntmps4
    go_wp2_with fail
    refine (kwidth _ _ (Below.refl _ _) 3 (by decide)).mono ?_
    rintro e y1 ⟨rfl, hb1⟩
    rw [show wd 3 = 8 from rfl]
    go_wp2_with fail
    refine (kw _ _ hb1 3 v (by decide)).mono ?_
    rintro e y2 ⟨rfl, hb2⟩
    clear hb1
    rw [HX.out]
    go_wp2_with fail
    refine (kw _ _ hb2 3 x (by decide)).mono ?_
    rintro e y3 ⟨rfl, hb3⟩
    clear hb2
    rw [HX1.out]
    go_wp2_with fail
    refine (kw _ _ hb3 3 (wrap64 (v + wrap64 (times * 256))) (by decide)).mono ?_
    rintro e y4 ⟨rfl, hb4⟩
    clear hb3
    rw [HX2.out]
    go_wp2_with fail
    refine (kbin _ _ hb4 3 a v y q _ _ rfl HB.out ha hv).mono ?_
    rintro e y5 ⟨rfl, hb5⟩
    clear hb4
    go_wp2_with fail
    refine (kbin _ _ hb5 3 a (wrap64 (v + wrap64 (times * 256))) y q _ _ rfl HB2.out ha (wrap64_wf _)).mono ?_
    rintro e y6 ⟨rfl, hb6⟩
    clear hb5
    go_wp2_with fail
    refine (kw _ _ hb6 3 y (by decide)).mono ?_
    rintro e y7 ⟨rfl, hb7⟩
    clear hb6
    rw [HY.out]
    go_wp2_with fail
    refine (kworks _ _ hb7).mono ?_
    rintro e y8 ⟨rfl, hb8⟩
    clear hb7
    go_wp2_with fail
    go_ret
    exact ⟨rfl, hb8⟩

theorem more1 (v times : Int) : wr 1 (wrap64 (v + wrap64 (times * 4294967296))) = wr 1 v := by
  show wrap32 _ = wrap32 _
  unfold wrap32 wrap64; omega
theorem more3 (v times : Int) : wr 3 (wrap64 (v + wrap64 (times * 256))) = wr 3 v := by
  show (wrap64 (v + wrap64 (times * 256)) + 128) % 256 - 128 = (v + 128) % 256 - 128
  unfold wrap64; omega
theorem away1 (v : Int) : ((wrap64 (v - wr 1 v)).tmod 4294967296 != 0) = false := by
  have h : wrap64 (v - wr 1 v) % 4294967296 = 0 := by
    show wrap64 (v - wrap32 v) % 4294967296 = 0
    unfold wrap32 wrap64; omega
  simp [Int.tmod_eq_zero_of_dvd (Int.dvd_of_emod_eq_zero h)]
theorem away3 (v : Int) : ((wrap64 (v - wr 3 v)).tmod 256 != 0) = false := by
  have h : wrap64 (v - wr 3 v) % 256 = 0 := by
    show wrap64 (v - ((v + 128) % 256 - 128)) % 256 = 0
    unfold wrap64; omega
  simp [Int.tmod_eq_zero_of_dvd (Int.dvd_of_emod_eq_zero h)]
theorem hyq_of {M : Int} {p : Int × Int} (h : Fit M p) : (p.2 == 0) = true ∨ (p.2 == 0) = false ∧ (p.1 == 0) = true := by
  by_cases k : p.2 = 0
  · exact Or.inl (by simpa using k)
  · exact Or.inr ⟨by simpa using k, by simpa using h.2.2.resolve_left k⟩

theorem wraps_walk (t v times : Int) (op : ByteArray) (a : Int) (w : World) (ht : (Lit.int .i64 t).wf = true) (hv : (Lit.int .i64 v).wf = true) (_ : (Lit.int .i64 times).wf = true) (_ : op.size ≤ maxLen) (ha : (Lit.int .i64 a).wf = true) :
    Calls Try.prog 4 #[.int .i64 t, .int .i64 v, .int .i64 times, .string op, .int .i64 a] w fun e w' => e = .returned (.bool true) ∧ Below w.heap.size w w' := by
  by_cases h1 : t = 1
  · subst h1
    have ca := w32_bd a
    have cv := w32_bd v
    have f := bn32_fit op.toList (wrap32 a) (wrap32 v) (by omega) (by omega) (by omega) (by omega)
    refine wraps_1 v times a (wr 1 v) _ _ op w hv ha rfl (wr_id 1 v (Or.inl rfl)) rfl (w32_id ⟨f.1, f.2.1⟩) (hyq_of f) cv.1 cv.2 (more1 v times) ?_ (away1 v)
    show bn32 op.toList (wr 1 a) (wr 1 (wrap64 (v + wrap64 (times * 4294967296)))) = bn32 op.toList (wr 1 a) (wr 1 v)
    rw [more1]
  by_cases h2 : t = 2
  · subst h2
    have ca := bd64 ha
    have cv := bd64 hv
    have f := bn64_fit op.toList a v (by omega) (by omega) (by omega) (by omega)
    have cx := wr_bd 2 v
    exact wraps_2 v times a (wr 2 v) _ _ op w hv ha rfl (wr_id 2 v (Or.inr rfl)) rfl (w64_id ⟨f.1, f.2.1⟩) (hyq_of f) cx.1 cx.2 (by rw [show wr 2 v = v from w64_id cv]; simp)
  by_cases h3 : t = 3
  · subst h3
    have cx : -128 ≤ wr 3 v ∧ wr 3 v ≤ 127 := by show -128 ≤ (v + 128) % 256 - 128 ∧ (v + 128) % 256 - 128 ≤ 127; omega
    have ex : wr 3 (wr 3 v) = wr 3 v := by show (((v + 128) % 256 - 128) + 128) % 256 - 128 = (v + 128) % 256 - 128; omega
    exact wraps_3 v times a (wr 3 v) 0 0 op w hv ha rfl ex rfl rfl (Or.inl rfl) cx.1 cx.2 (more3 v times) rfl (away3 v)
  · exact wraps_none t v times a op w ht hv ha h1 h2 h3
end Go.Proofs.Ytfbdoaaicomdjaa
