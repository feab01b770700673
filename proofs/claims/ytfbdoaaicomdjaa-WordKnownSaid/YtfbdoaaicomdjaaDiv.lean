/-
  WordDivides: quotients and rests of any numbers: the law's walk.
-/
import Derived.Test.YtfbdoaaicomdjaaWd
import Derived.Test.YtfbdoaaicomdjaaRing
namespace Go.Proofs.Ytfbdoaaicomdjaa
open Go.RowKit Go.WideMaps Go.Maps
set_option linter.unusedVariables false
set_option linter.unusedSimpArgs false

theorem bn_div1 (a b : Int) : bn 1 [47] a b = (if wr 1 b = 0 then (0, 1) else if wr 1 a = -2147483648 ∧ wr 1 b = -1 then (0, 2) else ((wr 1 a).tdiv (wr 1 b), 0)) := rfl
theorem bn_rem1 (a b : Int) : bn 1 [37] a b = (if wr 1 b = 0 then (0, 1) else ((wr 1 a).tmod (wr 1 b), 0)) := rfl
theorem bn_div2 (a b : Int) (ha : (Lit.int .i64 a).wf = true) (hb : (Lit.int .i64 b).wf = true) : bn 2 [47] a b = (if wr 2 b = 0 then (0, 1) else if wr 2 a = -9223372036854775808 ∧ wr 2 b = -1 then (0, 2) else ((wr 2 a).tdiv (wr 2 b), 0)) := by
  rw [show wr 2 a = a from w64_id (bd64 ha), show wr 2 b = b from w64_id (bd64 hb)]; rfl
theorem bn_rem2 (a b : Int) (ha : (Lit.int .i64 a).wf = true) (hb : (Lit.int .i64 b).wf = true) : bn 2 [37] a b = (if wr 2 b = 0 then (0, 1) else ((wr 2 a).tmod (wr 2 b), 0)) := by
  rw [show wr 2 a = a from w64_id (bd64 ha), show wr 2 b = b from w64_id (bd64 hb)]; rfl

/-- A quotient and a rest: what they make together; which is nearer to 0; the sign. -/
theorem quot (x y : Int) (hx : -9223372036854775808 ≤ x ∧ x ≤ 9223372036854775807) (hy : y ≠ 0) :
    wrap64 (wrap64 (x.tdiv y * y) + x.tmod y) = x ∧ (x.tmod y).natAbs < y.natAbs ∧ (x.tmod y = 0 ∨ (x.tmod y < 0 ↔ x < 0)) := by
  have e : x.tdiv y * y + x.tmod y = x := by rw [Int.mul_comm]; exact Int.mul_tdiv_add_tmod x y
  refine ⟨?_, ?_, ?_⟩
  · have h : wrap64 (wrap64 (x.tdiv y * y) + x.tmod y) = wrap64 (x.tdiv y * y + x.tmod y) := by unfold wrap64; omega
    rw [h, e]; exact w64_id hx
  · rw [Int.natAbs_tmod]; exact Nat.mod_lt _ (by omega)
  · by_cases h : 0 ≤ x
    · have := Int.tmod_nonneg y h
      omega
    · have h1 := Int.tmod_nonneg y (a := -x) (by omega)
      rw [Int.neg_tmod] at h1
      omega

theorem near_any (a b : Int) (w : World) (ha1 : -9223372036854775808 ≤ a) (ha2 : a ≤ 9223372036854775807) (hb1 : -9223372036854775808 ≤ b) (hb2 : b ≤ 9223372036854775807) (h : a.natAbs < b.natAbs) :
    Calls Try.prog 19 #[.int .i64 a, .int .i64 b] w fun e w' => e = .returned (.bool true) ∧ w = w' := by
  have h0 : (0 < a ∨ a ≤ 0) ∧ (0 < b ∨ b ≤ 0) := ⟨by omega, by omega⟩
  rcases h0 with ⟨h1 | h1, h2 | h2⟩
  · have h3 : -b < -a := by omega
    clear h
    go_enter Try.func19, Try.ntmps19
    go_wp2
    go_ret
    exact ⟨by simp [h3], rfl⟩
  · have h3 : b < -a := by omega
    clear h
    go_enter Try.func19, Try.ntmps19
    go_wp2
    go_ret
    exact ⟨by simp [h3], rfl⟩
  · have h3 : -b < a := by omega
    clear h
    go_enter Try.func19, Try.ntmps19
    go_wp2
    go_ret
    exact ⟨by simp [h3], rfl⟩
  · have h3 : b < a := by omega
    clear h
    go_enter Try.func19, Try.ntmps19
    go_wp2
    go_ret
    exact ⟨by simp [h3], rfl⟩

set_option maxHeartbeats 1000000 in
theorem div1_zero (a b x : Int) (w : World) (ha : (Lit.int .i64 a).wf = true) (hb : (Lit.int .i64 b).wf = true) (HX : Hid (wr 1 a = x)) (HY : Hid (wr 1 b = 0)) :
    Calls Try.prog 6 #[.bool false, .int .i64 a, .int .i64 b] w fun e w' => e = .returned (.bool true) ∧ Below w.heap.size w w' := by
  have HQ : Hid (bn 1 [47] a b = (0, 1)) := by have h := bn_div1 a b; rw [if_pos HY.out] at h; exact h
  have HR : Hid (bn 1 [37] a b = (0, 1)) := by have h := bn_rem1 a b; rw [if_pos HY.out] at h; exact h
  go_enter Try.func6, Try.ntmps6
  go_wp2_with fail
  refine (kkind false _).mono ?_
  rintro e w' ⟨rfl, rfl⟩
  rw [show (if false then 2 else 1 : Int) = 1 from rfl]
  go_wp2_with fail
  refine (kbin _ _ (Below.refl _ _) 1 a b 0 1 _ [47] (by simp) HQ.out ha hb).mono ?_
  rintro e y1 ⟨rfl, hb1⟩
  go_wp2_with fail
  refine (kbin _ _ hb1 1 a b 0 1 _ [37] (by simp) HR.out ha hb).mono ?_
  rintro e y2 ⟨rfl, hb2⟩
  clear hb1
  go_wp2_with fail
  refine (kw _ _ hb2 1 a (by decide)).mono ?_
  rintro e y3 ⟨rfl, hb3⟩
  clear hb2
  rw [HX.out]
  go_wp2_with fail
  refine (kw _ _ hb3 1 b (by decide)).mono ?_
  rintro e y4 ⟨rfl, hb4⟩
  clear hb3
  rw [HY.out]
  go_wp2_with fail
  refine (kworks _ _ hb4).mono ?_
  rintro e y5 ⟨rfl, hb5⟩
  clear hb4
  go_wp2_with fail
  go_ret
  exact ⟨rfl, hb5⟩

set_option maxHeartbeats 1000000 in
theorem div1_least (a b : Int) (w : World) (ha : (Lit.int .i64 a).wf = true) (hb : (Lit.int .i64 b).wf = true) (HX : Hid (wr 1 a = -2147483648)) (HY : Hid (wr 1 b = -1)) :
    Calls Try.prog 6 #[.bool false, .int .i64 a, .int .i64 b] w fun e w' => e = .returned (.bool true) ∧ Below w.heap.size w w' := by
  have HQ : Hid (bn 1 [47] a b = (0, 2)) := by have h := bn_div1 a b; rw [HX.out, HY.out] at h; exact h
  have HR : Hid (bn 1 [37] a b = (0, 0)) := by have h := bn_rem1 a b; rw [HX.out, HY.out] at h; exact h
  go_enter Try.func6, Try.ntmps6
  go_wp2_with fail
  refine (kkind false _).mono ?_
  rintro e w' ⟨rfl, rfl⟩
  rw [show (if false then 2 else 1 : Int) = 1 from rfl]
  go_wp2_with fail
  refine (kbin _ _ (Below.refl _ _) 1 a b 0 2 _ [47] (by simp) HQ.out ha hb).mono ?_
  rintro e y1 ⟨rfl, hb1⟩
  go_wp2_with fail
  refine (kbin _ _ hb1 1 a b 0 0 _ [37] (by simp) HR.out ha hb).mono ?_
  rintro e y2 ⟨rfl, hb2⟩
  clear hb1
  go_wp2_with fail
  refine (kw _ _ hb2 1 a (by decide)).mono ?_
  rintro e y3 ⟨rfl, hb3⟩
  clear hb2
  rw [HX.out]
  go_wp2_with fail
  refine (kw _ _ hb3 1 b (by decide)).mono ?_
  rintro e y4 ⟨rfl, hb4⟩
  clear hb3
  rw [HY.out]
  go_wp2_with fail
  refine (kwidth _ _ hb4 1 (by decide)).mono ?_
  rintro e y5 ⟨rfl, hb5⟩
  clear hb4
  rw [show wd 1 = 32 from rfl]
  go_wp2_with fail
  refine (kworks _ _ hb5).mono ?_
  rintro e y6 ⟨rfl, hb6⟩
  clear hb5
  go_wp2_with fail
  go_ret
  exact ⟨rfl, hb6⟩

set_option maxHeartbeats 1000000 in
theorem div1_rest (a b x y q r : Int) (w : World) (ha : (Lit.int .i64 a).wf = true) (hb : (Lit.int .i64 b).wf = true) (HX : Hid (wr 1 a = x)) (HY : Hid (wr 1 b = y)) (hy0 : (y == 0) = false)
    (hor : (x == -2147483648) = false ∨ (x == -2147483648) = true ∧ (y == -1) = false) (HQ : Hid (bn 1 [47] a b = (q, 0))) (HR : Hid (bn 1 [37] a b = (r, 0)))
    (hq : (wrap64 (wrap64 (q * y) + r) == x) = true) (hr1 : -9223372036854775808 ≤ r) (hr2 : r ≤ 9223372036854775807) (hy1 : -9223372036854775808 ≤ y) (hy2 : y ≤ 9223372036854775807)
    (HN : Hid (r.natAbs < y.natAbs)) (hs : (r == 0) = true ∨ (r == 0) = false ∧ (r < 0 ∧ x < 0 ∨ 0 ≤ r ∧ 0 ≤ x)) :
    Calls Try.prog 6 #[.bool false, .int .i64 a, .int .i64 b] w fun e w' => e = .returned (.bool true) ∧ Below w.heap.size w w' := by
  have hcs : (x == -2147483648) = false ∧ (r == 0) = true ∨ (x == -2147483648) = false ∧ (r == 0) = false ∧ r < 0 ∧ x < 0 ∨ (x == -2147483648) = false ∧ (r == 0) = false ∧ 0 ≤ r ∧ 0 ≤ x ∨ 
      (x == -2147483648) = true ∧ (y == -1) = false ∧ (r == 0) = true ∨ (x == -2147483648) = true ∧ (y == -1) = false ∧ (r == 0) = false ∧ r < 0 ∧ x < 0 ∨ (x == -2147483648) = true ∧ (y == -1) = false ∧ (r == 0) = false ∧ 0 ≤ r ∧ 0 ≤ x := by
    rcases hor with h1 | ⟨h1, h2⟩ <;> rcases hs with h3 | ⟨h3, h4 | h4⟩ <;> simp [*]
  clear hor hs
  rcases hcs with ⟨k1, k2⟩ | ⟨k1, k2, k3, k4⟩ | ⟨k1, k2, k3, k4⟩ | ⟨k1, k2, k3⟩ | ⟨k1, k2, k3, k4, k5⟩ | ⟨k1, k2, k3, k4, k5⟩
  all_goals
    go_enter Try.func6, Try.ntmps6
    go_wp2_with fail
    refine (kkind false _).mono ?_
    rintro e w' ⟨rfl, rfl⟩
    rw [show (if false then 2 else 1 : Int) = 1 from rfl]
    go_wp2_with fail
    refine (kbin _ _ (Below.refl _ _) 1 a b q 0 _ [47] (by simp) HQ.out ha hb).mono ?_
    rintro e y1 ⟨rfl, hb1⟩
    go_wp2_with fail
    refine (kbin _ _ hb1 1 a b r 0 _ [37] (by simp) HR.out ha hb).mono ?_
    rintro e y2 ⟨rfl, hb2⟩
    clear hb1
    go_wp2_with fail
    refine (kw _ _ hb2 1 a (by decide)).mono ?_
    rintro e y3 ⟨rfl, hb3⟩
    clear hb2
    rw [HX.out]
    go_wp2_with fail
    refine (kw _ _ hb3 1 b (by decide)).mono ?_
    rintro e y4 ⟨rfl, hb4⟩
    clear hb3
    rw [HY.out]
    go_wp2_with fail
    refine (kwidth _ _ hb4 1 (by decide)).mono ?_
    rintro e y5 ⟨rfl, hb5⟩
    clear hb4
    rw [show wd 1 = 32 from rfl]
    go_wp2_with fail
    refine (near_any r y _ hr1 hr2 hy1 hy2 HN.out).mono ?_
    rintro e w' ⟨rfl, rfl⟩
    go_wp2_with fail
    refine (kworks _ _ hb5).mono ?_
    rintro e y6 ⟨rfl, hb6⟩
    clear hb5
    go_wp2_with fail
    go_ret
    exact ⟨rfl, hb6⟩

theorem div1_walk (a b : Int) (w : World) (ha : (Lit.int .i64 a).wf = true) (hb : (Lit.int .i64 b).wf = true) :
    Calls Try.prog 6 #[.bool false, .int .i64 a, .int .i64 b] w fun e w' => e = .returned (.bool true) ∧ Below w.heap.size w w' := by
  have hx := wr_bd 1 a
  have hyb := wr_bd 1 b
  by_cases h0 : wr 1 b = 0
  · exact div1_zero a b _ w ha hb rfl h0
  by_cases h1 : wr 1 a = -2147483648 ∧ wr 1 b = -1
  · exact div1_least a b w ha hb h1.1 h1.2
  have eq := bn_div1 a b
  have er := bn_rem1 a b
  rw [if_neg h0, if_neg h1] at eq
  rw [if_neg h0] at er
  obtain ⟨q1, q2, q3⟩ := quot (wr 1 a) (wr 1 b) hx h0
  refine div1_rest a b _ _ _ _ w ha hb rfl rfl (by simpa using h0) ?_ eq er (by rw [q1]; simp) (by omega) (by omega) hyb.1 hyb.2 q2 ?_
  · by_cases h2 : wr 1 a = -2147483648
    · exact Or.inr ⟨by simpa using h2, by simpa using fun h => h1 ⟨h2, h⟩⟩
    · exact Or.inl (by simpa using h2)
  · by_cases h3 : (wr 1 a).tmod (wr 1 b) = 0
    · exact Or.inl (by simpa using h3)
    · exact Or.inr ⟨by simpa using h3, by omega⟩

set_option maxHeartbeats 1000000 in
theorem div2_zero (a b x : Int) (w : World) (ha : (Lit.int .i64 a).wf = true) (hb : (Lit.int .i64 b).wf = true) (HX : Hid (wr 2 a = x)) (HY : Hid (wr 2 b = 0)) :
    Calls Try.prog 6 #[.bool true, .int .i64 a, .int .i64 b] w fun e w' => e = .returned (.bool true) ∧ Below w.heap.size w w' := by
  have HQ : Hid (bn 2 [47] a b = (0, 1)) := by have h := bn_div2 a b ha hb; rw [if_pos HY.out] at h; exact h
  have HR : Hid (bn 2 [37] a b = (0, 1)) := by have h := bn_rem2 a b ha hb; rw [if_pos HY.out] at h; exact h
  go_enter Try.func6, Try.ntmps6
  go_wp2_with fail
  refine (kkind true _).mono ?_
  rintro e w' ⟨rfl, rfl⟩
  rw [show (if true then 2 else 1 : Int) = 2 from rfl]
  go_wp2_with fail
  refine (kbin _ _ (Below.refl _ _) 2 a b 0 1 _ [47] (by simp) HQ.out ha hb).mono ?_
  rintro e y1 ⟨rfl, hb1⟩
  go_wp2_with fail
  refine (kbin _ _ hb1 2 a b 0 1 _ [37] (by simp) HR.out ha hb).mono ?_
  rintro e y2 ⟨rfl, hb2⟩
  clear hb1
  go_wp2_with fail
  refine (kw _ _ hb2 2 a (by decide)).mono ?_
  rintro e y3 ⟨rfl, hb3⟩
  clear hb2
  rw [HX.out]
  go_wp2_with fail
  refine (kw _ _ hb3 2 b (by decide)).mono ?_
  rintro e y4 ⟨rfl, hb4⟩
  clear hb3
  rw [HY.out]
  go_wp2_with fail
  refine (kworks _ _ hb4).mono ?_
  rintro e y5 ⟨rfl, hb5⟩
  clear hb4
  go_wp2_with fail
  go_ret
  exact ⟨rfl, hb5⟩

set_option maxHeartbeats 1000000 in
theorem div2_least (a b : Int) (w : World) (ha : (Lit.int .i64 a).wf = true) (hb : (Lit.int .i64 b).wf = true) (HX : Hid (wr 2 a = -9223372036854775808)) (HY : Hid (wr 2 b = -1)) :
    Calls Try.prog 6 #[.bool true, .int .i64 a, .int .i64 b] w fun e w' => e = .returned (.bool true) ∧ Below w.heap.size w w' := by
  have HQ : Hid (bn 2 [47] a b = (0, 2)) := by have h := bn_div2 a b ha hb; rw [HX.out, HY.out] at h; exact h
  have HR : Hid (bn 2 [37] a b = (0, 0)) := by have h := bn_rem2 a b ha hb; rw [HX.out, HY.out] at h; exact h
  go_enter Try.func6, Try.ntmps6
  go_wp2_with fail
  refine (kkind true _).mono ?_
  rintro e w' ⟨rfl, rfl⟩
  rw [show (if true then 2 else 1 : Int) = 2 from rfl]
  go_wp2_with fail
  refine (kbin _ _ (Below.refl _ _) 2 a b 0 2 _ [47] (by simp) HQ.out ha hb).mono ?_
  rintro e y1 ⟨rfl, hb1⟩
  go_wp2_with fail
  refine (kbin _ _ hb1 2 a b 0 0 _ [37] (by simp) HR.out ha hb).mono ?_
  rintro e y2 ⟨rfl, hb2⟩
  clear hb1
  go_wp2_with fail
  refine (kw _ _ hb2 2 a (by decide)).mono ?_
  rintro e y3 ⟨rfl, hb3⟩
  clear hb2
  rw [HX.out]
  go_wp2_with fail
  refine (kw _ _ hb3 2 b (by decide)).mono ?_
  rintro e y4 ⟨rfl, hb4⟩
  clear hb3
  rw [HY.out]
  go_wp2_with fail
  refine (kwidth _ _ hb4 2 (by decide)).mono ?_
  rintro e y5 ⟨rfl, hb5⟩
  clear hb4
  rw [show wd 2 = 64 from rfl]
  go_wp2_with fail
  refine (kworks _ _ hb5).mono ?_
  rintro e y6 ⟨rfl, hb6⟩
  clear hb5
  go_wp2_with fail
  go_ret
  exact ⟨rfl, hb6⟩

set_option maxHeartbeats 1000000 in
theorem div2_rest (a b x y q r : Int) (w : World) (ha : (Lit.int .i64 a).wf = true) (hb : (Lit.int .i64 b).wf = true) (HX : Hid (wr 2 a = x)) (HY : Hid (wr 2 b = y)) (hy0 : (y == 0) = false)
    (hor : (x == -9223372036854775808) = false ∨ (x == -9223372036854775808) = true ∧ (y == -1) = false) (HQ : Hid (bn 2 [47] a b = (q, 0))) (HR : Hid (bn 2 [37] a b = (r, 0)))
    (hq : (wrap64 (wrap64 (q * y) + r) == x) = true) (hr1 : -9223372036854775808 ≤ r) (hr2 : r ≤ 9223372036854775807) (hy1 : -9223372036854775808 ≤ y) (hy2 : y ≤ 9223372036854775807)
    (HN : Hid (r.natAbs < y.natAbs)) (hs : (r == 0) = true ∨ (r == 0) = false ∧ (r < 0 ∧ x < 0 ∨ 0 ≤ r ∧ 0 ≤ x)) :
    Calls Try.prog 6 #[.bool true, .int .i64 a, .int .i64 b] w fun e w' => e = .returned (.bool true) ∧ Below w.heap.size w w' := by
  have hcs : (x == -9223372036854775808) = false ∧ (r == 0) = true ∨ (x == -9223372036854775808) = false ∧ (r == 0) = false ∧ r < 0 ∧ x < 0 ∨ (x == -9223372036854775808) = false ∧ (r == 0) = false ∧ 0 ≤ r ∧ 0 ≤ x ∨ 
      (x == -9223372036854775808) = true ∧ (y == -1) = false ∧ (r == 0) = true ∨ (x == -9223372036854775808) = true ∧ (y == -1) = false ∧ (r == 0) = false ∧ r < 0 ∧ x < 0 ∨ (x == -9223372036854775808) = true ∧ (y == -1) = false ∧ (r == 0) = false ∧ 0 ≤ r ∧ 0 ≤ x := by
    rcases hor with h1 | ⟨h1, h2⟩ <;> rcases hs with h3 | ⟨h3, h4 | h4⟩ <;> simp [*]
  clear hor hs
  rcases hcs with ⟨k1, k2⟩ | ⟨k1, k2, k3, k4⟩ | ⟨k1, k2, k3, k4⟩ | ⟨k1, k2, k3⟩ | ⟨k1, k2, k3, k4, k5⟩ | ⟨k1, k2, k3, k4, k5⟩
  all_goals
    go_enter Try.func6, Try.ntmps6
    go_wp2_with fail
    refine (kkind true _).mono ?_
    rintro e w' ⟨rfl, rfl⟩
    rw [show (if true then 2 else 1 : Int) = 2 from rfl]
    go_wp2_with fail
    refine (kbin _ _ (Below.refl _ _) 2 a b q 0 _ [47] (by simp) HQ.out ha hb).mono ?_
    rintro e y1 ⟨rfl, hb1⟩
    go_wp2_with fail
    refine (kbin _ _ hb1 2 a b r 0 _ [37] (by simp) HR.out ha hb).mono ?_
    rintro e y2 ⟨rfl, hb2⟩
    clear hb1
    go_wp2_with fail
    refine (kw _ _ hb2 2 a (by decide)).mono ?_
    rintro e y3 ⟨rfl, hb3⟩
    clear hb2
    rw [HX.out]
    go_wp2_with fail
    refine (kw _ _ hb3 2 b (by decide)).mono ?_
    rintro e y4 ⟨rfl, hb4⟩
    clear hb3
    rw [HY.out]
    go_wp2_with fail
    refine (kwidth _ _ hb4 2 (by decide)).mono ?_
    rintro e y5 ⟨rfl, hb5⟩
    clear hb4
    rw [show wd 2 = 64 from rfl]
    go_wp2_with fail
    refine (near_any r y _ hr1 hr2 hy1 hy2 HN.out).mono ?_
    rintro e w' ⟨rfl, rfl⟩
    go_wp2_with fail
    refine (kworks _ _ hb5).mono ?_
    rintro e y6 ⟨rfl, hb6⟩
    clear hb5
    go_wp2_with fail
    go_ret
    exact ⟨rfl, hb6⟩

theorem div2_walk (a b : Int) (w : World) (ha : (Lit.int .i64 a).wf = true) (hb : (Lit.int .i64 b).wf = true) :
    Calls Try.prog 6 #[.bool true, .int .i64 a, .int .i64 b] w fun e w' => e = .returned (.bool true) ∧ Below w.heap.size w w' := by
  have hx := wr_bd 2 a
  have hyb := wr_bd 2 b
  by_cases h0 : wr 2 b = 0
  · exact div2_zero a b _ w ha hb rfl h0
  by_cases h1 : wr 2 a = -9223372036854775808 ∧ wr 2 b = -1
  · exact div2_least a b w ha hb h1.1 h1.2
  have eq := bn_div2 a b ha hb
  have er := bn_rem2 a b ha hb
  rw [if_neg h0, if_neg h1] at eq
  rw [if_neg h0] at er
  obtain ⟨q1, q2, q3⟩ := quot (wr 2 a) (wr 2 b) hx h0
  refine div2_rest a b _ _ _ _ w ha hb rfl rfl (by simpa using h0) ?_ eq er (by rw [q1]; simp) (by omega) (by omega) hyb.1 hyb.2 q2 ?_
  · by_cases h2 : wr 2 a = -9223372036854775808
    · exact Or.inr ⟨by simpa using h2, by simpa using fun h => h1 ⟨h2, h⟩⟩
    · exact Or.inl (by simpa using h2)
  · by_cases h3 : (wr 2 a).tmod (wr 2 b) = 0
    · exact Or.inl (by simpa using h3)
    · exact Or.inr ⟨by simpa using h3, by omega⟩

theorem div_walk (long : Bool) (a b : Int) (w : World) (ha : (Lit.int .i64 a).wf = true) (hb : (Lit.int .i64 b).wf = true) :
    Calls Try.prog 6 #[.bool long, .int .i64 a, .int .i64 b] w fun e w' => e = .returned (.bool true) ∧ Below w.heap.size w w' := by
  cases long
  · exact div1_walk a b w ha hb
  · exact div2_walk a b w ha hb
end Go.Proofs.Ytfbdoaaicomdjaa
