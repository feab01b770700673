/-
  WordOrder: of two numbers just one of three holds: the law's walk.
-/
import Derived.Test.YtfbdoaaicomdjaaWd
import Derived.Test.YtfbdoaaicomdjaaRing
namespace Go.Proofs.Ytfbdoaaicomdjaa
open Go.RowKit Go.WideMaps Go.Maps
set_option linter.unusedVariables false
set_option linter.unusedSimpArgs false

set_option maxHeartbeats 1000000 in
theorem order_walk (long : Bool) (a b : Int) (w : World) (ha : (Lit.int .i64 a).wf = true) (hb : (Lit.int .i64 b).wf = true) :
    Calls Try.prog 8 #[.bool long, .int .i64 a, .int .i64 b] w fun e w' => e = .returned (.bool true) ∧ Below w.heap.size w w' := by
  obtain ⟨t, HT, ht⟩ : ∃ t : Int, Hid ((if long then 2 else 1 : Int) = t) ∧ Hid (t = 1 ∨ t = 2) := by
    cases long
    · exact ⟨1, rfl, Or.inl rfl⟩
    · exact ⟨2, rfl, Or.inr rfl⟩
  have htw : (Lit.int .i64 t).wf = true := by rcases ht.out with rfl | rfl <;> decide
  obtain ⟨c1, c2, c3, c4, c5, c6⟩ := bn_cmp t a b ht.out ha hb
  have c7 := (bn_cmp t b a ht.out hb ha).2.2.2.2.1
  obtain ⟨x, HX⟩ : ∃ x, Hid (wr t a = x) := ⟨_, rfl⟩
  obtain ⟨y, HY⟩ : ∃ y, Hid (wr t b = y) := ⟨_, rfl⟩
  rw [HX.out, HY.out] at c1 c2 c3 c4 c5 c6 c7
  have hxy : x < y ∨ x = y ∨ y < x := by omega
  rcases hxy with hxy | hxy | hxy
  · have C1 : Hid (bn t [61, 61] a b = (0, 0)) := by rw [c1]; exact Prod.ext (by first | (simp [tr]; done) | (simp [tr]; omega)) rfl
    have C2 : Hid (bn t [33, 61] a b = (1, 0)) := by rw [c2]; exact Prod.ext (by first | (simp [tr]; done) | (simp [tr]; omega)) rfl
    have C3 : Hid (bn t [60] a b = (1, 0)) := by rw [c3]; exact Prod.ext (by first | (simp [tr]; done) | (simp [tr]; omega)) rfl
    have C4 : Hid (bn t [60, 61] a b = (1, 0)) := by rw [c4]; exact Prod.ext (by first | (simp [tr]; done) | (simp [tr]; omega)) rfl
    have C5 : Hid (bn t [62] a b = (0, 0)) := by rw [c5]; exact Prod.ext (by first | (simp [tr]; done) | (simp [tr]; omega)) rfl
    have C6 : Hid (bn t [62, 61] a b = (0, 0)) := by rw [c6]; exact Prod.ext (by first | (simp [tr]; done) | (simp [tr]; omega)) rfl
    have C7 : Hid (bn t [62] b a = (1, 0)) := by rw [c7]; exact Prod.ext (by first | (simp [tr]; done) | (simp [tr]; omega)) rfl
    clear c1 c2 c3 c4 c5 c6 c7
    have hne : (x == y) = false := by simp; omega
    go_enter Try.func8, Try.ntmps8
    go_wp2_with fail
    refine (kkind long _).mono ?_
    rintro e w' ⟨rfl, rfl⟩
    rw [HT.out]
    go_wp2_with fail
    refine (kw w _ (Below.refl _ _) t a htw).mono ?_
    rintro e w1 ⟨rfl, hb1⟩
    rw [HX.out]
    go_wp2_with fail
    refine (kw w _ hb1 t b htw).mono ?_
    rintro e w2 ⟨rfl, hb2⟩
    clear hb1
    rw [HY.out]
    go_wp2_with fail
    refine (klb w _ hb2 _ a b _ _ [60] (by simp) C3.out ha hb).mono ?_
    rintro e w3 ⟨rfl, hb3⟩
    clear hb2
    go_wp2_with fail
    refine (klb w _ hb3 _ a b _ _ [61, 61] (by simp) C1.out ha hb).mono ?_
    rintro e w4 ⟨rfl, hb4⟩
    clear hb3
    go_wp2_with fail
    refine (klb w _ hb4 _ a b _ _ [62] (by simp) C5.out ha hb).mono ?_
    rintro e w5 ⟨rfl, hb5⟩
    clear hb4
    go_wp2_with fail
    refine (klb w _ hb5 _ a b _ _ [60, 61] (by simp) C4.out ha hb).mono ?_
    rintro e w6 ⟨rfl, hb6⟩
    clear hb5
    go_wp2_with fail
    refine (klb w _ hb6 _ a b _ _ [62, 61] (by simp) C6.out ha hb).mono ?_
    rintro e w7 ⟨rfl, hb7⟩
    clear hb6
    go_wp2_with fail
    refine (klb w _ hb7 _ a b _ _ [33, 61] (by simp) C2.out ha hb).mono ?_
    rintro e w8 ⟨rfl, hb8⟩
    clear hb7
    go_wp2_with fail
    refine (klb w _ hb8 _ b a _ _ [62] (by simp) C7.out hb ha).mono ?_
    rintro e w9 ⟨rfl, hb9⟩
    clear hb8
    go_wp2_with fail
    refine (kworks w _ hb9).mono ?_
    rintro e w10 ⟨rfl, hb10⟩
    clear hb9
    go_wp2_with fail
    go_ret
    exact ⟨rfl, hb10⟩
  · subst hxy
    have C1 : Hid (bn t [61, 61] a b = (1, 0)) := by rw [c1]; exact Prod.ext (by first | (simp [tr]; done) | (simp [tr]; omega)) rfl
    have C2 : Hid (bn t [33, 61] a b = (0, 0)) := by rw [c2]; exact Prod.ext (by first | (simp [tr]; done) | (simp [tr]; omega)) rfl
    have C3 : Hid (bn t [60] a b = (0, 0)) := by rw [c3]; exact Prod.ext (by first | (simp [tr]; done) | (simp [tr]; omega)) rfl
    have C4 : Hid (bn t [60, 61] a b = (1, 0)) := by rw [c4]; exact Prod.ext (by first | (simp [tr]; done) | (simp [tr]; omega)) rfl
    have C5 : Hid (bn t [62] a b = (0, 0)) := by rw [c5]; exact Prod.ext (by first | (simp [tr]; done) | (simp [tr]; omega)) rfl
    have C6 : Hid (bn t [62, 61] a b = (1, 0)) := by rw [c6]; exact Prod.ext (by first | (simp [tr]; done) | (simp [tr]; omega)) rfl
    have C7 : Hid (bn t [62] b a = (0, 0)) := by rw [c7]; exact Prod.ext (by first | (simp [tr]; done) | (simp [tr]; omega)) rfl
    clear c1 c2 c3 c4 c5 c6 c7
    go_enter Try.func8, Try.ntmps8
    go_wp2_with fail
    refine (kkind long _).mono ?_
    rintro e w' ⟨rfl, rfl⟩
    rw [HT.out]
    go_wp2_with fail
    refine (kw w _ (Below.refl _ _) t a htw).mono ?_
    rintro e w1 ⟨rfl, hb1⟩
    rw [HX.out]
    go_wp2_with fail
    refine (kw w _ hb1 t b htw).mono ?_
    rintro e w2 ⟨rfl, hb2⟩
    clear hb1
    rw [HY.out]
    go_wp2_with fail
    refine (klb w _ hb2 _ a b _ _ [60] (by simp) C3.out ha hb).mono ?_
    rintro e w3 ⟨rfl, hb3⟩
    clear hb2
    go_wp2_with fail
    refine (klb w _ hb3 _ a b _ _ [61, 61] (by simp) C1.out ha hb).mono ?_
    rintro e w4 ⟨rfl, hb4⟩
    clear hb3
    go_wp2_with fail
    refine (klb w _ hb4 _ a b _ _ [62] (by simp) C5.out ha hb).mono ?_
    rintro e w5 ⟨rfl, hb5⟩
    clear hb4
    go_wp2_with fail
    refine (klb w _ hb5 _ a b _ _ [60, 61] (by simp) C4.out ha hb).mono ?_
    rintro e w6 ⟨rfl, hb6⟩
    clear hb5
    go_wp2_with fail
    refine (klb w _ hb6 _ a b _ _ [62, 61] (by simp) C6.out ha hb).mono ?_
    rintro e w7 ⟨rfl, hb7⟩
    clear hb6
    go_wp2_with fail
    refine (klb w _ hb7 _ a b _ _ [33, 61] (by simp) C2.out ha hb).mono ?_
    rintro e w8 ⟨rfl, hb8⟩
    clear hb7
    go_wp2_with fail
    refine (klb w _ hb8 _ b a _ _ [62] (by simp) C7.out hb ha).mono ?_
    rintro e w9 ⟨rfl, hb9⟩
    clear hb8
    go_wp2_with fail
    refine (kworks w _ hb9).mono ?_
    rintro e w10 ⟨rfl, hb10⟩
    clear hb9
    go_wp2_with fail
    go_ret
    exact ⟨rfl, hb10⟩
  · have C1 : Hid (bn t [61, 61] a b = (0, 0)) := by rw [c1]; exact Prod.ext (by first | (simp [tr]; done) | (simp [tr]; omega)) rfl
    have C2 : Hid (bn t [33, 61] a b = (1, 0)) := by rw [c2]; exact Prod.ext (by first | (simp [tr]; done) | (simp [tr]; omega)) rfl
    have C3 : Hid (bn t [60] a b = (0, 0)) := by rw [c3]; exact Prod.ext (by first | (simp [tr]; done) | (simp [tr]; omega)) rfl
    have C4 : Hid (bn t [60, 61] a b = (0, 0)) := by rw [c4]; exact Prod.ext (by first | (simp [tr]; done) | (simp [tr]; omega)) rfl
    have C5 : Hid (bn t [62] a b = (1, 0)) := by rw [c5]; exact Prod.ext (by first | (simp [tr]; done) | (simp [tr]; omega)) rfl
    have C6 : Hid (bn t [62, 61] a b = (1, 0)) := by rw [c6]; exact Prod.ext (by first | (simp [tr]; done) | (simp [tr]; omega)) rfl
    have C7 : Hid (bn t [62] b a = (0, 0)) := by rw [c7]; exact Prod.ext (by first | (simp [tr]; done) | (simp [tr]; omega)) rfl
    clear c1 c2 c3 c4 c5 c6 c7
    have hne : (x == y) = false := by simp; omega
    go_enter Try.func8, Try.ntmps8
    go_wp2_with fail
    refine (kkind long _).mono ?_
    rintro e w' ⟨rfl, rfl⟩
    rw [HT.out]
    go_wp2_with fail
    refine (kw w _ (Below.refl _ _) t a htw).mono ?_
    rintro e w1 ⟨rfl, hb1⟩
    rw [HX.out]
    go_wp2_with fail
    refine (kw w _ hb1 t b htw).mono ?_
    rintro e w2 ⟨rfl, hb2⟩
    clear hb1
    rw [HY.out]
    go_wp2_with fail
    refine (klb w _ hb2 _ a b _ _ [60] (by simp) C3.out ha hb).mono ?_
    rintro e w3 ⟨rfl, hb3⟩
    clear hb2
    go_wp2_with fail
    refine (klb w _ hb3 _ a b _ _ [61, 61] (by simp) C1.out ha hb).mono ?_
    rintro e w4 ⟨rfl, hb4⟩
    clear hb3
    go_wp2_with fail
    refine (klb w _ hb4 _ a b _ _ [62] (by simp) C5.out ha hb).mono ?_
    rintro e w5 ⟨rfl, hb5⟩
    clear hb4
    go_wp2_with fail
    refine (klb w _ hb5 _ a b _ _ [60, 61] (by simp) C4.out ha hb).mono ?_
    rintro e w6 ⟨rfl, hb6⟩
    clear hb5
    go_wp2_with fail
    refine (klb w _ hb6 _ a b _ _ [62, 61] (by simp) C6.out ha hb).mono ?_
    rintro e w7 ⟨rfl, hb7⟩
    clear hb6
    go_wp2_with fail
    refine (klb w _ hb7 _ a b _ _ [33, 61] (by simp) C2.out ha hb).mono ?_
    rintro e w8 ⟨rfl, hb8⟩
    clear hb7
    go_wp2_with fail
    refine (klb w _ hb8 _ b a _ _ [62] (by simp) C7.out hb ha).mono ?_
    rintro e w9 ⟨rfl, hb9⟩
    clear hb8
    go_wp2_with fail
    refine (kworks w _ hb9).mono ?_
    rintro e w10 ⟨rfl, hb10⟩
    clear hb9
    go_wp2_with fail
    go_ret
    exact ⟨rfl, hb10⟩
end Go.Proofs.Ytfbdoaaicomdjaa
