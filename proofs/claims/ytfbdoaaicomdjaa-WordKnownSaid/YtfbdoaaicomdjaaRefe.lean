/-
  THE WALK of the document's answer for layer word (mortiseref01.Bin): it is what the code answers.
-/
import Derived.Test.YtfbdoaaicomdjaaRefd
namespace Go.Proofs.Ytfbdoaaicomdjaa
open Go.RowKit Go.WideMaps Go.Maps
set_option linter.unusedVariables false
set_option linter.unusedSimpArgs false

theorem rdiv1_div_any (a b : Int) (op : ByteArray) (w : World) (hop : op.toList = [47]) (ha1 : -2147483648 ≤ a) (ha2 : a ≤ 2147483647) :
    Calls Try.prog 23 #[.int .i64 1, .string op, .int .i64 a, .int .i64 b] w fun e w' => e = .returned (.tuple #[.int .i64 (bn32 [47] a b).1, .int .i64 (bn32 [47] a b).2]) ∧ w = w' := by
  have hx : bn32 [47] a b = (if b = 0 then (0, 1) else if a = -2147483648 ∧ b = -1 then (0, 2) else (a.tdiv b, 0)) := rfl
  by_cases h0 : b = 0
  · subst h0
    exact (rdiv1_div0 a op w hop).mono fun e w' h => ⟨by rw [h.1]; exact two_eq (by rw [hx, if_pos rfl]), h.2⟩
  by_cases h1 : b = -1
  · subst h1
    by_cases h2 : a = -2147483648
    · subst h2
      exact (rdiv1_divo op w hop).mono fun e w' h => ⟨by rw [h.1]; exact two_eq (by rw [hx, if_neg (by decide), if_pos ⟨rfl, rfl⟩]), h.2⟩
    · exact (rdiv1_div1 a op w hop (by omega) ha2).mono fun e w' h => ⟨by rw [h.1]; exact two_eq (by rw [hx, if_neg (by decide), if_neg (fun e => h2 e.1), Int.tdiv_neg, Int.tdiv_one]), h.2⟩
  · exact (rdiv1_div a b op w hop ha1 ha2 (by simpa using h0) (by simpa using h1)).mono fun e w' h => ⟨by rw [h.1]; exact two_eq (by rw [hx, if_neg h0, if_neg (fun e => h1 e.2)]), h.2⟩
theorem rdiv1_rem_any (a b : Int) (op : ByteArray) (w : World) (hop : op.toList = [37]) (ha1 : -2147483648 ≤ a) (ha2 : a ≤ 2147483647) :
    Calls Try.prog 23 #[.int .i64 1, .string op, .int .i64 a, .int .i64 b] w fun e w' => e = .returned (.tuple #[.int .i64 (bn32 [37] a b).1, .int .i64 (bn32 [37] a b).2]) ∧ w = w' := by
  have hx : bn32 [37] a b = (if b = 0 then (0, 1) else (a.tmod b, 0)) := rfl
  by_cases h0 : b = 0
  · subst h0
    exact (rdiv1_rem0 a op w hop).mono fun e w' h => ⟨by rw [h.1]; exact two_eq (by rw [hx, if_pos rfl]), h.2⟩
  by_cases h1 : b = -1
  · subst h1
    exact (rdiv1_rem1 a op w hop).mono fun e w' h => ⟨by rw [h.1]; exact two_eq (by rw [hx, if_neg (by decide), Int.tmod_neg, Int.tmod_one]), h.2⟩
  · exact (rdiv1_rem a b op w hop ha1 ha2 (by simpa using h0) (by simpa using h1)).mono fun e w' h => ⟨by rw [h.1]; exact two_eq (by rw [hx, if_neg h0]), h.2⟩
theorem rdiv2_div_any (a b : Int) (op : ByteArray) (w : World) (hop : op.toList = [47]) (ha1 : -9223372036854775808 ≤ a) (ha2 : a ≤ 9223372036854775807) :
    Calls Try.prog 23 #[.int .i64 2, .string op, .int .i64 a, .int .i64 b] w fun e w' => e = .returned (.tuple #[.int .i64 (bn64 [47] a b).1, .int .i64 (bn64 [47] a b).2]) ∧ w = w' := by
  have hx : bn64 [47] a b = (if b = 0 then (0, 1) else if a = -9223372036854775808 ∧ b = -1 then (0, 2) else (a.tdiv b, 0)) := rfl
  by_cases h0 : b = 0
  · subst h0
    exact (rdiv2_div0 a op w hop).mono fun e w' h => ⟨by rw [h.1]; exact two_eq (by rw [hx, if_pos rfl]), h.2⟩
  by_cases h1 : b = -1
  · subst h1
    by_cases h2 : a = -9223372036854775808
    · subst h2
      exact (rdiv2_divo op w hop).mono fun e w' h => ⟨by rw [h.1]; exact two_eq (by rw [hx, if_neg (by decide), if_pos ⟨rfl, rfl⟩]), h.2⟩
    · exact (rdiv2_div1 a op w hop (by omega) ha2).mono fun e w' h => ⟨by rw [h.1]; exact two_eq (by rw [hx, if_neg (by decide), if_neg (fun e => h2 e.1), Int.tdiv_neg, Int.tdiv_one]), h.2⟩
  · exact (rdiv2_div a b op w hop ha1 ha2 (by simpa using h0) (by simpa using h1)).mono fun e w' h => ⟨by rw [h.1]; exact two_eq (by rw [hx, if_neg h0, if_neg (fun e => h1 e.2)]), h.2⟩
theorem rdiv2_rem_any (a b : Int) (op : ByteArray) (w : World) (hop : op.toList = [37]) (ha1 : -9223372036854775808 ≤ a) (ha2 : a ≤ 9223372036854775807) :
    Calls Try.prog 23 #[.int .i64 2, .string op, .int .i64 a, .int .i64 b] w fun e w' => e = .returned (.tuple #[.int .i64 (bn64 [37] a b).1, .int .i64 (bn64 [37] a b).2]) ∧ w = w' := by
  have hx : bn64 [37] a b = (if b = 0 then (0, 1) else (a.tmod b, 0)) := rfl
  by_cases h0 : b = 0
  · subst h0
    exact (rdiv2_rem0 a op w hop).mono fun e w' h => ⟨by rw [h.1]; exact two_eq (by rw [hx, if_pos rfl]), h.2⟩
  by_cases h1 : b = -1
  · subst h1
    exact (rdiv2_rem1 a op w hop).mono fun e w' h => ⟨by rw [h.1]; exact two_eq (by rw [hx, if_neg (by decide), Int.tmod_neg, Int.tmod_one]), h.2⟩
  · exact (rdiv2_rem a b op w hop ha1 ha2 (by simpa using h0) (by simpa using h1)).mono fun e w' h => ⟨by rw [h.1]; exact two_eq (by rw [hx, if_neg h0]), h.2⟩
set_option maxRecDepth 100000 in
set_option maxHeartbeats 1000000 in
theorem rbin1_add (a b x y : Int) (op : ByteArray) (w : World) (hop : op.toList = [43]) (ha : (Lit.int .i64 a).wf = true) (hb : (Lit.int .i64 b).wf = true) (HX : Hid (wr 1 a = x)) (HY : Hid (wr 1 b = y))
    (hx1 : -2147483648 ≤ x) (hx2 : x ≤ 2147483647) (hy1 : -2147483648 ≤ y) (hy2 : y ≤ 2147483647) :
    Calls Try.prog 11 #[.int .i64 1, .string op, .int .i64 a, .int .i64 b] w fun e w' => e = .returned (.tuple #[.int .i64 (wr 1 (x + y)), .int .i64 (0)]) ∧ w = w' := by
  have f0 : (op.toList == [43]) = true := by rw [hop]; rfl
  have f1 : (op.toList == [45]) = false := by rw [hop]; rfl
  have f2 : (op.toList == [42]) = false := by rw [hop]; rfl
  have f3 : (op.toList == [47]) = false := by rw [hop]; rfl
  have f4 : (op.toList == [37]) = false := by rw [hop]; rfl
  have f5 : (op.toList == [38]) = false := by rw [hop]; rfl
  have f6 : (op.toList == [124]) = false := by rw [hop]; rfl
  have f7 : (op.toList == [94]) = false := by rw [hop]; rfl
  have f8 : (op.toList == [60, 60]) = false := by rw [hop]; rfl
  have f9 : (op.toList == [62, 62]) = false := by rw [hop]; rfl
  have f10 : (op.toList == [61, 61]) = false := by rw [hop]; rfl
  have f11 : (op.toList == [33, 61]) = false := by rw [hop]; rfl
  have f12 : (op.toList == [60]) = false := by rw [hop]; rfl
  have f13 : (op.toList == [60, 61]) = false := by rw [hop]; rfl
  have f14 : (op.toList == [62]) = false := by rw [hop]; rfl
  have f15 : (op.toList == [62, 61]) = false := by rw [hop]; rfl
  have H := Lib.hid hop
  clear hop
  go_enter Try.func11, Try.ntmps11
  go_wp2_with fail
  refine (rwrap 1 a _ ha).mono ?_
  rintro e w' ⟨rfl, rfl⟩
  rw [HX.out]
  go_wp2_with fail
  refine (rwrap 1 b _ hb).mono ?_
  rintro e w' ⟨rfl, rfl⟩
  rw [HY.out]
  go_wp2_with fail
  refine (rwrap 1 _ _ (by first | exact wrap64_wf _ | exact wf_of (by omega))).mono ?_
  rintro e w' ⟨rfl, rfl⟩
  go_wp2_with fail
  go_ret2
  exact ⟨ret_two (by first | rfl | rw [wr_w64 1 _ (Or.inl rfl)]) rfl, rfl⟩
set_option maxRecDepth 100000 in
set_option maxHeartbeats 1000000 in
theorem rbin1_sub (a b x y : Int) (op : ByteArray) (w : World) (hop : op.toList = [45]) (ha : (Lit.int .i64 a).wf = true) (hb : (Lit.int .i64 b).wf = true) (HX : Hid (wr 1 a = x)) (HY : Hid (wr 1 b = y))
    (hx1 : -2147483648 ≤ x) (hx2 : x ≤ 2147483647) (hy1 : -2147483648 ≤ y) (hy2 : y ≤ 2147483647) :
    Calls Try.prog 11 #[.int .i64 1, .string op, .int .i64 a, .int .i64 b] w fun e w' => e = .returned (.tuple #[.int .i64 (wr 1 (x - y)), .int .i64 (0)]) ∧ w = w' := by
  have f0 : (op.toList == [43]) = false := by rw [hop]; rfl
  have f1 : (op.toList == [45]) = true := by rw [hop]; rfl
  have f2 : (op.toList == [42]) = false := by rw [hop]; rfl
  have f3 : (op.toList == [47]) = false := by rw [hop]; rfl
  have f4 : (op.toList == [37]) = false := by rw [hop]; rfl
  have f5 : (op.toList == [38]) = false := by rw [hop]; rfl
  have f6 : (op.toList == [124]) = false := by rw [hop]; rfl
  have f7 : (op.toList == [94]) = false := by rw [hop]; rfl
  have f8 : (op.toList == [60, 60]) = false := by rw [hop]; rfl
  have f9 : (op.toList == [62, 62]) = false := by rw [hop]; rfl
  have f10 : (op.toList == [61, 61]) = false := by rw [hop]; rfl
  have f11 : (op.toList == [33, 61]) = false := by rw [hop]; rfl
  have f12 : (op.toList == [60]) = false := by rw [hop]; rfl
  have f13 : (op.toList == [60, 61]) = false := by rw [hop]; rfl
  have f14 : (op.toList == [62]) = false := by rw [hop]; rfl
  have f15 : (op.toList == [62, 61]) = false := by rw [hop]; rfl
  have H := Lib.hid hop
  clear hop
  go_enter Try.func11, Try.ntmps11
  go_wp2_with fail
  refine (rwrap 1 a _ ha).mono ?_
  rintro e w' ⟨rfl, rfl⟩
  rw [HX.out]
  go_wp2_with fail
  refine (rwrap 1 b _ hb).mono ?_
  rintro e w' ⟨rfl, rfl⟩
  rw [HY.out]
  go_wp2_with fail
  refine (rwrap 1 _ _ (by first | exact wrap64_wf _ | exact wf_of (by omega))).mono ?_
  rintro e w' ⟨rfl, rfl⟩
  go_wp2_with fail
  go_ret2
  exact ⟨ret_two (by first | rfl | rw [wr_w64 1 _ (Or.inl rfl)]) rfl, rfl⟩
set_option maxRecDepth 100000 in
set_option maxHeartbeats 1000000 in
theorem rbin1_mul (a b x y : Int) (op : ByteArray) (w : World) (hop : op.toList = [42]) (ha : (Lit.int .i64 a).wf = true) (hb : (Lit.int .i64 b).wf = true) (HX : Hid (wr 1 a = x)) (HY : Hid (wr 1 b = y))
    (hx1 : -2147483648 ≤ x) (hx2 : x ≤ 2147483647) (hy1 : -2147483648 ≤ y) (hy2 : y ≤ 2147483647) :
    Calls Try.prog 11 #[.int .i64 1, .string op, .int .i64 a, .int .i64 b] w fun e w' => e = .returned (.tuple #[.int .i64 (wr 1 (x * y)), .int .i64 (0)]) ∧ w = w' := by
  have f0 : (op.toList == [43]) = false := by rw [hop]; rfl
  have f1 : (op.toList == [45]) = false := by rw [hop]; rfl
  have f2 : (op.toList == [42]) = true := by rw [hop]; rfl
  have f3 : (op.toList == [47]) = false := by rw [hop]; rfl
  have f4 : (op.toList == [37]) = false := by rw [hop]; rfl
  have f5 : (op.toList == [38]) = false := by rw [hop]; rfl
  have f6 : (op.toList == [124]) = false := by rw [hop]; rfl
  have f7 : (op.toList == [94]) = false := by rw [hop]; rfl
  have f8 : (op.toList == [60, 60]) = false := by rw [hop]; rfl
  have f9 : (op.toList == [62, 62]) = false := by rw [hop]; rfl
  have f10 : (op.toList == [61, 61]) = false := by rw [hop]; rfl
  have f11 : (op.toList == [33, 61]) = false := by rw [hop]; rfl
  have f12 : (op.toList == [60]) = false := by rw [hop]; rfl
  have f13 : (op.toList == [60, 61]) = false := by rw [hop]; rfl
  have f14 : (op.toList == [62]) = false := by rw [hop]; rfl
  have f15 : (op.toList == [62, 61]) = false := by rw [hop]; rfl
  have H := Lib.hid hop
  clear hop
  go_enter Try.func11, Try.ntmps11
  go_wp2_with fail
  refine (rwrap 1 a _ ha).mono ?_
  rintro e w' ⟨rfl, rfl⟩
  rw [HX.out]
  go_wp2_with fail
  refine (rwrap 1 b _ hb).mono ?_
  rintro e w' ⟨rfl, rfl⟩
  rw [HY.out]
  go_wp2_with fail
  refine (rwrap 1 _ _ (by first | exact wrap64_wf _ | exact wf_of (by omega))).mono ?_
  rintro e w' ⟨rfl, rfl⟩
  go_wp2_with fail
  go_ret2
  exact ⟨ret_two (by first | rfl | rw [wr_w64 1 _ (Or.inl rfl)]) rfl, rfl⟩
set_option maxRecDepth 100000 in
set_option maxHeartbeats 1000000 in
theorem rbin1_div (a b x y : Int) (op : ByteArray) (w : World) (hop : op.toList = [47]) (ha : (Lit.int .i64 a).wf = true) (hb : (Lit.int .i64 b).wf = true) (HX : Hid (wr 1 a = x)) (HY : Hid (wr 1 b = y))
    (hx1 : -2147483648 ≤ x) (hx2 : x ≤ 2147483647) (hy1 : -2147483648 ≤ y) (hy2 : y ≤ 2147483647) :
    Calls Try.prog 11 #[.int .i64 1, .string op, .int .i64 a, .int .i64 b] w fun e w' => e = .returned (.tuple #[.int .i64 ((bn32 [47] x y).1), .int .i64 ((bn32 [47] x y).2)]) ∧ w = w' := by
  have f0 : (op.toList == [43]) = false := by rw [hop]; rfl
  have f1 : (op.toList == [45]) = false := by rw [hop]; rfl
  have f2 : (op.toList == [42]) = false := by rw [hop]; rfl
  have f3 : (op.toList == [47]) = true := by rw [hop]; rfl
  have f4 : (op.toList == [37]) = false := by rw [hop]; rfl
  have f5 : (op.toList == [38]) = false := by rw [hop]; rfl
  have f6 : (op.toList == [124]) = false := by rw [hop]; rfl
  have f7 : (op.toList == [94]) = false := by rw [hop]; rfl
  have f8 : (op.toList == [60, 60]) = false := by rw [hop]; rfl
  have f9 : (op.toList == [62, 62]) = false := by rw [hop]; rfl
  have f10 : (op.toList == [61, 61]) = false := by rw [hop]; rfl
  have f11 : (op.toList == [33, 61]) = false := by rw [hop]; rfl
  have f12 : (op.toList == [60]) = false := by rw [hop]; rfl
  have f13 : (op.toList == [60, 61]) = false := by rw [hop]; rfl
  have f14 : (op.toList == [62]) = false := by rw [hop]; rfl
  have f15 : (op.toList == [62, 61]) = false := by rw [hop]; rfl
  have H := Lib.hid hop
  clear hop
  go_enter Try.func11, Try.ntmps11
  go_wp2_with fail
  refine (rwrap 1 a _ ha).mono ?_
  rintro e w' ⟨rfl, rfl⟩
  rw [HX.out]
  go_wp2_with fail
  refine (rwrap 1 b _ hb).mono ?_
  rintro e w' ⟨rfl, rfl⟩
  rw [HY.out]
  go_wp2_with fail
  refine (rdiv1_div_any x y op _ H.out hx1 hx2).mono ?_
  rintro e w' ⟨rfl, rfl⟩
  go_wp2_with fail
  go_ret2
  exact ⟨rfl, rfl⟩
set_option maxRecDepth 100000 in
set_option maxHeartbeats 1000000 in
theorem rbin1_rem (a b x y : Int) (op : ByteArray) (w : World) (hop : op.toList = [37]) (ha : (Lit.int .i64 a).wf = true) (hb : (Lit.int .i64 b).wf = true) (HX : Hid (wr 1 a = x)) (HY : Hid (wr 1 b = y))
    (hx1 : -2147483648 ≤ x) (hx2 : x ≤ 2147483647) (hy1 : -2147483648 ≤ y) (hy2 : y ≤ 2147483647) :
    Calls Try.prog 11 #[.int .i64 1, .string op, .int .i64 a, .int .i64 b] w fun e w' => e = .returned (.tuple #[.int .i64 ((bn32 [37] x y).1), .int .i64 ((bn32 [37] x y).2)]) ∧ w = w' := by
  have f0 : (op.toList == [43]) = false := by rw [hop]; rfl
  have f1 : (op.toList == [45]) = false := by rw [hop]; rfl
  have f2 : (op.toList == [42]) = false := by rw [hop]; rfl
  have f3 : (op.toList == [47]) = false := by rw [hop]; rfl
  have f4 : (op.toList == [37]) = true := by rw [hop]; rfl
  have f5 : (op.toList == [38]) = false := by rw [hop]; rfl
  have f6 : (op.toList == [124]) = false := by rw [hop]; rfl
  have f7 : (op.toList == [94]) = false := by rw [hop]; rfl
  have f8 : (op.toList == [60, 60]) = false := by rw [hop]; rfl
  have f9 : (op.toList == [62, 62]) = false := by rw [hop]; rfl
  have f10 : (op.toList == [61, 61]) = false := by rw [hop]; rfl
  have f11 : (op.toList == [33, 61]) = false := by rw [hop]; rfl
  have f12 : (op.toList == [60]) = false := by rw [hop]; rfl
  have f13 : (op.toList == [60, 61]) = false := by rw [hop]; rfl
  have f14 : (op.toList == [62]) = false := by rw [hop]; rfl
  have f15 : (op.toList == [62, 61]) = false := by rw [hop]; rfl
  have H := Lib.hid hop
  clear hop
  go_enter Try.func11, Try.ntmps11
  go_wp2_with fail
  refine (rwrap 1 a _ ha).mono ?_
  rintro e w' ⟨rfl, rfl⟩
  rw [HX.out]
  go_wp2_with fail
  refine (rwrap 1 b _ hb).mono ?_
  rintro e w' ⟨rfl, rfl⟩
  rw [HY.out]
  go_wp2_with fail
  refine (rdiv1_rem_any x y op _ H.out hx1 hx2).mono ?_
  rintro e w' ⟨rfl, rfl⟩
  go_wp2_with fail
  go_ret2
  exact ⟨rfl, rfl⟩
set_option maxRecDepth 100000 in
set_option maxHeartbeats 1000000 in
theorem rbin1_and (a b x y : Int) (op : ByteArray) (w : World) (hop : op.toList = [38]) (ha : (Lit.int .i64 a).wf = true) (hb : (Lit.int .i64 b).wf = true) (HX : Hid (wr 1 a = x)) (HY : Hid (wr 1 b = y))
    (hx1 : -2147483648 ≤ x) (hx2 : x ≤ 2147483647) (hy1 : -2147483648 ≤ y) (hy2 : y ≤ 2147483647) :
    Calls Try.prog 11 #[.int .i64 1, .string op, .int .i64 a, .int .i64 b] w fun e w' => e = .returned (.tuple #[.int .i64 (wr 1 ((uu 1 x &&& uu 1 y : Nat) : Int)), .int .i64 (0)]) ∧ w = w' := by
  have f0 : (op.toList == [43]) = false := by rw [hop]; rfl
  have f1 : (op.toList == [45]) = false := by rw [hop]; rfl
  have f2 : (op.toList == [42]) = false := by rw [hop]; rfl
  have f3 : (op.toList == [47]) = false := by rw [hop]; rfl
  have f4 : (op.toList == [37]) = false := by rw [hop]; rfl
  have f5 : (op.toList == [38]) = true := by rw [hop]; rfl
  have f6 : (op.toList == [124]) = false := by rw [hop]; rfl
  have f7 : (op.toList == [94]) = false := by rw [hop]; rfl
  have f8 : (op.toList == [60, 60]) = false := by rw [hop]; rfl
  have f9 : (op.toList == [62, 62]) = false := by rw [hop]; rfl
  have f10 : (op.toList == [61, 61]) = false := by rw [hop]; rfl
  have f11 : (op.toList == [33, 61]) = false := by rw [hop]; rfl
  have f12 : (op.toList == [60]) = false := by rw [hop]; rfl
  have f13 : (op.toList == [60, 61]) = false := by rw [hop]; rfl
  have f14 : (op.toList == [62]) = false := by rw [hop]; rfl
  have f15 : (op.toList == [62, 61]) = false := by rw [hop]; rfl
  have H := Lib.hid hop
  clear hop
  go_enter Try.func11, Try.ntmps11
  go_wp2_with fail
  refine (rwrap 1 a _ ha).mono ?_
  rintro e w' ⟨rfl, rfl⟩
  rw [HX.out]
  go_wp2_with fail
  refine (rwrap 1 b _ hb).mono ?_
  rintro e w' ⟨rfl, rfl⟩
  rw [HY.out]
  go_wp2_with fail
  refine (rbits1_and x y op _ H.out).mono ?_
  rintro e w' ⟨rfl, rfl⟩
  go_wp2_with fail
  go_ret2
  exact ⟨rfl, rfl⟩
set_option maxRecDepth 100000 in
set_option maxHeartbeats 1000000 in
theorem rbin1_or (a b x y : Int) (op : ByteArray) (w : World) (hop : op.toList = [124]) (ha : (Lit.int .i64 a).wf = true) (hb : (Lit.int .i64 b).wf = true) (HX : Hid (wr 1 a = x)) (HY : Hid (wr 1 b = y))
    (hx1 : -2147483648 ≤ x) (hx2 : x ≤ 2147483647) (hy1 : -2147483648 ≤ y) (hy2 : y ≤ 2147483647) :
    Calls Try.prog 11 #[.int .i64 1, .string op, .int .i64 a, .int .i64 b] w fun e w' => e = .returned (.tuple #[.int .i64 (wr 1 ((uu 1 x ||| uu 1 y : Nat) : Int)), .int .i64 (0)]) ∧ w = w' := by
  have f0 : (op.toList == [43]) = false := by rw [hop]; rfl
  have f1 : (op.toList == [45]) = false := by rw [hop]; rfl
  have f2 : (op.toList == [42]) = false := by rw [hop]; rfl
  have f3 : (op.toList == [47]) = false := by rw [hop]; rfl
  have f4 : (op.toList == [37]) = false := by rw [hop]; rfl
  have f5 : (op.toList == [38]) = false := by rw [hop]; rfl
  have f6 : (op.toList == [124]) = true := by rw [hop]; rfl
  have f7 : (op.toList == [94]) = false := by rw [hop]; rfl
  have f8 : (op.toList == [60, 60]) = false := by rw [hop]; rfl
  have f9 : (op.toList == [62, 62]) = false := by rw [hop]; rfl
  have f10 : (op.toList == [61, 61]) = false := by rw [hop]; rfl
  have f11 : (op.toList == [33, 61]) = false := by rw [hop]; rfl
  have f12 : (op.toList == [60]) = false := by rw [hop]; rfl
  have f13 : (op.toList == [60, 61]) = false := by rw [hop]; rfl
  have f14 : (op.toList == [62]) = false := by rw [hop]; rfl
  have f15 : (op.toList == [62, 61]) = false := by rw [hop]; rfl
  have H := Lib.hid hop
  clear hop
  go_enter Try.func11, Try.ntmps11
  go_wp2_with fail
  refine (rwrap 1 a _ ha).mono ?_
  rintro e w' ⟨rfl, rfl⟩
  rw [HX.out]
  go_wp2_with fail
  refine (rwrap 1 b _ hb).mono ?_
  rintro e w' ⟨rfl, rfl⟩
  rw [HY.out]
  go_wp2_with fail
  refine (rbits1_or x y op _ H.out).mono ?_
  rintro e w' ⟨rfl, rfl⟩
  go_wp2_with fail
  go_ret2
  exact ⟨rfl, rfl⟩
set_option maxRecDepth 100000 in
set_option maxHeartbeats 1000000 in
theorem rbin1_xor (a b x y : Int) (op : ByteArray) (w : World) (hop : op.toList = [94]) (ha : (Lit.int .i64 a).wf = true) (hb : (Lit.int .i64 b).wf = true) (HX : Hid (wr 1 a = x)) (HY : Hid (wr 1 b = y))
    (hx1 : -2147483648 ≤ x) (hx2 : x ≤ 2147483647) (hy1 : -2147483648 ≤ y) (hy2 : y ≤ 2147483647) :
    Calls Try.prog 11 #[.int .i64 1, .string op, .int .i64 a, .int .i64 b] w fun e w' => e = .returned (.tuple #[.int .i64 (wr 1 ((uu 1 x ^^^ uu 1 y : Nat) : Int)), .int .i64 (0)]) ∧ w = w' := by
  have f0 : (op.toList == [43]) = false := by rw [hop]; rfl
  have f1 : (op.toList == [45]) = false := by rw [hop]; rfl
  have f2 : (op.toList == [42]) = false := by rw [hop]; rfl
  have f3 : (op.toList == [47]) = false := by rw [hop]; rfl
  have f4 : (op.toList == [37]) = false := by rw [hop]; rfl
  have f5 : (op.toList == [38]) = false := by rw [hop]; rfl
  have f6 : (op.toList == [124]) = false := by rw [hop]; rfl
  have f7 : (op.toList == [94]) = true := by rw [hop]; rfl
  have f8 : (op.toList == [60, 60]) = false := by rw [hop]; rfl
  have f9 : (op.toList == [62, 62]) = false := by rw [hop]; rfl
  have f10 : (op.toList == [61, 61]) = false := by rw [hop]; rfl
  have f11 : (op.toList == [33, 61]) = false := by rw [hop]; rfl
  have f12 : (op.toList == [60]) = false := by rw [hop]; rfl
  have f13 : (op.toList == [60, 61]) = false := by rw [hop]; rfl
  have f14 : (op.toList == [62]) = false := by rw [hop]; rfl
  have f15 : (op.toList == [62, 61]) = false := by rw [hop]; rfl
  have H := Lib.hid hop
  clear hop
  go_enter Try.func11, Try.ntmps11
  go_wp2_with fail
  refine (rwrap 1 a _ ha).mono ?_
  rintro e w' ⟨rfl, rfl⟩
  rw [HX.out]
  go_wp2_with fail
  refine (rwrap 1 b _ hb).mono ?_
  rintro e w' ⟨rfl, rfl⟩
  rw [HY.out]
  go_wp2_with fail
  refine (rbits1_xor x y op _ H.out).mono ?_
  rintro e w' ⟨rfl, rfl⟩
  go_wp2_with fail
  go_ret2
  exact ⟨rfl, rfl⟩
set_option maxRecDepth 100000 in
set_option maxHeartbeats 1000000 in
theorem rbin1_shl (a b x y : Int) (op : ByteArray) (w : World) (hop : op.toList = [60, 60]) (ha : (Lit.int .i64 a).wf = true) (hb : (Lit.int .i64 b).wf = true) (HX : Hid (wr 1 a = x)) (HY : Hid (wr 1 b = y)) (k : Nat) (HK : Hid (y % 32 = (k : Int))) (HXX : Hid (wr 1 x = x))
    (hx1 : -2147483648 ≤ x) (hx2 : x ≤ 2147483647) (hy1 : -2147483648 ≤ y) (hy2 : y ≤ 2147483647) :
    Calls Try.prog 11 #[.int .i64 1, .string op, .int .i64 a, .int .i64 b] w fun e w' => e = .returned (.tuple #[.int .i64 (lft 1 x k), .int .i64 (0)]) ∧ w = w' := by
  have f0 : (op.toList == [43]) = false := by rw [hop]; rfl
  have f1 : (op.toList == [45]) = false := by rw [hop]; rfl
  have f2 : (op.toList == [42]) = false := by rw [hop]; rfl
  have f3 : (op.toList == [47]) = false := by rw [hop]; rfl
  have f4 : (op.toList == [37]) = false := by rw [hop]; rfl
  have f5 : (op.toList == [38]) = false := by rw [hop]; rfl
  have f6 : (op.toList == [124]) = false := by rw [hop]; rfl
  have f7 : (op.toList == [94]) = false := by rw [hop]; rfl
  have f8 : (op.toList == [60, 60]) = true := by rw [hop]; rfl
  have f9 : (op.toList == [62, 62]) = false := by rw [hop]; rfl
  have f10 : (op.toList == [61, 61]) = false := by rw [hop]; rfl
  have f11 : (op.toList == [33, 61]) = false := by rw [hop]; rfl
  have f12 : (op.toList == [60]) = false := by rw [hop]; rfl
  have f13 : (op.toList == [60, 61]) = false := by rw [hop]; rfl
  have f14 : (op.toList == [62]) = false := by rw [hop]; rfl
  have f15 : (op.toList == [62, 61]) = false := by rw [hop]; rfl
  have H := Lib.hid hop
  clear hop
  go_enter Try.func11, Try.ntmps11
  go_wp2_with fail
  refine (rwrap 1 a _ ha).mono ?_
  rintro e w' ⟨rfl, rfl⟩
  rw [HX.out]
  go_wp2_with fail
  refine (rwrap 1 b _ hb).mono ?_
  rintro e w' ⟨rfl, rfl⟩
  rw [HY.out]
  go_wp2_with fail
  refine (rsh1_shl x y k op _ H.out HK.out hx1 hx2 HXX.out (by omega) (by omega)).mono ?_
  rintro e w' ⟨rfl, rfl⟩
  go_wp2_with fail
  go_ret2
  exact ⟨rfl, rfl⟩
set_option maxRecDepth 100000 in
set_option maxHeartbeats 1000000 in
theorem rbin1_shr (a b x y : Int) (op : ByteArray) (w : World) (hop : op.toList = [62, 62]) (ha : (Lit.int .i64 a).wf = true) (hb : (Lit.int .i64 b).wf = true) (HX : Hid (wr 1 a = x)) (HY : Hid (wr 1 b = y)) (k : Nat) (HK : Hid (y % 32 = (k : Int))) (HXX : Hid (wr 1 x = x))
    (hx1 : -2147483648 ≤ x) (hx2 : x ≤ 2147483647) (hy1 : -2147483648 ≤ y) (hy2 : y ≤ 2147483647) :
    Calls Try.prog 11 #[.int .i64 1, .string op, .int .i64 a, .int .i64 b] w fun e w' => e = .returned (.tuple #[.int .i64 (x / 2 ^ k), .int .i64 (0)]) ∧ w = w' := by
  have f0 : (op.toList == [43]) = false := by rw [hop]; rfl
  have f1 : (op.toList == [45]) = false := by rw [hop]; rfl
  have f2 : (op.toList == [42]) = false := by rw [hop]; rfl
  have f3 : (op.toList == [47]) = false := by rw [hop]; rfl
  have f4 : (op.toList == [37]) = false := by rw [hop]; rfl
  have f5 : (op.toList == [38]) = false := by rw [hop]; rfl
  have f6 : (op.toList == [124]) = false := by rw [hop]; rfl
  have f7 : (op.toList == [94]) = false := by rw [hop]; rfl
  have f8 : (op.toList == [60, 60]) = false := by rw [hop]; rfl
  have f9 : (op.toList == [62, 62]) = true := by rw [hop]; rfl
  have f10 : (op.toList == [61, 61]) = false := by rw [hop]; rfl
  have f11 : (op.toList == [33, 61]) = false := by rw [hop]; rfl
  have f12 : (op.toList == [60]) = false := by rw [hop]; rfl
  have f13 : (op.toList == [60, 61]) = false := by rw [hop]; rfl
  have f14 : (op.toList == [62]) = false := by rw [hop]; rfl
  have f15 : (op.toList == [62, 61]) = false := by rw [hop]; rfl
  have H := Lib.hid hop
  clear hop
  go_enter Try.func11, Try.ntmps11
  go_wp2_with fail
  refine (rwrap 1 a _ ha).mono ?_
  rintro e w' ⟨rfl, rfl⟩
  rw [HX.out]
  go_wp2_with fail
  refine (rwrap 1 b _ hb).mono ?_
  rintro e w' ⟨rfl, rfl⟩
  rw [HY.out]
  go_wp2_with fail
  refine (rsh1_shr x y k op _ H.out HK.out hx1 hx2 HXX.out (by omega) (by omega)).mono ?_
  rintro e w' ⟨rfl, rfl⟩
  go_wp2_with fail
  go_ret2
  exact ⟨rfl, rfl⟩
set_option maxRecDepth 100000 in
set_option maxHeartbeats 1000000 in
theorem rbin1_eq (a b x y : Int) (op : ByteArray) (w : World) (hop : op.toList = [61, 61]) (ha : (Lit.int .i64 a).wf = true) (hb : (Lit.int .i64 b).wf = true) (HX : Hid (wr 1 a = x)) (HY : Hid (wr 1 b = y))
    (hx1 : -2147483648 ≤ x) (hx2 : x ≤ 2147483647) (hy1 : -2147483648 ≤ y) (hy2 : y ≤ 2147483647) :
    Calls Try.prog 11 #[.int .i64 1, .string op, .int .i64 a, .int .i64 b] w fun e w' => e = .returned (.tuple #[.int .i64 (tr (x == y)), .int .i64 (0)]) ∧ w = w' := by
  have f0 : (op.toList == [43]) = false := by rw [hop]; rfl
  have f1 : (op.toList == [45]) = false := by rw [hop]; rfl
  have f2 : (op.toList == [42]) = false := by rw [hop]; rfl
  have f3 : (op.toList == [47]) = false := by rw [hop]; rfl
  have f4 : (op.toList == [37]) = false := by rw [hop]; rfl
  have f5 : (op.toList == [38]) = false := by rw [hop]; rfl
  have f6 : (op.toList == [124]) = false := by rw [hop]; rfl
  have f7 : (op.toList == [94]) = false := by rw [hop]; rfl
  have f8 : (op.toList == [60, 60]) = false := by rw [hop]; rfl
  have f9 : (op.toList == [62, 62]) = false := by rw [hop]; rfl
  have f10 : (op.toList == [61, 61]) = true := by rw [hop]; rfl
  have f11 : (op.toList == [33, 61]) = false := by rw [hop]; rfl
  have f12 : (op.toList == [60]) = false := by rw [hop]; rfl
  have f13 : (op.toList == [60, 61]) = false := by rw [hop]; rfl
  have f14 : (op.toList == [62]) = false := by rw [hop]; rfl
  have f15 : (op.toList == [62, 61]) = false := by rw [hop]; rfl
  have H := Lib.hid hop
  clear hop
  go_enter Try.func11, Try.ntmps11
  go_wp2_with fail
  refine (rwrap 1 a _ ha).mono ?_
  rintro e w' ⟨rfl, rfl⟩
  rw [HX.out]
  go_wp2_with fail
  refine (rwrap 1 b _ hb).mono ?_
  rintro e w' ⟨rfl, rfl⟩
  rw [HY.out]
  go_wp2_with fail
  refine (rone _ _).mono ?_
  rintro e w' ⟨rfl, rfl⟩
  go_wp2_with fail
  go_ret2
  exact ⟨rfl, rfl⟩
set_option maxRecDepth 100000 in
set_option maxHeartbeats 1000000 in
theorem rbin1_ne (a b x y : Int) (op : ByteArray) (w : World) (hop : op.toList = [33, 61]) (ha : (Lit.int .i64 a).wf = true) (hb : (Lit.int .i64 b).wf = true) (HX : Hid (wr 1 a = x)) (HY : Hid (wr 1 b = y))
    (hx1 : -2147483648 ≤ x) (hx2 : x ≤ 2147483647) (hy1 : -2147483648 ≤ y) (hy2 : y ≤ 2147483647) :
    Calls Try.prog 11 #[.int .i64 1, .string op, .int .i64 a, .int .i64 b] w fun e w' => e = .returned (.tuple #[.int .i64 (tr (x != y)), .int .i64 (0)]) ∧ w = w' := by
  have f0 : (op.toList == [43]) = false := by rw [hop]; rfl
  have f1 : (op.toList == [45]) = false := by rw [hop]; rfl
  have f2 : (op.toList == [42]) = false := by rw [hop]; rfl
  have f3 : (op.toList == [47]) = false := by rw [hop]; rfl
  have f4 : (op.toList == [37]) = false := by rw [hop]; rfl
  have f5 : (op.toList == [38]) = false := by rw [hop]; rfl
  have f6 : (op.toList == [124]) = false := by rw [hop]; rfl
  have f7 : (op.toList == [94]) = false := by rw [hop]; rfl
  have f8 : (op.toList == [60, 60]) = false := by rw [hop]; rfl
  have f9 : (op.toList == [62, 62]) = false := by rw [hop]; rfl
  have f10 : (op.toList == [61, 61]) = false := by rw [hop]; rfl
  have f11 : (op.toList == [33, 61]) = true := by rw [hop]; rfl
  have f12 : (op.toList == [60]) = false := by rw [hop]; rfl
  have f13 : (op.toList == [60, 61]) = false := by rw [hop]; rfl
  have f14 : (op.toList == [62]) = false := by rw [hop]; rfl
  have f15 : (op.toList == [62, 61]) = false := by rw [hop]; rfl
  have H := Lib.hid hop
  clear hop
  go_enter Try.func11, Try.ntmps11
  go_wp2_with fail
  refine (rwrap 1 a _ ha).mono ?_
  rintro e w' ⟨rfl, rfl⟩
  rw [HX.out]
  go_wp2_with fail
  refine (rwrap 1 b _ hb).mono ?_
  rintro e w' ⟨rfl, rfl⟩
  rw [HY.out]
  go_wp2_with fail
  refine (rone _ _).mono ?_
  rintro e w' ⟨rfl, rfl⟩
  go_wp2_with fail
  go_ret2
  exact ⟨rfl, rfl⟩
set_option maxRecDepth 100000 in
set_option maxHeartbeats 1000000 in
theorem rbin1_lt (a b x y : Int) (op : ByteArray) (w : World) (hop : op.toList = [60]) (ha : (Lit.int .i64 a).wf = true) (hb : (Lit.int .i64 b).wf = true) (HX : Hid (wr 1 a = x)) (HY : Hid (wr 1 b = y))
    (hx1 : -2147483648 ≤ x) (hx2 : x ≤ 2147483647) (hy1 : -2147483648 ≤ y) (hy2 : y ≤ 2147483647) :
    Calls Try.prog 11 #[.int .i64 1, .string op, .int .i64 a, .int .i64 b] w fun e w' => e = .returned (.tuple #[.int .i64 (tr (decide (x < y))), .int .i64 (0)]) ∧ w = w' := by
  have f0 : (op.toList == [43]) = false := by rw [hop]; rfl
  have f1 : (op.toList == [45]) = false := by rw [hop]; rfl
  have f2 : (op.toList == [42]) = false := by rw [hop]; rfl
  have f3 : (op.toList == [47]) = false := by rw [hop]; rfl
  have f4 : (op.toList == [37]) = false := by rw [hop]; rfl
  have f5 : (op.toList == [38]) = false := by rw [hop]; rfl
  have f6 : (op.toList == [124]) = false := by rw [hop]; rfl
  have f7 : (op.toList == [94]) = false := by rw [hop]; rfl
  have f8 : (op.toList == [60, 60]) = false := by rw [hop]; rfl
  have f9 : (op.toList == [62, 62]) = false := by rw [hop]; rfl
  have f10 : (op.toList == [61, 61]) = false := by rw [hop]; rfl
  have f11 : (op.toList == [33, 61]) = false := by rw [hop]; rfl
  have f12 : (op.toList == [60]) = true := by rw [hop]; rfl
  have f13 : (op.toList == [60, 61]) = false := by rw [hop]; rfl
  have f14 : (op.toList == [62]) = false := by rw [hop]; rfl
  have f15 : (op.toList == [62, 61]) = false := by rw [hop]; rfl
  have H := Lib.hid hop
  clear hop
  go_enter Try.func11, Try.ntmps11
  go_wp2_with fail
  refine (rwrap 1 a _ ha).mono ?_
  rintro e w' ⟨rfl, rfl⟩
  rw [HX.out]
  go_wp2_with fail
  refine (rwrap 1 b _ hb).mono ?_
  rintro e w' ⟨rfl, rfl⟩
  rw [HY.out]
  go_wp2_with fail
  refine (rone _ _).mono ?_
  rintro e w' ⟨rfl, rfl⟩
  go_wp2_with fail
  go_ret2
  exact ⟨rfl, rfl⟩
set_option maxRecDepth 100000 in
set_option maxHeartbeats 1000000 in
theorem rbin1_le (a b x y : Int) (op : ByteArray) (w : World) (hop : op.toList = [60, 61]) (ha : (Lit.int .i64 a).wf = true) (hb : (Lit.int .i64 b).wf = true) (HX : Hid (wr 1 a = x)) (HY : Hid (wr 1 b = y))
    (hx1 : -2147483648 ≤ x) (hx2 : x ≤ 2147483647) (hy1 : -2147483648 ≤ y) (hy2 : y ≤ 2147483647) :
    Calls Try.prog 11 #[.int .i64 1, .string op, .int .i64 a, .int .i64 b] w fun e w' => e = .returned (.tuple #[.int .i64 (tr (decide (x ≤ y))), .int .i64 (0)]) ∧ w = w' := by
  have f0 : (op.toList == [43]) = false := by rw [hop]; rfl
  have f1 : (op.toList == [45]) = false := by rw [hop]; rfl
  have f2 : (op.toList == [42]) = false := by rw [hop]; rfl
  have f3 : (op.toList == [47]) = false := by rw [hop]; rfl
  have f4 : (op.toList == [37]) = false := by rw [hop]; rfl
  have f5 : (op.toList == [38]) = false := by rw [hop]; rfl
  have f6 : (op.toList == [124]) = false := by rw [hop]; rfl
  have f7 : (op.toList == [94]) = false := by rw [hop]; rfl
  have f8 : (op.toList == [60, 60]) = false := by rw [hop]; rfl
  have f9 : (op.toList == [62, 62]) = false := by rw [hop]; rfl
  have f10 : (op.toList == [61, 61]) = false := by rw [hop]; rfl
  have f11 : (op.toList == [33, 61]) = false := by rw [hop]; rfl
  have f12 : (op.toList == [60]) = false := by rw [hop]; rfl
  have f13 : (op.toList == [60, 61]) = true := by rw [hop]; rfl
  have f14 : (op.toList == [62]) = false := by rw [hop]; rfl
  have f15 : (op.toList == [62, 61]) = false := by rw [hop]; rfl
  have H := Lib.hid hop
  clear hop
  go_enter Try.func11, Try.ntmps11
  go_wp2_with fail
  refine (rwrap 1 a _ ha).mono ?_
  rintro e w' ⟨rfl, rfl⟩
  rw [HX.out]
  go_wp2_with fail
  refine (rwrap 1 b _ hb).mono ?_
  rintro e w' ⟨rfl, rfl⟩
  rw [HY.out]
  go_wp2_with fail
  refine (rone _ _).mono ?_
  rintro e w' ⟨rfl, rfl⟩
  go_wp2_with fail
  go_ret2
  exact ⟨rfl, rfl⟩
set_option maxRecDepth 100000 in
set_option maxHeartbeats 1000000 in
theorem rbin1_gt (a b x y : Int) (op : ByteArray) (w : World) (hop : op.toList = [62]) (ha : (Lit.int .i64 a).wf = true) (hb : (Lit.int .i64 b).wf = true) (HX : Hid (wr 1 a = x)) (HY : Hid (wr 1 b = y))
    (hx1 : -2147483648 ≤ x) (hx2 : x ≤ 2147483647) (hy1 : -2147483648 ≤ y) (hy2 : y ≤ 2147483647) :
    Calls Try.prog 11 #[.int .i64 1, .string op, .int .i64 a, .int .i64 b] w fun e w' => e = .returned (.tuple #[.int .i64 (tr (decide (y < x))), .int .i64 (0)]) ∧ w = w' := by
  have f0 : (op.toList == [43]) = false := by rw [hop]; rfl
  have f1 : (op.toList == [45]) = false := by rw [hop]; rfl
  have f2 : (op.toList == [42]) = false := by rw [hop]; rfl
  have f3 : (op.toList == [47]) = false := by rw [hop]; rfl
  have f4 : (op.toList == [37]) = false := by rw [hop]; rfl
  have f5 : (op.toList == [38]) = false := by rw [hop]; rfl
  have f6 : (op.toList == [124]) = false := by rw [hop]; rfl
  have f7 : (op.toList == [94]) = false := by rw [hop]; rfl
  have f8 : (op.toList == [60, 60]) = false := by rw [hop]; rfl
  have f9 : (op.toList == [62, 62]) = false := by rw [hop]; rfl
  have f10 : (op.toList == [61, 61]) = false := by rw [hop]; rfl
  have f11 : (op.toList == [33, 61]) = false := by rw [hop]; rfl
  have f12 : (op.toList == [60]) = false := by rw [hop]; rfl
  have f13 : (op.toList == [60, 61]) = false := by rw [hop]; rfl
  have f14 : (op.toList == [62]) = true := by rw [hop]; rfl
  have f15 : (op.toList == [62, 61]) = false := by rw [hop]; rfl
  have H := Lib.hid hop
  clear hop
  go_enter Try.func11, Try.ntmps11
  go_wp2_with fail
  refine (rwrap 1 a _ ha).mono ?_
  rintro e w' ⟨rfl, rfl⟩
  rw [HX.out]
  go_wp2_with fail
  refine (rwrap 1 b _ hb).mono ?_
  rintro e w' ⟨rfl, rfl⟩
  rw [HY.out]
  go_wp2_with fail
  refine (rone _ _).mono ?_
  rintro e w' ⟨rfl, rfl⟩
  go_wp2_with fail
  go_ret2
  exact ⟨rfl, rfl⟩
set_option maxRecDepth 100000 in
set_option maxHeartbeats 1000000 in
theorem rbin1_ge (a b x y : Int) (op : ByteArray) (w : World) (hop : op.toList = [62, 61]) (ha : (Lit.int .i64 a).wf = true) (hb : (Lit.int .i64 b).wf = true) (HX : Hid (wr 1 a = x)) (HY : Hid (wr 1 b = y))
    (hx1 : -2147483648 ≤ x) (hx2 : x ≤ 2147483647) (hy1 : -2147483648 ≤ y) (hy2 : y ≤ 2147483647) :
    Calls Try.prog 11 #[.int .i64 1, .string op, .int .i64 a, .int .i64 b] w fun e w' => e = .returned (.tuple #[.int .i64 (tr (decide (y ≤ x))), .int .i64 (0)]) ∧ w = w' := by
  have f0 : (op.toList == [43]) = false := by rw [hop]; rfl
  have f1 : (op.toList == [45]) = false := by rw [hop]; rfl
  have f2 : (op.toList == [42]) = false := by rw [hop]; rfl
  have f3 : (op.toList == [47]) = false := by rw [hop]; rfl
  have f4 : (op.toList == [37]) = false := by rw [hop]; rfl
  have f5 : (op.toList == [38]) = false := by rw [hop]; rfl
  have f6 : (op.toList == [124]) = false := by rw [hop]; rfl
  have f7 : (op.toList == [94]) = false := by rw [hop]; rfl
  have f8 : (op.toList == [60, 60]) = false := by rw [hop]; rfl
  have f9 : (op.toList == [62, 62]) = false := by rw [hop]; rfl
  have f10 : (op.toList == [61, 61]) = false := by rw [hop]; rfl
  have f11 : (op.toList == [33, 61]) = false := by rw [hop]; rfl
  have f12 : (op.toList == [60]) = false := by rw [hop]; rfl
  have f13 : (op.toList == [60, 61]) = false := by rw [hop]; rfl
  have f14 : (op.toList == [62]) = false := by rw [hop]; rfl
  have f15 : (op.toList == [62, 61]) = true := by rw [hop]; rfl
  have H := Lib.hid hop
  clear hop
  go_enter Try.func11, Try.ntmps11
  go_wp2_with fail
  refine (rwrap 1 a _ ha).mono ?_
  rintro e w' ⟨rfl, rfl⟩
  rw [HX.out]
  go_wp2_with fail
  refine (rwrap 1 b _ hb).mono ?_
  rintro e w' ⟨rfl, rfl⟩
  rw [HY.out]
  go_wp2_with fail
  refine (rone _ _).mono ?_
  rintro e w' ⟨rfl, rfl⟩
  go_wp2_with fail
  go_ret2
  exact ⟨rfl, rfl⟩
set_option maxRecDepth 100000 in
set_option maxHeartbeats 1000000 in
theorem rbin1_none (a b x y : Int) (op : ByteArray) (w : World) (f0 : (op.toList == [43]) = false) (f1 : (op.toList == [45]) = false) (f2 : (op.toList == [42]) = false) (f3 : (op.toList == [47]) = false) (f4 : (op.toList == [37]) = false) (f5 : (op.toList == [38]) = false) (f6 : (op.toList == [124]) = false) (f7 : (op.toList == [94]) = false) (f8 : (op.toList == [60, 60]) = false) (f9 : (op.toList == [62, 62]) = false) (f10 : (op.toList == [61, 61]) = false) (f11 : (op.toList == [33, 61]) = false) (f12 : (op.toList == [60]) = false) (f13 : (op.toList == [60, 61]) = false) (f14 : (op.toList == [62]) = false) (f15 : (op.toList == [62, 61]) = false) (ha : (Lit.int .i64 a).wf = true) (hb : (Lit.int .i64 b).wf = true) (HX : Hid (wr 1 a = x)) (HY : Hid (wr 1 b = y))
    (hx1 : -2147483648 ≤ x) (hx2 : x ≤ 2147483647) (hy1 : -2147483648 ≤ y) (hy2 : y ≤ 2147483647) :
    Calls Try.prog 11 #[.int .i64 1, .string op, .int .i64 a, .int .i64 b] w fun e w' => e = .returned (.tuple #[.int .i64 (0), .int .i64 (0)]) ∧ w = w' := by
  go_enter Try.func11, Try.ntmps11
  go_wp2_with fail
  refine (rwrap 1 a _ ha).mono ?_
  rintro e w' ⟨rfl, rfl⟩
  rw [HX.out]
  go_wp2_with fail
  refine (rwrap 1 b _ hb).mono ?_
  rintro e w' ⟨rfl, rfl⟩
  rw [HY.out]
  go_wp2_with fail
  go_ret2
  exact ⟨rfl, rfl⟩
set_option maxRecDepth 100000 in
set_option maxHeartbeats 1000000 in
theorem rbin2_add (a b x y : Int) (op : ByteArray) (w : World) (hop : op.toList = [43]) (ha : (Lit.int .i64 a).wf = true) (hb : (Lit.int .i64 b).wf = true) (HX : Hid (wr 2 a = x)) (HY : Hid (wr 2 b = y))
    (hx1 : -9223372036854775808 ≤ x) (hx2 : x ≤ 9223372036854775807) (hy1 : -9223372036854775808 ≤ y) (hy2 : y ≤ 9223372036854775807) :
    Calls Try.prog 11 #[.int .i64 2, .string op, .int .i64 a, .int .i64 b] w fun e w' => e = .returned (.tuple #[.int .i64 (wr 2 (x + y)), .int .i64 (0)]) ∧ w = w' := by
  have f0 : (op.toList == [43]) = true := by rw [hop]; rfl
  have f1 : (op.toList == [45]) = false := by rw [hop]; rfl
  have f2 : (op.toList == [42]) = false := by rw [hop]; rfl
  have f3 : (op.toList == [47]) = false := by rw [hop]; rfl
  have f4 : (op.toList == [37]) = false := by rw [hop]; rfl
  have f5 : (op.toList == [38]) = false := by rw [hop]; rfl
  have f6 : (op.toList == [124]) = false := by rw [hop]; rfl
  have f7 : (op.toList == [94]) = false := by rw [hop]; rfl
  have f8 : (op.toList == [60, 60]) = false := by rw [hop]; rfl
  have f9 : (op.toList == [62, 62]) = false := by rw [hop]; rfl
  have f10 : (op.toList == [61, 61]) = false := by rw [hop]; rfl
  have f11 : (op.toList == [33, 61]) = false := by rw [hop]; rfl
  have f12 : (op.toList == [60]) = false := by rw [hop]; rfl
  have f13 : (op.toList == [60, 61]) = false := by rw [hop]; rfl
  have f14 : (op.toList == [62]) = false := by rw [hop]; rfl
  have f15 : (op.toList == [62, 61]) = false := by rw [hop]; rfl
  have H := Lib.hid hop
  clear hop
  go_enter Try.func11, Try.ntmps11
  go_wp2_with fail
  refine (rwrap 2 a _ ha).mono ?_
  rintro e w' ⟨rfl, rfl⟩
  rw [HX.out]
  go_wp2_with fail
  refine (rwrap 2 b _ hb).mono ?_
  rintro e w' ⟨rfl, rfl⟩
  rw [HY.out]
  go_wp2_with fail
  refine (rwrap 2 _ _ (by first | exact wrap64_wf _ | exact wf_of (by omega))).mono ?_
  rintro e w' ⟨rfl, rfl⟩
  go_wp2_with fail
  go_ret2
  exact ⟨ret_two (by first | rfl | rw [wr_w64 2 _ (Or.inr rfl)]) rfl, rfl⟩
set_option maxRecDepth 100000 in
set_option maxHeartbeats 1000000 in
theorem rbin2_sub (a b x y : Int) (op : ByteArray) (w : World) (hop : op.toList = [45]) (ha : (Lit.int .i64 a).wf = true) (hb : (Lit.int .i64 b).wf = true) (HX : Hid (wr 2 a = x)) (HY : Hid (wr 2 b = y))
    (hx1 : -9223372036854775808 ≤ x) (hx2 : x ≤ 9223372036854775807) (hy1 : -9223372036854775808 ≤ y) (hy2 : y ≤ 9223372036854775807) :
    Calls Try.prog 11 #[.int .i64 2, .string op, .int .i64 a, .int .i64 b] w fun e w' => e = .returned (.tuple #[.int .i64 (wr 2 (x - y)), .int .i64 (0)]) ∧ w = w' := by
  have f0 : (op.toList == [43]) = false := by rw [hop]; rfl
  have f1 : (op.toList == [45]) = true := by rw [hop]; rfl
  have f2 : (op.toList == [42]) = false := by rw [hop]; rfl
  have f3 : (op.toList == [47]) = false := by rw [hop]; rfl
  have f4 : (op.toList == [37]) = false := by rw [hop]; rfl
  have f5 : (op.toList == [38]) = false := by rw [hop]; rfl
  have f6 : (op.toList == [124]) = false := by rw [hop]; rfl
  have f7 : (op.toList == [94]) = false := by rw [hop]; rfl
  have f8 : (op.toList == [60, 60]) = false := by rw [hop]; rfl
  have f9 : (op.toList == [62, 62]) = false := by rw [hop]; rfl
  have f10 : (op.toList == [61, 61]) = false := by rw [hop]; rfl
  have f11 : (op.toList == [33, 61]) = false := by rw [hop]; rfl
  have f12 : (op.toList == [60]) = false := by rw [hop]; rfl
  have f13 : (op.toList == [60, 61]) = false := by rw [hop]; rfl
  have f14 : (op.toList == [62]) = false := by rw [hop]; rfl
  have f15 : (op.toList == [62, 61]) = false := by rw [hop]; rfl
  have H := Lib.hid hop
  clear hop
  go_enter Try.func11, Try.ntmps11
  go_wp2_with fail
  refine (rwrap 2 a _ ha).mono ?_
  rintro e w' ⟨rfl, rfl⟩
  rw [HX.out]
  go_wp2_with fail
  refine (rwrap 2 b _ hb).mono ?_
  rintro e w' ⟨rfl, rfl⟩
  rw [HY.out]
  go_wp2_with fail
  refine (rwrap 2 _ _ (by first | exact wrap64_wf _ | exact wf_of (by omega))).mono ?_
  rintro e w' ⟨rfl, rfl⟩
  go_wp2_with fail
  go_ret2
  exact ⟨ret_two (by first | rfl | rw [wr_w64 2 _ (Or.inr rfl)]) rfl, rfl⟩
set_option maxRecDepth 100000 in
set_option maxHeartbeats 1000000 in
theorem rbin2_mul (a b x y : Int) (op : ByteArray) (w : World) (hop : op.toList = [42]) (ha : (Lit.int .i64 a).wf = true) (hb : (Lit.int .i64 b).wf = true) (HX : Hid (wr 2 a = x)) (HY : Hid (wr 2 b = y))
    (hx1 : -9223372036854775808 ≤ x) (hx2 : x ≤ 9223372036854775807) (hy1 : -9223372036854775808 ≤ y) (hy2 : y ≤ 9223372036854775807) :
    Calls Try.prog 11 #[.int .i64 2, .string op, .int .i64 a, .int .i64 b] w fun e w' => e = .returned (.tuple #[.int .i64 (wr 2 (x * y)), .int .i64 (0)]) ∧ w = w' := by
  have f0 : (op.toList == [43]) = false := by rw [hop]; rfl
  have f1 : (op.toList == [45]) = false := by rw [hop]; rfl
  have f2 : (op.toList == [42]) = true := by rw [hop]; rfl
  have f3 : (op.toList == [47]) = false := by rw [hop]; rfl
  have f4 : (op.toList == [37]) = false := by rw [hop]; rfl
  have f5 : (op.toList == [38]) = false := by rw [hop]; rfl
  have f6 : (op.toList == [124]) = false := by rw [hop]; rfl
  have f7 : (op.toList == [94]) = false := by rw [hop]; rfl
  have f8 : (op.toList == [60, 60]) = false := by rw [hop]; rfl
  have f9 : (op.toList == [62, 62]) = false := by rw [hop]; rfl
  have f10 : (op.toList == [61, 61]) = false := by rw [hop]; rfl
  have f11 : (op.toList == [33, 61]) = false := by rw [hop]; rfl
  have f12 : (op.toList == [60]) = false := by rw [hop]; rfl
  have f13 : (op.toList == [60, 61]) = false := by rw [hop]; rfl
  have f14 : (op.toList == [62]) = false := by rw [hop]; rfl
  have f15 : (op.toList == [62, 61]) = false := by rw [hop]; rfl
  have H := Lib.hid hop
  clear hop
  go_enter Try.func11, Try.ntmps11
  go_wp2_with fail
  refine (rwrap 2 a _ ha).mono ?_
  rintro e w' ⟨rfl, rfl⟩
  rw [HX.out]
  go_wp2_with fail
  refine (rwrap 2 b _ hb).mono ?_
  rintro e w' ⟨rfl, rfl⟩
  rw [HY.out]
  go_wp2_with fail
  refine (rwrap 2 _ _ (by first | exact wrap64_wf _ | exact wf_of (by omega))).mono ?_
  rintro e w' ⟨rfl, rfl⟩
  go_wp2_with fail
  go_ret2
  exact ⟨ret_two (by first | rfl | rw [wr_w64 2 _ (Or.inr rfl)]) rfl, rfl⟩
set_option maxRecDepth 100000 in
set_option maxHeartbeats 1000000 in
theorem rbin2_div (a b x y : Int) (op : ByteArray) (w : World) (hop : op.toList = [47]) (ha : (Lit.int .i64 a).wf = true) (hb : (Lit.int .i64 b).wf = true) (HX : Hid (wr 2 a = x)) (HY : Hid (wr 2 b = y))
    (hx1 : -9223372036854775808 ≤ x) (hx2 : x ≤ 9223372036854775807) (hy1 : -9223372036854775808 ≤ y) (hy2 : y ≤ 9223372036854775807) :
    Calls Try.prog 11 #[.int .i64 2, .string op, .int .i64 a, .int .i64 b] w fun e w' => e = .returned (.tuple #[.int .i64 ((bn64 [47] x y).1), .int .i64 ((bn64 [47] x y).2)]) ∧ w = w' := by
  have f0 : (op.toList == [43]) = false := by rw [hop]; rfl
  have f1 : (op.toList == [45]) = false := by rw [hop]; rfl
  have f2 : (op.toList == [42]) = false := by rw [hop]; rfl
  have f3 : (op.toList == [47]) = true := by rw [hop]; rfl
  have f4 : (op.toList == [37]) = false := by rw [hop]; rfl
  have f5 : (op.toList == [38]) = false := by rw [hop]; rfl
  have f6 : (op.toList == [124]) = false := by rw [hop]; rfl
  have f7 : (op.toList == [94]) = false := by rw [hop]; rfl
  have f8 : (op.toList == [60, 60]) = false := by rw [hop]; rfl
  have f9 : (op.toList == [62, 62]) = false := by rw [hop]; rfl
  have f10 : (op.toList == [61, 61]) = false := by rw [hop]; rfl
  have f11 : (op.toList == [33, 61]) = false := by rw [hop]; rfl
  have f12 : (op.toList == [60]) = false := by rw [hop]; rfl
  have f13 : (op.toList == [60, 61]) = false := by rw [hop]; rfl
  have f14 : (op.toList == [62]) = false := by rw [hop]; rfl
  have f15 : (op.toList == [62, 61]) = false := by rw [hop]; rfl
  have H := Lib.hid hop
  clear hop
  go_enter Try.func11, Try.ntmps11
  go_wp2_with fail
  refine (rwrap 2 a _ ha).mono ?_
  rintro e w' ⟨rfl, rfl⟩
  rw [HX.out]
  go_wp2_with fail
  refine (rwrap 2 b _ hb).mono ?_
  rintro e w' ⟨rfl, rfl⟩
  rw [HY.out]
  go_wp2_with fail
  refine (rdiv2_div_any x y op _ H.out hx1 hx2).mono ?_
  rintro e w' ⟨rfl, rfl⟩
  go_wp2_with fail
  go_ret2
  exact ⟨rfl, rfl⟩
set_option maxRecDepth 100000 in
set_option maxHeartbeats 1000000 in
theorem rbin2_rem (a b x y : Int) (op : ByteArray) (w : World) (hop : op.toList = [37]) (ha : (Lit.int .i64 a).wf = true) (hb : (Lit.int .i64 b).wf = true) (HX : Hid (wr 2 a = x)) (HY : Hid (wr 2 b = y))
    (hx1 : -9223372036854775808 ≤ x) (hx2 : x ≤ 9223372036854775807) (hy1 : -9223372036854775808 ≤ y) (hy2 : y ≤ 9223372036854775807) :
    Calls Try.prog 11 #[.int .i64 2, .string op, .int .i64 a, .int .i64 b] w fun e w' => e = .returned (.tuple #[.int .i64 ((bn64 [37] x y).1), .int .i64 ((bn64 [37] x y).2)]) ∧ w = w' := by
  have f0 : (op.toList == [43]) = false := by rw [hop]; rfl
  have f1 : (op.toList == [45]) = false := by rw [hop]; rfl
  have f2 : (op.toList == [42]) = false := by rw [hop]; rfl
  have f3 : (op.toList == [47]) = false := by rw [hop]; rfl
  have f4 : (op.toList == [37]) = true := by rw [hop]; rfl
  have f5 : (op.toList == [38]) = false := by rw [hop]; rfl
  have f6 : (op.toList == [124]) = false := by rw [hop]; rfl
  have f7 : (op.toList == [94]) = false := by rw [hop]; rfl
  have f8 : (op.toList == [60, 60]) = false := by rw [hop]; rfl
  have f9 : (op.toList == [62, 62]) = false := by rw [hop]; rfl
  have f10 : (op.toList == [61, 61]) = false := by rw [hop]; rfl
  have f11 : (op.toList == [33, 61]) = false := by rw [hop]; rfl
  have f12 : (op.toList == [60]) = false := by rw [hop]; rfl
  have f13 : (op.toList == [60, 61]) = false := by rw [hop]; rfl
  have f14 : (op.toList == [62]) = false := by rw [hop]; rfl
  have f15 : (op.toList == [62, 61]) = false := by rw [hop]; rfl
  have H := Lib.hid hop
  clear hop
  go_enter Try.func11, Try.ntmps11
  go_wp2_with fail
  refine (rwrap 2 a _ ha).mono ?_
  rintro e w' ⟨rfl, rfl⟩
  rw [HX.out]
  go_wp2_with fail
  refine (rwrap 2 b _ hb).mono ?_
  rintro e w' ⟨rfl, rfl⟩
  rw [HY.out]
  go_wp2_with fail
  refine (rdiv2_rem_any x y op _ H.out hx1 hx2).mono ?_
  rintro e w' ⟨rfl, rfl⟩
  go_wp2_with fail
  go_ret2
  exact ⟨rfl, rfl⟩
set_option maxRecDepth 100000 in
set_option maxHeartbeats 1000000 in
theorem rbin2_and (a b x y : Int) (op : ByteArray) (w : World) (hop : op.toList = [38]) (ha : (Lit.int .i64 a).wf = true) (hb : (Lit.int .i64 b).wf = true) (HX : Hid (wr 2 a = x)) (HY : Hid (wr 2 b = y))
    (hx1 : -9223372036854775808 ≤ x) (hx2 : x ≤ 9223372036854775807) (hy1 : -9223372036854775808 ≤ y) (hy2 : y ≤ 9223372036854775807) :
    Calls Try.prog 11 #[.int .i64 2, .string op, .int .i64 a, .int .i64 b] w fun e w' => e = .returned (.tuple #[.int .i64 (wr 2 ((uu 2 x &&& uu 2 y : Nat) : Int)), .int .i64 (0)]) ∧ w = w' := by
  have f0 : (op.toList == [43]) = false := by rw [hop]; rfl
  have f1 : (op.toList == [45]) = false := by rw [hop]; rfl
  have f2 : (op.toList == [42]) = false := by rw [hop]; rfl
  have f3 : (op.toList == [47]) = false := by rw [hop]; rfl
  have f4 : (op.toList == [37]) = false := by rw [hop]; rfl
  have f5 : (op.toList == [38]) = true := by rw [hop]; rfl
  have f6 : (op.toList == [124]) = false := by rw [hop]; rfl
  have f7 : (op.toList == [94]) = false := by rw [hop]; rfl
  have f8 : (op.toList == [60, 60]) = false := by rw [hop]; rfl
  have f9 : (op.toList == [62, 62]) = false := by rw [hop]; rfl
  have f10 : (op.toList == [61, 61]) = false := by rw [hop]; rfl
  have f11 : (op.toList == [33, 61]) = false := by rw [hop]; rfl
  have f12 : (op.toList == [60]) = false := by rw [hop]; rfl
  have f13 : (op.toList == [60, 61]) = false := by rw [hop]; rfl
  have f14 : (op.toList == [62]) = false := by rw [hop]; rfl
  have f15 : (op.toList == [62, 61]) = false := by rw [hop]; rfl
  have H := Lib.hid hop
  clear hop
  go_enter Try.func11, Try.ntmps11
  go_wp2_with fail
  refine (rwrap 2 a _ ha).mono ?_
  rintro e w' ⟨rfl, rfl⟩
  rw [HX.out]
  go_wp2_with fail
  refine (rwrap 2 b _ hb).mono ?_
  rintro e w' ⟨rfl, rfl⟩
  rw [HY.out]
  go_wp2_with fail
  refine (rbits2_and x y op _ H.out).mono ?_
  rintro e w' ⟨rfl, rfl⟩
  go_wp2_with fail
  go_ret2
  exact ⟨rfl, rfl⟩
set_option maxRecDepth 100000 in
set_option maxHeartbeats 1000000 in
theorem rbin2_or (a b x y : Int) (op : ByteArray) (w : World) (hop : op.toList = [124]) (ha : (Lit.int .i64 a).wf = true) (hb : (Lit.int .i64 b).wf = true) (HX : Hid (wr 2 a = x)) (HY : Hid (wr 2 b = y))
    (hx1 : -9223372036854775808 ≤ x) (hx2 : x ≤ 9223372036854775807) (hy1 : -9223372036854775808 ≤ y) (hy2 : y ≤ 9223372036854775807) :
    Calls Try.prog 11 #[.int .i64 2, .string op, .int .i64 a, .int .i64 b] w fun e w' => e = .returned (.tuple #[.int .i64 (wr 2 ((uu 2 x ||| uu 2 y : Nat) : Int)), .int .i64 (0)]) ∧ w = w' := by
  have f0 : (op.toList == [43]) = false := by rw [hop]; rfl
  have f1 : (op.toList == [45]) = false := by rw [hop]; rfl
  have f2 : (op.toList == [42]) = false := by rw [hop]; rfl
  have f3 : (op.toList == [47]) = false := by rw [hop]; rfl
  have f4 : (op.toList == [37]) = false := by rw [hop]; rfl
  have f5 : (op.toList == [38]) = false := by rw [hop]; rfl
  have f6 : (op.toList == [124]) = true := by rw [hop]; rfl
  have f7 : (op.toList == [94]) = false := by rw [hop]; rfl
  have f8 : (op.toList == [60, 60]) = false := by rw [hop]; rfl
  have f9 : (op.toList == [62, 62]) = false := by rw [hop]; rfl
  have f10 : (op.toList == [61, 61]) = false := by rw [hop]; rfl
  have f11 : (op.toList == [33, 61]) = false := by rw [hop]; rfl
  have f12 : (op.toList == [60]) = false := by rw [hop]; rfl
  have f13 : (op.toList == [60, 61]) = false := by rw [hop]; rfl
  have f14 : (op.toList == [62]) = false := by rw [hop]; rfl
  have f15 : (op.toList == [62, 61]) = false := by rw [hop]; rfl
  have H := Lib.hid hop
  clear hop
  go_enter Try.func11, Try.ntmps11
  go_wp2_with fail
  refine (rwrap 2 a _ ha).mono ?_
  rintro e w' ⟨rfl, rfl⟩
  rw [HX.out]
  go_wp2_with fail
  refine (rwrap 2 b _ hb).mono ?_
  rintro e w' ⟨rfl, rfl⟩
  rw [HY.out]
  go_wp2_with fail
  refine (rbits2_or x y op _ H.out).mono ?_
  rintro e w' ⟨rfl, rfl⟩
  go_wp2_with fail
  go_ret2
  exact ⟨rfl, rfl⟩
set_option maxRecDepth 100000 in
set_option maxHeartbeats 1000000 in
theorem rbin2_xor (a b x y : Int) (op : ByteArray) (w : World) (hop : op.toList = [94]) (ha : (Lit.int .i64 a).wf = true) (hb : (Lit.int .i64 b).wf = true) (HX : Hid (wr 2 a = x)) (HY : Hid (wr 2 b = y))
    (hx1 : -9223372036854775808 ≤ x) (hx2 : x ≤ 9223372036854775807) (hy1 : -9223372036854775808 ≤ y) (hy2 : y ≤ 9223372036854775807) :
    Calls Try.prog 11 #[.int .i64 2, .string op, .int .i64 a, .int .i64 b] w fun e w' => e = .returned (.tuple #[.int .i64 (wr 2 ((uu 2 x ^^^ uu 2 y : Nat) : Int)), .int .i64 (0)]) ∧ w = w' := by
  have f0 : (op.toList == [43]) = false := by rw [hop]; rfl
  have f1 : (op.toList == [45]) = false := by rw [hop]; rfl
  have f2 : (op.toList == [42]) = false := by rw [hop]; rfl
  have f3 : (op.toList == [47]) = false := by rw [hop]; rfl
  have f4 : (op.toList == [37]) = false := by rw [hop]; rfl
  have f5 : (op.toList == [38]) = false := by rw [hop]; rfl
  have f6 : (op.toList == [124]) = false := by rw [hop]; rfl
  have f7 : (op.toList == [94]) = true := by rw [hop]; rfl
  have f8 : (op.toList == [60, 60]) = false := by rw [hop]; rfl
  have f9 : (op.toList == [62, 62]) = false := by rw [hop]; rfl
  have f10 : (op.toList == [61, 61]) = false := by rw [hop]; rfl
  have f11 : (op.toList == [33, 61]) = false := by rw [hop]; rfl
  have f12 : (op.toList == [60]) = false := by rw [hop]; rfl
  have f13 : (op.toList == [60, 61]) = false := by rw [hop]; rfl
  have f14 : (op.toList == [62]) = false := by rw [hop]; rfl
  have f15 : (op.toList == [62, 61]) = false := by rw [hop]; rfl
  have H := Lib.hid hop
  clear hop
  go_enter Try.func11, Try.ntmps11
  go_wp2_with fail
  refine (rwrap 2 a _ ha).mono ?_
  rintro e w' ⟨rfl, rfl⟩
  rw [HX.out]
  go_wp2_with fail
  refine (rwrap 2 b _ hb).mono ?_
  rintro e w' ⟨rfl, rfl⟩
  rw [HY.out]
  go_wp2_with fail
  refine (rbits2_xor x y op _ H.out).mono ?_
  rintro e w' ⟨rfl, rfl⟩
  go_wp2_with fail
  go_ret2
  exact ⟨rfl, rfl⟩
set_option maxRecDepth 100000 in
set_option maxHeartbeats 1000000 in
theorem rbin2_shl (a b x y : Int) (op : ByteArray) (w : World) (hop : op.toList = [60, 60]) (ha : (Lit.int .i64 a).wf = true) (hb : (Lit.int .i64 b).wf = true) (HX : Hid (wr 2 a = x)) (HY : Hid (wr 2 b = y)) (k : Nat) (HK : Hid (y % 64 = (k : Int))) (HXX : Hid (wr 2 x = x))
    (hx1 : -9223372036854775808 ≤ x) (hx2 : x ≤ 9223372036854775807) (hy1 : -9223372036854775808 ≤ y) (hy2 : y ≤ 9223372036854775807) :
    Calls Try.prog 11 #[.int .i64 2, .string op, .int .i64 a, .int .i64 b] w fun e w' => e = .returned (.tuple #[.int .i64 (lft 2 x k), .int .i64 (0)]) ∧ w = w' := by
  have f0 : (op.toList == [43]) = false := by rw [hop]; rfl
  have f1 : (op.toList == [45]) = false := by rw [hop]; rfl
  have f2 : (op.toList == [42]) = false := by rw [hop]; rfl
  have f3 : (op.toList == [47]) = false := by rw [hop]; rfl
  have f4 : (op.toList == [37]) = false := by rw [hop]; rfl
  have f5 : (op.toList == [38]) = false := by rw [hop]; rfl
  have f6 : (op.toList == [124]) = false := by rw [hop]; rfl
  have f7 : (op.toList == [94]) = false := by rw [hop]; rfl
  have f8 : (op.toList == [60, 60]) = true := by rw [hop]; rfl
  have f9 : (op.toList == [62, 62]) = false := by rw [hop]; rfl
  have f10 : (op.toList == [61, 61]) = false := by rw [hop]; rfl
  have f11 : (op.toList == [33, 61]) = false := by rw [hop]; rfl
  have f12 : (op.toList == [60]) = false := by rw [hop]; rfl
  have f13 : (op.toList == [60, 61]) = false := by rw [hop]; rfl
  have f14 : (op.toList == [62]) = false := by rw [hop]; rfl
  have f15 : (op.toList == [62, 61]) = false := by rw [hop]; rfl
  have H := Lib.hid hop
  clear hop
  go_enter Try.func11, Try.ntmps11
  go_wp2_with fail
  refine (rwrap 2 a _ ha).mono ?_
  rintro e w' ⟨rfl, rfl⟩
  rw [HX.out]
  go_wp2_with fail
  refine (rwrap 2 b _ hb).mono ?_
  rintro e w' ⟨rfl, rfl⟩
  rw [HY.out]
  go_wp2_with fail
  refine (rsh2_shl x y k op _ H.out HK.out hx1 hx2 HXX.out (by omega) (by omega)).mono ?_
  rintro e w' ⟨rfl, rfl⟩
  go_wp2_with fail
  go_ret2
  exact ⟨rfl, rfl⟩
set_option maxRecDepth 100000 in
set_option maxHeartbeats 1000000 in
theorem rbin2_shr (a b x y : Int) (op : ByteArray) (w : World) (hop : op.toList = [62, 62]) (ha : (Lit.int .i64 a).wf = true) (hb : (Lit.int .i64 b).wf = true) (HX : Hid (wr 2 a = x)) (HY : Hid (wr 2 b = y)) (k : Nat) (HK : Hid (y % 64 = (k : Int))) (HXX : Hid (wr 2 x = x))
    (hx1 : -9223372036854775808 ≤ x) (hx2 : x ≤ 9223372036854775807) (hy1 : -9223372036854775808 ≤ y) (hy2 : y ≤ 9223372036854775807) :
    Calls Try.prog 11 #[.int .i64 2, .string op, .int .i64 a, .int .i64 b] w fun e w' => e = .returned (.tuple #[.int .i64 (x / 2 ^ k), .int .i64 (0)]) ∧ w = w' := by
  have f0 : (op.toList == [43]) = false := by rw [hop]; rfl
  have f1 : (op.toList == [45]) = false := by rw [hop]; rfl
  have f2 : (op.toList == [42]) = false := by rw [hop]; rfl
  have f3 : (op.toList == [47]) = false := by rw [hop]; rfl
  have f4 : (op.toList == [37]) = false := by rw [hop]; rfl
  have f5 : (op.toList == [38]) = false := by rw [hop]; rfl
  have f6 : (op.toList == [124]) = false := by rw [hop]; rfl
  have f7 : (op.toList == [94]) = false := by rw [hop]; rfl
  have f8 : (op.toList == [60, 60]) = false := by rw [hop]; rfl
  have f9 : (op.toList == [62, 62]) = true := by rw [hop]; rfl
  have f10 : (op.toList == [61, 61]) = false := by rw [hop]; rfl
  have f11 : (op.toList == [33, 61]) = false := by rw [hop]; rfl
  have f12 : (op.toList == [60]) = false := by rw [hop]; rfl
  have f13 : (op.toList == [60, 61]) = false := by rw [hop]; rfl
  have f14 : (op.toList == [62]) = false := by rw [hop]; rfl
  have f15 : (op.toList == [62, 61]) = false := by rw [hop]; rfl
  have H := Lib.hid hop
  clear hop
  go_enter Try.func11, Try.ntmps11
  go_wp2_with fail
  refine (rwrap 2 a _ ha).mono ?_
  rintro e w' ⟨rfl, rfl⟩
  rw [HX.out]
  go_wp2_with fail
  refine (rwrap 2 b _ hb).mono ?_
  rintro e w' ⟨rfl, rfl⟩
  rw [HY.out]
  go_wp2_with fail
  refine (rsh2_shr x y k op _ H.out HK.out hx1 hx2 HXX.out (by omega) (by omega)).mono ?_
  rintro e w' ⟨rfl, rfl⟩
  go_wp2_with fail
  go_ret2
  exact ⟨rfl, rfl⟩
set_option maxRecDepth 100000 in
set_option maxHeartbeats 1000000 in
theorem rbin2_eq (a b x y : Int) (op : ByteArray) (w : World) (hop : op.toList = [61, 61]) (ha : (Lit.int .i64 a).wf = true) (hb : (Lit.int .i64 b).wf = true) (HX : Hid (wr 2 a = x)) (HY : Hid (wr 2 b = y))
    (hx1 : -9223372036854775808 ≤ x) (hx2 : x ≤ 9223372036854775807) (hy1 : -9223372036854775808 ≤ y) (hy2 : y ≤ 9223372036854775807) :
    Calls Try.prog 11 #[.int .i64 2, .string op, .int .i64 a, .int .i64 b] w fun e w' => e = .returned (.tuple #[.int .i64 (tr (x == y)), .int .i64 (0)]) ∧ w = w' := by
  have f0 : (op.toList == [43]) = false := by rw [hop]; rfl
  have f1 : (op.toList == [45]) = false := by rw [hop]; rfl
  have f2 : (op.toList == [42]) = false := by rw [hop]; rfl
  have f3 : (op.toList == [47]) = false := by rw [hop]; rfl
  have f4 : (op.toList == [37]) = false := by rw [hop]; rfl
  have f5 : (op.toList == [38]) = false := by rw [hop]; rfl
  have f6 : (op.toList == [124]) = false := by rw [hop]; rfl
  have f7 : (op.toList == [94]) = false := by rw [hop]; rfl
  have f8 : (op.toList == [60, 60]) = false := by rw [hop]; rfl
  have f9 : (op.toList == [62, 62]) = false := by rw [hop]; rfl
  have f10 : (op.toList == [61, 61]) = true := by rw [hop]; rfl
  have f11 : (op.toList == [33, 61]) = false := by rw [hop]; rfl
  have f12 : (op.toList == [60]) = false := by rw [hop]; rfl
  have f13 : (op.toList == [60, 61]) = false := by rw [hop]; rfl
  have f14 : (op.toList == [62]) = false := by rw [hop]; rfl
  have f15 : (op.toList == [62, 61]) = false := by rw [hop]; rfl
  have H := Lib.hid hop
  clear hop
  go_enter Try.func11, Try.ntmps11
  go_wp2_with fail
  refine (rwrap 2 a _ ha).mono ?_
  rintro e w' ⟨rfl, rfl⟩
  rw [HX.out]
  go_wp2_with fail
  refine (rwrap 2 b _ hb).mono ?_
  rintro e w' ⟨rfl, rfl⟩
  rw [HY.out]
  go_wp2_with fail
  refine (rone _ _).mono ?_
  rintro e w' ⟨rfl, rfl⟩
  go_wp2_with fail
  go_ret2
  exact ⟨rfl, rfl⟩
set_option maxRecDepth 100000 in
set_option maxHeartbeats 1000000 in
theorem rbin2_ne (a b x y : Int) (op : ByteArray) (w : World) (hop : op.toList = [33, 61]) (ha : (Lit.int .i64 a).wf = true) (hb : (Lit.int .i64 b).wf = true) (HX : Hid (wr 2 a = x)) (HY : Hid (wr 2 b = y))
    (hx1 : -9223372036854775808 ≤ x) (hx2 : x ≤ 9223372036854775807) (hy1 : -9223372036854775808 ≤ y) (hy2 : y ≤ 9223372036854775807) :
    Calls Try.prog 11 #[.int .i64 2, .string op, .int .i64 a, .int .i64 b] w fun e w' => e = .returned (.tuple #[.int .i64 (tr (x != y)), .int .i64 (0)]) ∧ w = w' := by
  have f0 : (op.toList == [43]) = false := by rw [hop]; rfl
  have f1 : (op.toList == [45]) = false := by rw [hop]; rfl
  have f2 : (op.toList == [42]) = false := by rw [hop]; rfl
  have f3 : (op.toList == [47]) = false := by rw [hop]; rfl
  have f4 : (op.toList == [37]) = false := by rw [hop]; rfl
  have f5 : (op.toList == [38]) = false := by rw [hop]; rfl
  have f6 : (op.toList == [124]) = false := by rw [hop]; rfl
  have f7 : (op.toList == [94]) = false := by rw [hop]; rfl
  have f8 : (op.toList == [60, 60]) = false := by rw [hop]; rfl
  have f9 : (op.toList == [62, 62]) = false := by rw [hop]; rfl
  have f10 : (op.toList == [61, 61]) = false := by rw [hop]; rfl
  have f11 : (op.toList == [33, 61]) = true := by rw [hop]; rfl
  have f12 : (op.toList == [60]) = false := by rw [hop]; rfl
  have f13 : (op.toList == [60, 61]) = false := by rw [hop]; rfl
  have f14 : (op.toList == [62]) = false := by rw [hop]; rfl
  have f15 : (op.toList == [62, 61]) = false := by rw [hop]; rfl
  have H := Lib.hid hop
  clear hop
  go_enter Try.func11, Try.ntmps11
  go_wp2_with fail
  refine (rwrap 2 a _ ha).mono ?_
  rintro e w' ⟨rfl, rfl⟩
  rw [HX.out]
  go_wp2_with fail
  refine (rwrap 2 b _ hb).mono ?_
  rintro e w' ⟨rfl, rfl⟩
  rw [HY.out]
  go_wp2_with fail
  refine (rone _ _).mono ?_
  rintro e w' ⟨rfl, rfl⟩
  go_wp2_with fail
  go_ret2
  exact ⟨rfl, rfl⟩
set_option maxRecDepth 100000 in
set_option maxHeartbeats 1000000 in
theorem rbin2_lt (a b x y : Int) (op : ByteArray) (w : World) (hop : op.toList = [60]) (ha : (Lit.int .i64 a).wf = true) (hb : (Lit.int .i64 b).wf = true) (HX : Hid (wr 2 a = x)) (HY : Hid (wr 2 b = y))
    (hx1 : -9223372036854775808 ≤ x) (hx2 : x ≤ 9223372036854775807) (hy1 : -9223372036854775808 ≤ y) (hy2 : y ≤ 9223372036854775807) :
    Calls Try.prog 11 #[.int .i64 2, .string op, .int .i64 a, .int .i64 b] w fun e w' => e = .returned (.tuple #[.int .i64 (tr (decide (x < y))), .int .i64 (0)]) ∧ w = w' := by
  have f0 : (op.toList == [43]) = false := by rw [hop]; rfl
  have f1 : (op.toList == [45]) = false := by rw [hop]; rfl
  have f2 : (op.toList == [42]) = false := by rw [hop]; rfl
  have f3 : (op.toList == [47]) = false := by rw [hop]; rfl
  have f4 : (op.toList == [37]) = false := by rw [hop]; rfl
  have f5 : (op.toList == [38]) = false := by rw [hop]; rfl
  have f6 : (op.toList == [124]) = false := by rw [hop]; rfl
  have f7 : (op.toList == [94]) = false := by rw [hop]; rfl
  have f8 : (op.toList == [60, 60]) = false := by rw [hop]; rfl
  have f9 : (op.toList == [62, 62]) = false := by rw [hop]; rfl
  have f10 : (op.toList == [61, 61]) = false := by rw [hop]; rfl
  have f11 : (op.toList == [33, 61]) = false := by rw [hop]; rfl
  have f12 : (op.toList == [60]) = true := by rw [hop]; rfl
  have f13 : (op.toList == [60, 61]) = false := by rw [hop]; rfl
  have f14 : (op.toList == [62]) = false := by rw [hop]; rfl
  have f15 : (op.toList == [62, 61]) = false := by rw [hop]; rfl
  have H := Lib.hid hop
  clear hop
  go_enter Try.func11, Try.ntmps11
  go_wp2_with fail
  refine (rwrap 2 a _ ha).mono ?_
  rintro e w' ⟨rfl, rfl⟩
  rw [HX.out]
  go_wp2_with fail
  refine (rwrap 2 b _ hb).mono ?_
  rintro e w' ⟨rfl, rfl⟩
  rw [HY.out]
  go_wp2_with fail
  refine (rone _ _).mono ?_
  rintro e w' ⟨rfl, rfl⟩
  go_wp2_with fail
  go_ret2
  exact ⟨rfl, rfl⟩
set_option maxRecDepth 100000 in
set_option maxHeartbeats 1000000 in
theorem rbin2_le (a b x y : Int) (op : ByteArray) (w : World) (hop : op.toList = [60, 61]) (ha : (Lit.int .i64 a).wf = true) (hb : (Lit.int .i64 b).wf = true) (HX : Hid (wr 2 a = x)) (HY : Hid (wr 2 b = y))
    (hx1 : -9223372036854775808 ≤ x) (hx2 : x ≤ 9223372036854775807) (hy1 : -9223372036854775808 ≤ y) (hy2 : y ≤ 9223372036854775807) :
    Calls Try.prog 11 #[.int .i64 2, .string op, .int .i64 a, .int .i64 b] w fun e w' => e = .returned (.tuple #[.int .i64 (tr (decide (x ≤ y))), .int .i64 (0)]) ∧ w = w' := by
  have f0 : (op.toList == [43]) = false := by rw [hop]; rfl
  have f1 : (op.toList == [45]) = false := by rw [hop]; rfl
  have f2 : (op.toList == [42]) = false := by rw [hop]; rfl
  have f3 : (op.toList == [47]) = false := by rw [hop]; rfl
  have f4 : (op.toList == [37]) = false := by rw [hop]; rfl
  have f5 : (op.toList == [38]) = false := by rw [hop]; rfl
  have f6 : (op.toList == [124]) = false := by rw [hop]; rfl
  have f7 : (op.toList == [94]) = false := by rw [hop]; rfl
  have f8 : (op.toList == [60, 60]) = false := by rw [hop]; rfl
  have f9 : (op.toList == [62, 62]) = false := by rw [hop]; rfl
  have f10 : (op.toList == [61, 61]) = false := by rw [hop]; rfl
  have f11 : (op.toList == [33, 61]) = false := by rw [hop]; rfl
  have f12 : (op.toList == [60]) = false := by rw [hop]; rfl
  have f13 : (op.toList == [60, 61]) = true := by rw [hop]; rfl
  have f14 : (op.toList == [62]) = false := by rw [hop]; rfl
  have f15 : (op.toList == [62, 61]) = false := by rw [hop]; rfl
  have H := Lib.hid hop
  clear hop
  go_enter Try.func11, Try.ntmps11
  go_wp2_with fail
  refine (rwrap 2 a _ ha).mono ?_
  rintro e w' ⟨rfl, rfl⟩
  rw [HX.out]
  go_wp2_with fail
  refine (rwrap 2 b _ hb).mono ?_
  rintro e w' ⟨rfl, rfl⟩
  rw [HY.out]
  go_wp2_with fail
  refine (rone _ _).mono ?_
  rintro e w' ⟨rfl, rfl⟩
  go_wp2_with fail
  go_ret2
  exact ⟨rfl, rfl⟩
set_option maxRecDepth 100000 in
set_option maxHeartbeats 1000000 in
theorem rbin2_gt (a b x y : Int) (op : ByteArray) (w : World) (hop : op.toList = [62]) (ha : (Lit.int .i64 a).wf = true) (hb : (Lit.int .i64 b).wf = true) (HX : Hid (wr 2 a = x)) (HY : Hid (wr 2 b = y))
    (hx1 : -9223372036854775808 ≤ x) (hx2 : x ≤ 9223372036854775807) (hy1 : -9223372036854775808 ≤ y) (hy2 : y ≤ 9223372036854775807) :
    Calls Try.prog 11 #[.int .i64 2, .string op, .int .i64 a, .int .i64 b] w fun e w' => e = .returned (.tuple #[.int .i64 (tr (decide (y < x))), .int .i64 (0)]) ∧ w = w' := by
  have f0 : (op.toList == [43]) = false := by rw [hop]; rfl
  have f1 : (op.toList == [45]) = false := by rw [hop]; rfl
  have f2 : (op.toList == [42]) = false := by rw [hop]; rfl
  have f3 : (op.toList == [47]) = false := by rw [hop]; rfl
  have f4 : (op.toList == [37]) = false := by rw [hop]; rfl
  have f5 : (op.toList == [38]) = false := by rw [hop]; rfl
  have f6 : (op.toList == [124]) = false := by rw [hop]; rfl
  have f7 : (op.toList == [94]) = false := by rw [hop]; rfl
  have f8 : (op.toList == [60, 60]) = false := by rw [hop]; rfl
  have f9 : (op.toList == [62, 62]) = false := by rw [hop]; rfl
  have f10 : (op.toList == [61, 61]) = false := by rw [hop]; rfl
  have f11 : (op.toList == [33, 61]) = false := by rw [hop]; rfl
  have f12 : (op.toList == [60]) = false := by rw [hop]; rfl
  have f13 : (op.toList == [60, 61]) = false := by rw [hop]; rfl
  have f14 : (op.toList == [62]) = true := by rw [hop]; rfl
  have f15 : (op.toList == [62, 61]) = false := by rw [hop]; rfl
  have H := Lib.hid hop
  clear hop
  go_enter Try.func11, Try.ntmps11
  go_wp2_with fail
  refine (rwrap 2 a _ ha).mono ?_
  rintro e w' ⟨rfl, rfl⟩
  rw [HX.out]
  go_wp2_with fail
  refine (rwrap 2 b _ hb).mono ?_
  rintro e w' ⟨rfl, rfl⟩
  rw [HY.out]
  go_wp2_with fail
  refine (rone _ _).mono ?_
  rintro e w' ⟨rfl, rfl⟩
  go_wp2_with fail
  go_ret2
  exact ⟨rfl, rfl⟩
set_option maxRecDepth 100000 in
set_option maxHeartbeats 1000000 in
theorem rbin2_ge (a b x y : Int) (op : ByteArray) (w : World) (hop : op.toList = [62, 61]) (ha : (Lit.int .i64 a).wf = true) (hb : (Lit.int .i64 b).wf = true) (HX : Hid (wr 2 a = x)) (HY : Hid (wr 2 b = y))
    (hx1 : -9223372036854775808 ≤ x) (hx2 : x ≤ 9223372036854775807) (hy1 : -9223372036854775808 ≤ y) (hy2 : y ≤ 9223372036854775807) :
    Calls Try.prog 11 #[.int .i64 2, .string op, .int .i64 a, .int .i64 b] w fun e w' => e = .returned (.tuple #[.int .i64 (tr (decide (y ≤ x))), .int .i64 (0)]) ∧ w = w' := by
  have f0 : (op.toList == [43]) = false := by rw [hop]; rfl
  have f1 : (op.toList == [45]) = false := by rw [hop]; rfl
  have f2 : (op.toList == [42]) = false := by rw [hop]; rfl
  have f3 : (op.toList == [47]) = false := by rw [hop]; rfl
  have f4 : (op.toList == [37]) = false := by rw [hop]; rfl
  have f5 : (op.toList == [38]) = false := by rw [hop]; rfl
  have f6 : (op.toList == [124]) = false := by rw [hop]; rfl
  have f7 : (op.toList == [94]) = false := by rw [hop]; rfl
  have f8 : (op.toList == [60, 60]) = false := by rw [hop]; rfl
  have f9 : (op.toList == [62, 62]) = false := by rw [hop]; rfl
  have f10 : (op.toList == [61, 61]) = false := by rw [hop]; rfl
  have f11 : (op.toList == [33, 61]) = false := by rw [hop]; rfl
  have f12 : (op.toList == [60]) = false := by rw [hop]; rfl
  have f13 : (op.toList == [60, 61]) = false := by rw [hop]; rfl
  have f14 : (op.toList == [62]) = false := by rw [hop]; rfl
  have f15 : (op.toList == [62, 61]) = true := by rw [hop]; rfl
  have H := Lib.hid hop
  clear hop
  go_enter Try.func11, Try.ntmps11
  go_wp2_with fail
  refine (rwrap 2 a _ ha).mono ?_
  rintro e w' ⟨rfl, rfl⟩
  rw [HX.out]
  go_wp2_with fail
  refine (rwrap 2 b _ hb).mono ?_
  rintro e w' ⟨rfl, rfl⟩
  rw [HY.out]
  go_wp2_with fail
  refine (rone _ _).mono ?_
  rintro e w' ⟨rfl, rfl⟩
  go_wp2_with fail
  go_ret2
  exact ⟨rfl, rfl⟩
set_option maxRecDepth 100000 in
set_option maxHeartbeats 1000000 in
theorem rbin2_none (a b x y : Int) (op : ByteArray) (w : World) (f0 : (op.toList == [43]) = false) (f1 : (op.toList == [45]) = false) (f2 : (op.toList == [42]) = false) (f3 : (op.toList == [47]) = false) (f4 : (op.toList == [37]) = false) (f5 : (op.toList == [38]) = false) (f6 : (op.toList == [124]) = false) (f7 : (op.toList == [94]) = false) (f8 : (op.toList == [60, 60]) = false) (f9 : (op.toList == [62, 62]) = false) (f10 : (op.toList == [61, 61]) = false) (f11 : (op.toList == [33, 61]) = false) (f12 : (op.toList == [60]) = false) (f13 : (op.toList == [60, 61]) = false) (f14 : (op.toList == [62]) = false) (f15 : (op.toList == [62, 61]) = false) (ha : (Lit.int .i64 a).wf = true) (hb : (Lit.int .i64 b).wf = true) (HX : Hid (wr 2 a = x)) (HY : Hid (wr 2 b = y))
    (hx1 : -9223372036854775808 ≤ x) (hx2 : x ≤ 9223372036854775807) (hy1 : -9223372036854775808 ≤ y) (hy2 : y ≤ 9223372036854775807) :
    Calls Try.prog 11 #[.int .i64 2, .string op, .int .i64 a, .int .i64 b] w fun e w' => e = .returned (.tuple #[.int .i64 (0), .int .i64 (0)]) ∧ w = w' := by
  go_enter Try.func11, Try.ntmps11
  go_wp2_with fail
  refine (rwrap 2 a _ ha).mono ?_
  rintro e w' ⟨rfl, rfl⟩
  rw [HX.out]
  go_wp2_with fail
  refine (rwrap 2 b _ hb).mono ?_
  rintro e w' ⟨rfl, rfl⟩
  rw [HY.out]
  go_wp2_with fail
  go_ret2
  exact ⟨rfl, rfl⟩
end Go.Proofs.Ytfbdoaaicomdjaa
