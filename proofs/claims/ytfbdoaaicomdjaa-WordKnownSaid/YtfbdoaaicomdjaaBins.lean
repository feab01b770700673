/-
  WordBins: of any type, operation and numbers the answer is the document's: the law's walk.
-/
import Derived.Test.YtfbdoaaicomdjaaRefe
import Derived.Test.YtfbdoaaicomdjaaWd
namespace Go.Proofs.Ytfbdoaaicomdjaa
open Go.RowKit Go.WideMaps Go.Maps
set_option linter.unusedVariables false
set_option linter.unusedSimpArgs false

theorem rbin1_any (a b : Int) (op : ByteArray) (w : World) (ha : (Lit.int .i64 a).wf = true) (hb : (Lit.int .i64 b).wf = true) :
    Calls Try.prog 11 #[.int .i64 1, .string op, .int .i64 a, .int .i64 b] w fun e w' => e = .returned (.tuple #[.int .i64 (bn 1 op.toList a b).1, .int .i64 (bn 1 op.toList a b).2]) ∧ w = w' := by
  have bx : -2147483648 ≤ wr 1 a ∧ wr 1 a ≤ 2147483647 := by rw [wr1_eq]; exact w32_bd a
  have byy : -2147483648 ≤ wr 1 b ∧ wr 1 b ≤ 2147483647 := by rw [wr1_eq]; exact w32_bd b
  have hc := bn_cmp 1 a b (Or.inl rfl) ha hb
  have hbn : ∀ l, bn 1 l a b = bn32 l (wr 1 a) (wr 1 b) := fun l => rfl
  by_cases hadd : op.toList = [43]
  · exact (rbin1_add a b _ _ op w hadd ha hb rfl rfl bx.1 bx.2 byy.1 byy.2).mono fun e w' h => ⟨by rw [h.1]; exact two_eq (by rw [hadd, bn_add 1 a b (Or.inl rfl), wr_addl 1 _ _ (Or.inl rfl), wr_addr 1 _ _ (Or.inl rfl)]), h.2⟩
  by_cases hsub : op.toList = [45]
  · exact (rbin1_sub a b _ _ op w hsub ha hb rfl rfl bx.1 bx.2 byy.1 byy.2).mono fun e w' h => ⟨by rw [h.1]; exact two_eq (by rw [hsub, bn_sub 1 a b (Or.inl rfl), wr_sub 1 _ _ (Or.inl rfl)]), h.2⟩
  by_cases hmul : op.toList = [42]
  · exact (rbin1_mul a b _ _ op w hmul ha hb rfl rfl bx.1 bx.2 byy.1 byy.2).mono fun e w' h => ⟨by rw [h.1]; exact two_eq (by rw [hmul, bn_mul 1 a b (Or.inl rfl), wr_mull 1 _ _ (Or.inl rfl), wr_mulr 1 _ _ (Or.inl rfl)]), h.2⟩
  by_cases hdiv : op.toList = [47]
  · exact (rbin1_div a b _ _ op w hdiv ha hb rfl rfl bx.1 bx.2 byy.1 byy.2).mono fun e w' h => ⟨by rw [h.1]; exact two_eq (by rw [hdiv, hbn]), h.2⟩
  by_cases hrem : op.toList = [37]
  · exact (rbin1_rem a b _ _ op w hrem ha hb rfl rfl bx.1 bx.2 byy.1 byy.2).mono fun e w' h => ⟨by rw [h.1]; exact two_eq (by rw [hrem, hbn]), h.2⟩
  by_cases hand : op.toList = [38]
  · exact (rbin1_and a b _ _ op w hand ha hb rfl rfl bx.1 bx.2 byy.1 byy.2).mono fun e w' h => ⟨by rw [h.1]; exact two_eq (by rw [hand, bn_and 1 a b (Or.inl rfl), uu_wr 1 a (Or.inl rfl), uu_wr 1 b (Or.inl rfl)]), h.2⟩
  by_cases hor : op.toList = [124]
  · exact (rbin1_or a b _ _ op w hor ha hb rfl rfl bx.1 bx.2 byy.1 byy.2).mono fun e w' h => ⟨by rw [h.1]; exact two_eq (by rw [hor, bn_or 1 a b (Or.inl rfl), uu_wr 1 a (Or.inl rfl), uu_wr 1 b (Or.inl rfl)]), h.2⟩
  by_cases hxor : op.toList = [94]
  · exact (rbin1_xor a b _ _ op w hxor ha hb rfl rfl bx.1 bx.2 byy.1 byy.2).mono fun e w' h => ⟨by rw [h.1]; exact two_eq (by rw [hxor, bn_xor 1 a b (Or.inl rfl), uu_wr 1 a (Or.inl rfl), uu_wr 1 b (Or.inl rfl)]), h.2⟩
  by_cases hshl : op.toList = [60, 60]
  · exact (rbin1_shl a b _ _ op w hshl ha hb rfl rfl (b % 32).toNat (show wr 1 b % 32 = _ by rw [wr1_eq]; unfold wrap32; omega) (wr_id 1 a (Or.inl rfl)) bx.1 bx.2 byy.1 byy.2).mono fun e w' h => ⟨by rw [h.1]; exact two_eq (by rw [hshl, bn_shl 1 a b (b % 32).toNat (Or.inl rfl) (show b % 32 = _ by omega) ha]; rfl), h.2⟩
  by_cases hshr : op.toList = [62, 62]
  · exact (rbin1_shr a b _ _ op w hshr ha hb rfl rfl (b % 32).toNat (show wr 1 b % 32 = _ by rw [wr1_eq]; unfold wrap32; omega) (wr_id 1 a (Or.inl rfl)) bx.1 bx.2 byy.1 byy.2).mono fun e w' h => ⟨by rw [h.1]; exact two_eq (by rw [hshr, bn_shr 1 a b (b % 32).toNat (Or.inl rfl) (show b % 32 = _ by omega) ha]), h.2⟩
  by_cases heq : op.toList = [61, 61]
  · exact (rbin1_eq a b _ _ op w heq ha hb rfl rfl bx.1 bx.2 byy.1 byy.2).mono fun e w' h => ⟨by rw [h.1]; exact two_eq (by rw [heq]; exact hc.1), h.2⟩
  by_cases hne : op.toList = [33, 61]
  · exact (rbin1_ne a b _ _ op w hne ha hb rfl rfl bx.1 bx.2 byy.1 byy.2).mono fun e w' h => ⟨by rw [h.1]; exact two_eq (by rw [hne]; exact hc.2.1), h.2⟩
  by_cases hlt : op.toList = [60]
  · exact (rbin1_lt a b _ _ op w hlt ha hb rfl rfl bx.1 bx.2 byy.1 byy.2).mono fun e w' h => ⟨by rw [h.1]; exact two_eq (by rw [hlt]; exact hc.2.2.1), h.2⟩
  by_cases hle : op.toList = [60, 61]
  · exact (rbin1_le a b _ _ op w hle ha hb rfl rfl bx.1 bx.2 byy.1 byy.2).mono fun e w' h => ⟨by rw [h.1]; exact two_eq (by rw [hle]; exact hc.2.2.2.1), h.2⟩
  by_cases hgt : op.toList = [62]
  · exact (rbin1_gt a b _ _ op w hgt ha hb rfl rfl bx.1 bx.2 byy.1 byy.2).mono fun e w' h => ⟨by rw [h.1]; exact two_eq (by rw [hgt]; exact hc.2.2.2.2.1), h.2⟩
  by_cases hge : op.toList = [62, 61]
  · exact (rbin1_ge a b _ _ op w hge ha hb rfl rfl bx.1 bx.2 byy.1 byy.2).mono fun e w' h => ⟨by rw [h.1]; exact two_eq (by rw [hge]; exact hc.2.2.2.2.2), h.2⟩
  · exact (rbin1_none a b _ _ op w (by simpa using hadd) (by simpa using hsub) (by simpa using hmul) (by simpa using hdiv) (by simpa using hrem) (by simpa using hand) (by simpa using hor) (by simpa using hxor) (by simpa using hshl) (by simpa using hshr) (by simpa using heq) (by simpa using hne) (by simpa using hlt) (by simpa using hle) (by simpa using hgt) (by simpa using hge) ha hb rfl rfl bx.1 bx.2 byy.1 byy.2).mono fun e w' h => ⟨by rw [h.1]; exact two_eq (by rw [hbn]; unfold bn32; rw [if_neg hadd, if_neg hsub, if_neg hmul, if_neg hdiv, if_neg hrem, if_neg hand, if_neg hor, if_neg hxor, if_neg hshl, if_neg hshr, if_neg heq, if_neg hne, if_neg hlt, if_neg hle, if_neg hgt, if_neg hge]), h.2⟩

theorem rbin2_any (a b : Int) (op : ByteArray) (w : World) (ha : (Lit.int .i64 a).wf = true) (hb : (Lit.int .i64 b).wf = true) :
    Calls Try.prog 11 #[.int .i64 2, .string op, .int .i64 a, .int .i64 b] w fun e w' => e = .returned (.tuple #[.int .i64 (bn 2 op.toList a b).1, .int .i64 (bn 2 op.toList a b).2]) ∧ w = w' := by
  have bx : -9223372036854775808 ≤ wr 2 a ∧ wr 2 a ≤ 9223372036854775807 := by rw [wr2_eq]; exact w64_bd a
  have byy : -9223372036854775808 ≤ wr 2 b ∧ wr 2 b ≤ 9223372036854775807 := by rw [wr2_eq]; exact w64_bd b
  have hc := bn_cmp 2 a b (Or.inr rfl) ha hb
  have hbn : ∀ l, bn 2 l a b = bn64 l (wr 2 a) (wr 2 b) := fun l => by rw [show wr 2 a = a from w64_id (bd64 ha), show wr 2 b = b from w64_id (bd64 hb)]; rfl
  by_cases hadd : op.toList = [43]
  · exact (rbin2_add a b _ _ op w hadd ha hb rfl rfl bx.1 bx.2 byy.1 byy.2).mono fun e w' h => ⟨by rw [h.1]; exact two_eq (by rw [hadd, bn_add 2 a b (Or.inr rfl), wr_addl 2 _ _ (Or.inr rfl), wr_addr 2 _ _ (Or.inr rfl)]), h.2⟩
  by_cases hsub : op.toList = [45]
  · exact (rbin2_sub a b _ _ op w hsub ha hb rfl rfl bx.1 bx.2 byy.1 byy.2).mono fun e w' h => ⟨by rw [h.1]; exact two_eq (by rw [hsub, bn_sub 2 a b (Or.inr rfl), wr_sub 2 _ _ (Or.inr rfl)]), h.2⟩
  by_cases hmul : op.toList = [42]
  · exact (rbin2_mul a b _ _ op w hmul ha hb rfl rfl bx.1 bx.2 byy.1 byy.2).mono fun e w' h => ⟨by rw [h.1]; exact two_eq (by rw [hmul, bn_mul 2 a b (Or.inr rfl), wr_mull 2 _ _ (Or.inr rfl), wr_mulr 2 _ _ (Or.inr rfl)]), h.2⟩
  by_cases hdiv : op.toList = [47]
  · exact (rbin2_div a b _ _ op w hdiv ha hb rfl rfl bx.1 bx.2 byy.1 byy.2).mono fun e w' h => ⟨by rw [h.1]; exact two_eq (by rw [hdiv, hbn]), h.2⟩
  by_cases hrem : op.toList = [37]
  · exact (rbin2_rem a b _ _ op w hrem ha hb rfl rfl bx.1 bx.2 byy.1 byy.2).mono fun e w' h => ⟨by rw [h.1]; exact two_eq (by rw [hrem, hbn]), h.2⟩
  by_cases hand : op.toList = [38]
  · exact (rbin2_and a b _ _ op w hand ha hb rfl rfl bx.1 bx.2 byy.1 byy.2).mono fun e w' h => ⟨by rw [h.1]; exact two_eq (by rw [hand, bn_and 2 a b (Or.inr rfl), uu_wr 2 a (Or.inr rfl), uu_wr 2 b (Or.inr rfl)]), h.2⟩
  by_cases hor : op.toList = [124]
  · exact (rbin2_or a b _ _ op w hor ha hb rfl rfl bx.1 bx.2 byy.1 byy.2).mono fun e w' h => ⟨by rw [h.1]; exact two_eq (by rw [hor, bn_or 2 a b (Or.inr rfl), uu_wr 2 a (Or.inr rfl), uu_wr 2 b (Or.inr rfl)]), h.2⟩
  by_cases hxor : op.toList = [94]
  · exact (rbin2_xor a b _ _ op w hxor ha hb rfl rfl bx.1 bx.2 byy.1 byy.2).mono fun e w' h => ⟨by rw [h.1]; exact two_eq (by rw [hxor, bn_xor 2 a b (Or.inr rfl), uu_wr 2 a (Or.inr rfl), uu_wr 2 b (Or.inr rfl)]), h.2⟩
  by_cases hshl : op.toList = [60, 60]
  · exact (rbin2_shl a b _ _ op w hshl ha hb rfl rfl (b % 64).toNat (show wr 2 b % 64 = _ by rw [wr2_eq]; unfold wrap64; omega) (wr_id 2 a (Or.inr rfl)) bx.1 bx.2 byy.1 byy.2).mono fun e w' h => ⟨by rw [h.1]; exact two_eq (by rw [hshl, bn_shl 2 a b (b % 64).toNat (Or.inr rfl) (show b % 64 = _ by omega) ha]; rfl), h.2⟩
  by_cases hshr : op.toList = [62, 62]
  · exact (rbin2_shr a b _ _ op w hshr ha hb rfl rfl (b % 64).toNat (show wr 2 b % 64 = _ by rw [wr2_eq]; unfold wrap64; omega) (wr_id 2 a (Or.inr rfl)) bx.1 bx.2 byy.1 byy.2).mono fun e w' h => ⟨by rw [h.1]; exact two_eq (by rw [hshr, bn_shr 2 a b (b % 64).toNat (Or.inr rfl) (show b % 64 = _ by omega) ha]), h.2⟩
  by_cases heq : op.toList = [61, 61]
  · exact (rbin2_eq a b _ _ op w heq ha hb rfl rfl bx.1 bx.2 byy.1 byy.2).mono fun e w' h => ⟨by rw [h.1]; exact two_eq (by rw [heq]; exact hc.1), h.2⟩
  by_cases hne : op.toList = [33, 61]
  · exact (rbin2_ne a b _ _ op w hne ha hb rfl rfl bx.1 bx.2 byy.1 byy.2).mono fun e w' h => ⟨by rw [h.1]; exact two_eq (by rw [hne]; exact hc.2.1), h.2⟩
  by_cases hlt : op.toList = [60]
  · exact (rbin2_lt a b _ _ op w hlt ha hb rfl rfl bx.1 bx.2 byy.1 byy.2).mono fun e w' h => ⟨by rw [h.1]; exact two_eq (by rw [hlt]; exact hc.2.2.1), h.2⟩
  by_cases hle : op.toList = [60, 61]
  · exact (rbin2_le a b _ _ op w hle ha hb rfl rfl bx.1 bx.2 byy.1 byy.2).mono fun e w' h => ⟨by rw [h.1]; exact two_eq (by rw [hle]; exact hc.2.2.2.1), h.2⟩
  by_cases hgt : op.toList = [62]
  · exact (rbin2_gt a b _ _ op w hgt ha hb rfl rfl bx.1 bx.2 byy.1 byy.2).mono fun e w' h => ⟨by rw [h.1]; exact two_eq (by rw [hgt]; exact hc.2.2.2.2.1), h.2⟩
  by_cases hge : op.toList = [62, 61]
  · exact (rbin2_ge a b _ _ op w hge ha hb rfl rfl bx.1 bx.2 byy.1 byy.2).mono fun e w' h => ⟨by rw [h.1]; exact two_eq (by rw [hge]; exact hc.2.2.2.2.2), h.2⟩
  · exact (rbin2_none a b _ _ op w (by simpa using hadd) (by simpa using hsub) (by simpa using hmul) (by simpa using hdiv) (by simpa using hrem) (by simpa using hand) (by simpa using hor) (by simpa using hxor) (by simpa using hshl) (by simpa using hshr) (by simpa using heq) (by simpa using hne) (by simpa using hlt) (by simpa using hle) (by simpa using hgt) (by simpa using hge) ha hb rfl rfl bx.1 bx.2 byy.1 byy.2).mono fun e w' h => ⟨by rw [h.1]; exact two_eq (by rw [hbn]; unfold bn64; rw [if_neg hadd, if_neg hsub, if_neg hmul, if_neg hdiv, if_neg hrem, if_neg hand, if_neg hor, if_neg hxor, if_neg hshl, if_neg hshr, if_neg heq, if_neg hne, if_neg hlt, if_neg hle, if_neg hgt, if_neg hge]), h.2⟩

theorem rbin_any (t a b : Int) (op : ByteArray) (w : World) (ha : (Lit.int .i64 a).wf = true) (hb : (Lit.int .i64 b).wf = true) :
    Calls Try.prog 11 #[.int .i64 t, .string op, .int .i64 a, .int .i64 b] w fun e w' => e = .returned (.tuple #[.int .i64 (bn t op.toList a b).1, .int .i64 (bn t op.toList a b).2]) ∧ w = w' := by
  by_cases h1 : t = 1
  · subst h1; exact rbin1_any a b op w ha hb
  by_cases h2 : t = 2
  · subst h2; exact rbin2_any a b op w ha hb
  · have hx : bn t op.toList a b = (0, 0) := by unfold bn; rw [if_neg h1, if_neg h2]
    rw [hx]
    have k1 : (t != 1) = true := by simpa using h1
    have k2 : (t != 2) = true := by simpa using h2
    clear hx h1 h2
    go_enter Try.func11, Try.ntmps11
    go_wp2_with fail
    go_ret2
    exact ⟨rfl, rfl⟩

set_option maxHeartbeats 1000000 in
theorem bins_walk (t : Int) (op : ByteArray) (a b : Int) (w : World) (ht : (Lit.int .i64 t).wf = true) (_ : op.size ≤ maxLen) (ha : (Lit.int .i64 a).wf = true) (hb : (Lit.int .i64 b).wf = true) :
    Calls Try.prog 3 #[.int .i64 t, .string op, .int .i64 a, .int .i64 b] w fun e w' => e = .returned (.bool true) ∧ Below w.heap.size w w' := by
  obtain ⟨x, y, HB⟩ : ∃ x y, Hid (bn t op.toList a b = (x, y)) := ⟨_, _, rfl⟩
  go_enter Try.func3, Try.ntmps3
  go_wp2_with fail
  refine (kbin _ _ (Below.refl _ _) t a b x y _ _ rfl HB.out ha hb).mono ?_
  rintro e w1 ⟨rfl, hb1⟩
  go_wp2_with fail
  refine (rbin_any t a b op _ ha hb).mono ?_
  rintro e w' ⟨rfl, rfl⟩
  rw [HB.out]
  go_wp2_with fail
  refine (kwidth _ _ hb1 t ht).mono ?_
  rintro e w2 ⟨rfl, hb2⟩
  clear hb1
  go_wp2_with fail
  refine (rwidth t _).mono ?_
  rintro e w' ⟨rfl, rfl⟩
  go_wp2_with fail
  refine (kw _ _ hb2 t a ht).mono ?_
  rintro e w3 ⟨rfl, hb3⟩
  clear hb2
  go_wp2_with fail
  refine (rwrap t a _ ha).mono ?_
  rintro e w' ⟨rfl, rfl⟩
  go_wp2_with fail
  refine (kworks _ _ hb3).mono ?_
  rintro e w4 ⟨rfl, hb4⟩
  clear hb3
  go_wp2_with fail
  go_ret
  exact ⟨rfl, hb4⟩
end Go.Proofs.Ytfbdoaaicomdjaa
