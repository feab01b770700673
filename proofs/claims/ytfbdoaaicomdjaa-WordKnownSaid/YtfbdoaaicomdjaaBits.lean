/-
  WordBits: bits and shifts of any numbers: the law's walk.
-/
import Derived.Test.YtfbdoaaicomdjaaWd
import Derived.Test.YtfbdoaaicomdjaaBitm
namespace Go.Proofs.Ytfbdoaaicomdjaa
open Go.RowKit Go.WideMaps Go.Maps
set_option linter.unusedVariables false
set_option linter.unusedSimpArgs false

set_option maxRecDepth 100000 in
set_option maxHeartbeats 1000000 in
theorem bits1_walk (a b : Int) (w : World) (ha : (Lit.int .i64 a).wf = true) (hb : (Lit.int .i64 b).wf = true) :
    Calls Try.prog 7 #[.bool false, .int .i64 a, .int .i64 b] w fun e w' => e = .returned (.bool true) ∧ Below w.heap.size w w' := by
  obtain ⟨s, n, o, z, n2, x, HXX, H, v1, v2, v3, v4, v5, v6⟩ : ∃ s n o z n2 x, Hid (wr 1 a = x) ∧ Hid (Heads 1 a b s n o z n2 x) ∧ (Lit.int .i64 s).wf = true ∧ (Lit.int .i64 n).wf = true ∧ (Lit.int .i64 o).wf = true ∧ (Lit.int .i64 z).wf = true ∧ (Lit.int .i64 n2).wf = true ∧ (Lit.int .i64 x).wf = true :=
    ⟨_, _, _, _, _, _, rfl, heads_any 1 a b (Or.inl rfl), wr_wf _ _, wr_wf _ _, wr_wf _ _, wr_wf _ _, wr_wf _ _, wr_wf _ _⟩
  go_enter Try.func7, Try.ntmps7
  go_wp2_with fail
  refine (kkind false _).mono ?_
  rintro e w' ⟨rfl, rfl⟩
  rw [show (if false then 2 else 1 : Int) = 1 from rfl]
  go_wp2_with fail
  refine (kwidth _ _ (Below.refl _ _) 1 (by decide)).mono ?_
  rintro e y1 ⟨rfl, hb1⟩
  rw [show wd 1 = 32 from rfl]
  go_wp2_with fail
  refine (klb _ _ hb1 1 a b _ _ [43] (by simp) H.out.1 ha hb).mono ?_
  rintro e y2 ⟨rfl, hb2⟩
  clear hb1
  go_wp2_with fail
  refine (klb _ _ hb2 1 a b _ _ [38] (by simp) H.out.2.1 ha hb).mono ?_
  rintro e y3 ⟨rfl, hb3⟩
  clear hb2
  go_wp2_with fail
  refine (klb _ _ hb3 1 a b _ _ [124] (by simp) H.out.2.2.1 ha hb).mono ?_
  rintro e y4 ⟨rfl, hb4⟩
  clear hb3
  go_wp2_with fail
  refine (klb _ _ hb4 1 o n _ _ [43] (by simp) H.out.2.2.2.1 v3 v2).mono ?_
  rintro e y5 ⟨rfl, hb5⟩
  clear hb4
  go_wp2_with fail
  refine (klb _ _ hb5 1 a b _ _ [94] (by simp) H.out.2.2.2.2.1 ha hb).mono ?_
  rintro e y6 ⟨rfl, hb6⟩
  clear hb5
  go_wp2_with fail
  refine (klb _ _ hb6 1 n n _ _ [43] (by simp) H.out.2.2.2.2.2.1 v2 v2).mono ?_
  rintro e y7 ⟨rfl, hb7⟩
  clear hb6
  go_wp2_with fail
  refine (klb _ _ hb7 1 z n2 _ _ [43] (by simp) H.out.2.2.2.2.2.2.1 v4 v5).mono ?_
  rintro e y8 ⟨rfl, hb8⟩
  clear hb7
  go_wp2_with fail
  refine (klb _ _ hb8 1 a b _ _ [94] (by simp) H.out.2.2.2.2.1 ha hb).mono ?_
  rintro e y9 ⟨rfl, hb9⟩
  clear hb8
  go_wp2_with fail
  refine (klb _ _ hb9 1 z b _ _ [94] (by simp) H.out.2.2.2.2.2.2.2.1 v4 hb).mono ?_
  rintro e y10 ⟨rfl, hb10⟩
  clear hb9
  go_wp2_with fail
  refine (kw _ _ hb10 1 a (by decide)).mono ?_
  rintro e y11 ⟨rfl, hb11⟩
  clear hb10
  rw [H.out.2.2.2.2.2.2.2.2.2.2]
  go_wp2_with fail
  refine (klb _ _ hb11 1 a (-1) _ _ [38] (by simp) H.out.2.2.2.2.2.2.2.2.1 ha (by decide)).mono ?_
  rintro e y12 ⟨rfl, hb12⟩
  clear hb11
  go_wp2_with fail
  refine (kw _ _ hb12 1 a (by decide)).mono ?_
  rintro e y13 ⟨rfl, hb13⟩
  clear hb12
  rw [H.out.2.2.2.2.2.2.2.2.2.2]
  go_wp2_with fail
  refine (klb _ _ hb13 1 a 0 _ _ [124] (by simp) H.out.2.2.2.2.2.2.2.2.2.1 ha (by decide)).mono ?_
  rintro e y14 ⟨rfl, hb14⟩
  clear hb13
  go_wp2_with fail
  refine (kw _ _ hb14 1 a (by decide)).mono ?_
  rintro e y15 ⟨rfl, hb15⟩
  clear hb14
  rw [H.out.2.2.2.2.2.2.2.2.2.2]
  go_wp2_with fail
  refine (kw _ _ hb15 1 a (by decide)).mono ?_
  rintro e y16 ⟨rfl, hb16⟩
  clear hb15
  rw [H.out.2.2.2.2.2.2.2.2.2.2]
  go_wp2_with fail
  go_loopw [11, 12, 13] (fun l r i wr' => ∃ k : Nat, k ≤ 32 ∧ i = .int .i64 k ∧ l = .int .i64 (lft 1 x k) ∧ r = .int .i64 (x / 2 ^ k) ∧ Below w.heap.size w wr') (fun _ _ i _ => 32 - (intOf i).toNat)
  case atStart => exact ⟨0, by omega, rfl, by rw [← lft_zero 1 a x (Or.inl rfl) HXX.out], by rw [Int.pow_zero, Int.ediv_one], hb16⟩
  case round =>
    obtain ⟨k, hk, rfl, rfl, rfl, hbr⟩ := hrel
    clear hb16
    by_cases hlt : k < 32
    · obtain ⟨l, HL⟩ : ∃ l, Hid (lft 1 x k = l) := ⟨_, rfl⟩
      obtain ⟨r, HR⟩ : ∃ r, Hid (x / 2 ^ k = r) := ⟨_, rfl⟩
      obtain ⟨l2, HL2⟩ : ∃ l, Hid (lft 1 x (k + 1) = l) := ⟨_, rfl⟩
      obtain ⟨q, HQ⟩ : ∃ q, Hid (r % 2 = q) := ⟨_, rfl⟩
      have RD : Hid (Round 1 a k 32 l r l2 q) := by
        have h := round_lft 1 a x k (Or.inl rfl) hlt ha HXX.out
        rw [HL.out, HR.out, HL2.out, HQ.out] at h
        exact h
      have vl : (Lit.int .i64 l).wf = true := by rw [← HL.out]; exact lft_wf _ _ _
      have rb : -9223372036854775808 ≤ r ∧ r ≤ 9223372036854775807 := by rw [← HR.out]; exact rgt_bd 1 a x k HXX.out
      have RB := Lib.hid rb
      have RH : Hid (wrap64 ((wrap64 (r - q)).tdiv 2) = x / 2 ^ (k + 1)) := by
        rw [← HQ.out]; exact (half r rb).trans (by rw [← HR.out, shift_succ])
      clear rb
      rw [HL.out, HR.out]
      go_wp2_with fail
      refine (klb _ _ hbr 1 a k _ _ [60, 60] (by simp) RD.out.1 ha (wf_of (by omega))).mono ?_
      rintro e z1 ⟨rfl, hc1⟩
      clear hbr
      go_wp2_with fail
      refine (klb _ _ hc1 1 a k _ _ [62, 62] (by simp) RD.out.2.1 ha (wf_of (by omega))).mono ?_
      rintro e z2 ⟨rfl, hc2⟩
      clear hc1
      go_wp2_with fail
      refine (klb _ _ hc2 1 a (k + 32) _ _ [60, 60] (by simp) RD.out.2.2.1 ha (wf_of (by omega))).mono ?_
      rintro e z3 ⟨rfl, hc3⟩
      clear hc2
      go_wp2_with fail
      refine (klb _ _ hc3 1 a (k - 32) _ _ [62, 62] (by simp) RD.out.2.2.2.1 ha (wf_of (by omega))).mono ?_
      rintro e z4 ⟨rfl, hc4⟩
      clear hc3
      go_wp2_with fail
      refine (klb _ _ hc4 1 l l _ _ [43] (by simp) RD.out.2.2.2.2.1 vl vl).mono ?_
      rintro e z5 ⟨rfl, hc5⟩
      clear hc4
      go_wp2_with fail
      refine (klb _ _ hc5 1 r 1 _ _ [38] (by simp) RD.out.2.2.2.2.2 (wf_of RB.out) (by decide)).mono ?_
      rintro e z6 ⟨rfl, hc6⟩
      clear hc5
      go_wp2_with fail
      go_roundw
      case rel => exact ⟨k + 1, by omega, by go_num, by rw [← HL2.out], by rw [← RH.out], hc6⟩
      case measure => simp [intOf]; omega
    · have hkk : k = 32 := by omega
      clear hlt
      subst hkk
      go_wp2_with fail
      refine (kworks _ _ hbr).mono ?_
      rintro e z1 ⟨rfl, hc1⟩
      go_wp2_with fail
      go_ret
      exact ⟨rfl, hc1⟩

set_option maxRecDepth 100000 in
set_option maxHeartbeats 1000000 in
theorem bits2_walk (a b : Int) (w : World) (ha : (Lit.int .i64 a).wf = true) (hb : (Lit.int .i64 b).wf = true) :
    Calls Try.prog 7 #[.bool true, .int .i64 a, .int .i64 b] w fun e w' => e = .returned (.bool true) ∧ Below w.heap.size w w' := by
  obtain ⟨s, n, o, z, n2, x, HXX, H, v1, v2, v3, v4, v5, v6⟩ : ∃ s n o z n2 x, Hid (wr 2 a = x) ∧ Hid (Heads 2 a b s n o z n2 x) ∧ (Lit.int .i64 s).wf = true ∧ (Lit.int .i64 n).wf = true ∧ (Lit.int .i64 o).wf = true ∧ (Lit.int .i64 z).wf = true ∧ (Lit.int .i64 n2).wf = true ∧ (Lit.int .i64 x).wf = true :=
    ⟨_, _, _, _, _, _, rfl, heads_any 2 a b (Or.inr rfl), wr_wf _ _, wr_wf _ _, wr_wf _ _, wr_wf _ _, wr_wf _ _, wr_wf _ _⟩
  go_enter Try.func7, Try.ntmps7
  go_wp2_with fail
  refine (kkind true _).mono ?_
  rintro e w' ⟨rfl, rfl⟩
  rw [show (if true then 2 else 1 : Int) = 2 from rfl]
  go_wp2_with fail
  refine (kwidth _ _ (Below.refl _ _) 2 (by decide)).mono ?_
  rintro e y1 ⟨rfl, hb1⟩
  rw [show wd 2 = 64 from rfl]
  go_wp2_with fail
  refine (klb _ _ hb1 2 a b _ _ [43] (by simp) H.out.1 ha hb).mono ?_
  rintro e y2 ⟨rfl, hb2⟩
  clear hb1
  go_wp2_with fail
  refine (klb _ _ hb2 2 a b _ _ [38] (by simp) H.out.2.1 ha hb).mono ?_
  rintro e y3 ⟨rfl, hb3⟩
  clear hb2
  go_wp2_with fail
  refine (klb _ _ hb3 2 a b _ _ [124] (by simp) H.out.2.2.1 ha hb).mono ?_
  rintro e y4 ⟨rfl, hb4⟩
  clear hb3
  go_wp2_with fail
  refine (klb _ _ hb4 2 o n _ _ [43] (by simp) H.out.2.2.2.1 v3 v2).mono ?_
  rintro e y5 ⟨rfl, hb5⟩
  clear hb4
  go_wp2_with fail
  refine (klb _ _ hb5 2 a b _ _ [94] (by simp) H.out.2.2.2.2.1 ha hb).mono ?_
  rintro e y6 ⟨rfl, hb6⟩
  clear hb5
  go_wp2_with fail
  refine (klb _ _ hb6 2 n n _ _ [43] (by simp) H.out.2.2.2.2.2.1 v2 v2).mono ?_
  rintro e y7 ⟨rfl, hb7⟩
  clear hb6
  go_wp2_with fail
  refine (klb _ _ hb7 2 z n2 _ _ [43] (by simp) H.out.2.2.2.2.2.2.1 v4 v5).mono ?_
  rintro e y8 ⟨rfl, hb8⟩
  clear hb7
  go_wp2_with fail
  refine (klb _ _ hb8 2 a b _ _ [94] (by simp) H.out.2.2.2.2.1 ha hb).mono ?_
  rintro e y9 ⟨rfl, hb9⟩
  clear hb8
  go_wp2_with fail
  refine (klb _ _ hb9 2 z b _ _ [94] (by simp) H.out.2.2.2.2.2.2.2.1 v4 hb).mono ?_
  rintro e y10 ⟨rfl, hb10⟩
  clear hb9
  go_wp2_with fail
  refine (kw _ _ hb10 2 a (by decide)).mono ?_
  rintro e y11 ⟨rfl, hb11⟩
  clear hb10
  rw [H.out.2.2.2.2.2.2.2.2.2.2]
  go_wp2_with fail
  refine (klb _ _ hb11 2 a (-1) _ _ [38] (by simp) H.out.2.2.2.2.2.2.2.2.1 ha (by decide)).mono ?_
  rintro e y12 ⟨rfl, hb12⟩
  clear hb11
  go_wp2_with fail
  refine (kw _ _ hb12 2 a (by decide)).mono ?_
  rintro e y13 ⟨rfl, hb13⟩
  clear hb12
  rw [H.out.2.2.2.2.2.2.2.2.2.2]
  go_wp2_with fail
  refine (klb _ _ hb13 2 a 0 _ _ [124] (by simp) H.out.2.2.2.2.2.2.2.2.2.1 ha (by decide)).mono ?_
  rintro e y14 ⟨rfl, hb14⟩
  clear hb13
  go_wp2_with fail
  refine (kw _ _ hb14 2 a (by decide)).mono ?_
  rintro e y15 ⟨rfl, hb15⟩
  clear hb14
  rw [H.out.2.2.2.2.2.2.2.2.2.2]
  go_wp2_with fail
  refine (kw _ _ hb15 2 a (by decide)).mono ?_
  rintro e y16 ⟨rfl, hb16⟩
  clear hb15
  rw [H.out.2.2.2.2.2.2.2.2.2.2]
  go_wp2_with fail
  go_loopw [11, 12, 13] (fun l r i wr' => ∃ k : Nat, k ≤ 64 ∧ i = .int .i64 k ∧ l = .int .i64 (lft 2 x k) ∧ r = .int .i64 (x / 2 ^ k) ∧ Below w.heap.size w wr') (fun _ _ i _ => 64 - (intOf i).toNat)
  case atStart => exact ⟨0, by omega, rfl, by rw [← lft_zero 2 a x (Or.inr rfl) HXX.out], by rw [Int.pow_zero, Int.ediv_one], hb16⟩
  case round =>
    obtain ⟨k, hk, rfl, rfl, rfl, hbr⟩ := hrel
    clear hb16
    by_cases hlt : k < 64
    · obtain ⟨l, HL⟩ : ∃ l, Hid (lft 2 x k = l) := ⟨_, rfl⟩
      obtain ⟨r, HR⟩ : ∃ r, Hid (x / 2 ^ k = r) := ⟨_, rfl⟩
      obtain ⟨l2, HL2⟩ : ∃ l, Hid (lft 2 x (k + 1) = l) := ⟨_, rfl⟩
      obtain ⟨q, HQ⟩ : ∃ q, Hid (r % 2 = q) := ⟨_, rfl⟩
      have RD : Hid (Round 2 a k 64 l r l2 q) := by
        have h := round_lft 2 a x k (Or.inr rfl) hlt ha HXX.out
        rw [HL.out, HR.out, HL2.out, HQ.out] at h
        exact h
      have vl : (Lit.int .i64 l).wf = true := by rw [← HL.out]; exact lft_wf _ _ _
      have rb : -9223372036854775808 ≤ r ∧ r ≤ 9223372036854775807 := by rw [← HR.out]; exact rgt_bd 2 a x k HXX.out
      have RB := Lib.hid rb
      have RH : Hid (wrap64 ((wrap64 (r - q)).tdiv 2) = x / 2 ^ (k + 1)) := by
        rw [← HQ.out]; exact (half r rb).trans (by rw [← HR.out, shift_succ])
      clear rb
      rw [HL.out, HR.out]
      go_wp2_with fail
      refine (klb _ _ hbr 2 a k _ _ [60, 60] (by simp) RD.out.1 ha (wf_of (by omega))).mono ?_
      rintro e z1 ⟨rfl, hc1⟩
      clear hbr
      go_wp2_with fail
      refine (klb _ _ hc1 2 a k _ _ [62, 62] (by simp) RD.out.2.1 ha (wf_of (by omega))).mono ?_
      rintro e z2 ⟨rfl, hc2⟩
      clear hc1
      go_wp2_with fail
      refine (klb _ _ hc2 2 a (k + 64) _ _ [60, 60] (by simp) RD.out.2.2.1 ha (wf_of (by omega))).mono ?_
      rintro e z3 ⟨rfl, hc3⟩
      clear hc2
      go_wp2_with fail
      refine (klb _ _ hc3 2 a (k - 64) _ _ [62, 62] (by simp) RD.out.2.2.2.1 ha (wf_of (by omega))).mono ?_
      rintro e z4 ⟨rfl, hc4⟩
      clear hc3
      go_wp2_with fail
      refine (klb _ _ hc4 2 l l _ _ [43] (by simp) RD.out.2.2.2.2.1 vl vl).mono ?_
      rintro e z5 ⟨rfl, hc5⟩
      clear hc4
      go_wp2_with fail
      refine (klb _ _ hc5 2 r 1 _ _ [38] (by simp) RD.out.2.2.2.2.2 (wf_of RB.out) (by decide)).mono ?_
      rintro e z6 ⟨rfl, hc6⟩
      clear hc5
      go_wp2_with fail
      go_roundw
      case rel => exact ⟨k + 1, by omega, by go_num, by rw [← HL2.out], by rw [← RH.out], hc6⟩
      case measure => simp [intOf]; omega
    · have hkk : k = 64 := by omega
      clear hlt
      subst hkk
      go_wp2_with fail
      refine (kworks _ _ hbr).mono ?_
      rintro e z1 ⟨rfl, hc1⟩
      go_wp2_with fail
      go_ret
      exact ⟨rfl, hc1⟩

theorem bits_walk (long : Bool) (a b : Int) (w : World) (ha : (Lit.int .i64 a).wf = true) (hb : (Lit.int .i64 b).wf = true) :
    Calls Try.prog 7 #[.bool long, .int .i64 a, .int .i64 b] w fun e w' => e = .returned (.bool true) ∧ Below w.heap.size w w' := by
  cases long
  · exact bits1_walk a b w ha hb
  · exact bits2_walk a b w ha hb
end Go.Proofs.Ytfbdoaaicomdjaa
