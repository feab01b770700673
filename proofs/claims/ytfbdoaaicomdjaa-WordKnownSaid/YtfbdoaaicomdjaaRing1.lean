/-
  WordRing: sums and products of any numbers: the law's walk.
-/
import Derived.Test.YtfbdoaaicomdjaaWd
import Derived.Test.YtfbdoaaicomdjaaRing
namespace Go.Proofs.Ytfbdoaaicomdjaa
open Go.RowKit Go.WideMaps Go.Maps
set_option linter.unusedVariables false
set_option linter.unusedSimpArgs false

/-- One operation's five answers. -/
def Five (t a b c : Int) (l : List UInt8) (ab abc bc : Int) : Prop :=
  bn t l a b = (ab, 0) ∧ bn t l b a = (ab, 0) ∧ bn t l ab c = (abc, 0) ∧ bn t l b c = (bc, 0) ∧ bn t l a bc = (abc, 0)

theorem five_add (t a b c : Int) (ht : t = 1 ∨ t = 2) : Five t a b c [43] (wr t (a + b)) (wr t (a + b + c)) (wr t (b + c)) :=
  ⟨bn_add t a b ht, by rw [bn_add t b a ht, Int.add_comm], by rw [bn_add t _ c ht, wr_addl t _ c ht], bn_add t b c ht, by rw [bn_add t a _ ht, wr_addr t a _ ht, Int.add_assoc]⟩
theorem five_mul (t a b c : Int) (ht : t = 1 ∨ t = 2) : Five t a b c [42] (wr t (a * b)) (wr t (a * b * c)) (wr t (b * c)) :=
  ⟨bn_mul t a b ht, by rw [bn_mul t b a ht, Int.mul_comm], by rw [bn_mul t _ c ht, wr_mull t _ c ht], bn_mul t b c ht, by rw [bn_mul t a _ ht, wr_mulr t a _ ht, Int.mul_assoc]⟩

/-- The rest of the law: products go over sums; differences; 0 and 1. -/
def Rest (t a b c s p q r u d : Int) : Prop :=
  bn t [43] b c = (s, 0) ∧ bn t [42] a s = (p, 0) ∧ bn t [42] a b = (q, 0) ∧ bn t [42] a c = (r, 0) ∧ bn t [43] q r = (p, 0) ∧ bn t [45] a b = (d, 0) ∧ bn t [43] d b = (u, 0) ∧ bn t [43] a 0 = (u, 0) ∧ bn t [42] a 1 = (u, 0) ∧ wr t a = u

theorem rest_any (t a b c : Int) (ht : t = 1 ∨ t = 2) : Rest t a b c (wr t (b + c)) (wr t (a * (b + c))) (wr t (a * b)) (wr t (a * c)) (wr t a) (wr t (a - b)) :=
  ⟨bn_add t b c ht, by rw [bn_mul t a _ ht, wr_mulr t a _ ht], bn_mul t a b ht, bn_mul t a c ht, by rw [bn_add t _ _ ht, wr_addl t _ _ ht, wr_addr t _ _ ht, Int.mul_add], bn_sub t a b ht,
    by rw [bn_add t _ b ht, wr_addl t _ b ht]; congr 2; omega, by rw [bn_add t a 0 ht, Int.add_zero], by rw [bn_mul t a 1 ht, Int.mul_one], rfl⟩

set_option maxHeartbeats 1000000 in
theorem ring_walk (long : Bool) (a b c : Int) (w : World) (ha : (Lit.int .i64 a).wf = true) (hb : (Lit.int .i64 b).wf = true) (hc : (Lit.int .i64 c).wf = true) :
    Calls Try.prog 5 #[.bool long, .int .i64 a, .int .i64 b, .int .i64 c] w fun e w' => e = .returned (.bool true) ∧ Below w.heap.size w w' := by
  obtain ⟨t, HT, ht⟩ : ∃ t : Int, Hid ((if long then 2 else 1 : Int) = t) ∧ Hid (t = 1 ∨ t = 2) := by
    cases long
    · exact ⟨1, rfl, Or.inl rfl⟩
    · exact ⟨2, rfl, Or.inr rfl⟩
  have htw : (Lit.int .i64 t).wf = true := by rcases ht.out with rfl | rfl <;> decide
  obtain ⟨ab, abc, bc, FA, w1, w2, w3⟩ : ∃ x y z, Hid (Five t a b c [43] x y z) ∧ (Lit.int .i64 x).wf = true ∧ (Lit.int .i64 y).wf = true ∧ (Lit.int .i64 z).wf = true := ⟨_, _, _, five_add t a b c ht.out, wr_wf _ _, wr_wf _ _, wr_wf _ _⟩
  obtain ⟨mb, mbc, mc, FM, w4, w5, w6⟩ : ∃ x y z, Hid (Five t a b c [42] x y z) ∧ (Lit.int .i64 x).wf = true ∧ (Lit.int .i64 y).wf = true ∧ (Lit.int .i64 z).wf = true := ⟨_, _, _, five_mul t a b c ht.out, wr_wf _ _, wr_wf _ _, wr_wf _ _⟩
  obtain ⟨s, p, q, r, u, d, FR, w7, w8, w9, w10, w11⟩ : ∃ s p q r u d, Hid (Rest t a b c s p q r u d) ∧ (Lit.int .i64 s).wf = true ∧ (Lit.int .i64 q).wf = true ∧ (Lit.int .i64 r).wf = true ∧ (Lit.int .i64 u).wf = true ∧ (Lit.int .i64 d).wf = true :=
    ⟨_, _, _, _, _, _, rest_any t a b c ht.out, wr_wf _ _, wr_wf _ _, wr_wf _ _, wr_wf _ _, wr_wf _ _⟩
  go_enter Try.func5, Try.ntmps5
  go_wp2_with fail
  refine (kkind long _).mono ?_
  rintro e w' ⟨rfl, rfl⟩
  rw [HT.out]
  go_wp2_with fail
  refine wp_loop_rounds 3 ?_
  rw [rounds_succ]
  go_wp2_with fail
  refine (klb _ _ (Below.refl _ _) _ a b _ _ [43] (by simp) FA.out.1 ha hb).mono ?_
  rintro e y1 ⟨rfl, hb1⟩
  go_wp2_with fail
  refine (klb _ _ hb1 _ b a _ _ [43] (by simp) FA.out.2.1 hb ha).mono ?_
  rintro e y2 ⟨rfl, hb2⟩
  clear hb1
  go_wp2_with fail
  refine (klb _ _ hb2 _ a b _ _ [43] (by simp) FA.out.1 ha hb).mono ?_
  rintro e y3 ⟨rfl, hb3⟩
  clear hb2
  go_wp2_with fail
  refine (klb _ _ hb3 _ ab c _ _ [43] (by simp) FA.out.2.2.1 w1 hc).mono ?_
  rintro e y4 ⟨rfl, hb4⟩
  clear hb3
  go_wp2_with fail
  refine (klb _ _ hb4 _ b c _ _ [43] (by simp) FA.out.2.2.2.1 hb hc).mono ?_
  rintro e y5 ⟨rfl, hb5⟩
  clear hb4
  go_wp2_with fail
  refine (klb _ _ hb5 _ a bc _ _ [43] (by simp) FA.out.2.2.2.2 ha w3).mono ?_
  rintro e y6 ⟨rfl, hb6⟩
  clear hb5
  have c1 : y6.cell? ⟨w.heap.size, 1, none⟩ = some (.string ⟨#[42]⟩) := (hb6.cell (p := ⟨w.heap.size, 1, none⟩) (by simp)).trans (by simp)
  go_wp2_with fail
  rw [rounds_succ]
  go_wp2_with fail
  refine (klb _ _ hb6 _ a b _ _ [42] (by simp) FM.out.1 ha hb).mono ?_
  rintro e y7 ⟨rfl, hb7⟩
  clear hb6
  go_wp2_with fail
  refine (klb _ _ hb7 _ b a _ _ [42] (by simp) FM.out.2.1 hb ha).mono ?_
  rintro e y8 ⟨rfl, hb8⟩
  clear hb7
  go_wp2_with fail
  refine (klb _ _ hb8 _ a b _ _ [42] (by simp) FM.out.1 ha hb).mono ?_
  rintro e y9 ⟨rfl, hb9⟩
  clear hb8
  go_wp2_with fail
  refine (klb _ _ hb9 _ mb c _ _ [42] (by simp) FM.out.2.2.1 w4 hc).mono ?_
  rintro e y10 ⟨rfl, hb10⟩
  clear hb9
  go_wp2_with fail
  refine (klb _ _ hb10 _ b c _ _ [42] (by simp) FM.out.2.2.2.1 hb hc).mono ?_
  rintro e y11 ⟨rfl, hb11⟩
  clear hb10
  go_wp2_with fail
  refine (klb _ _ hb11 _ a mc _ _ [42] (by simp) FM.out.2.2.2.2 ha w6).mono ?_
  rintro e y12 ⟨rfl, hb12⟩
  clear hb11
  clear c1
  go_wp2_with fail
  rw [rounds_succ]
  go_wp2_with fail
  refine (klb _ _ hb12 _ b c _ _ [43] (by simp) FR.out.1 hb hc).mono ?_
  rintro e y13 ⟨rfl, hb13⟩
  clear hb12
  go_wp2_with fail
  refine (klb _ _ hb13 _ a s _ _ [42] (by simp) FR.out.2.1 ha w7).mono ?_
  rintro e y14 ⟨rfl, hb14⟩
  clear hb13
  go_wp2_with fail
  refine (klb _ _ hb14 _ a b _ _ [42] (by simp) FR.out.2.2.1 ha hb).mono ?_
  rintro e y15 ⟨rfl, hb15⟩
  clear hb14
  go_wp2_with fail
  refine (klb _ _ hb15 _ a c _ _ [42] (by simp) FR.out.2.2.2.1 ha hc).mono ?_
  rintro e y16 ⟨rfl, hb16⟩
  clear hb15
  go_wp2_with fail
  refine (klb _ _ hb16 _ q r _ _ [43] (by simp) FR.out.2.2.2.2.1 w8 w9).mono ?_
  rintro e y17 ⟨rfl, hb17⟩
  clear hb16
  go_wp2_with fail
  refine (klb _ _ hb17 _ a b _ _ [45] (by simp) FR.out.2.2.2.2.2.1 ha hb).mono ?_
  rintro e y18 ⟨rfl, hb18⟩
  clear hb17
  go_wp2_with fail
  refine (klb _ _ hb18 _ d b _ _ [43] (by simp) FR.out.2.2.2.2.2.2.1 w11 hb).mono ?_
  rintro e y19 ⟨rfl, hb19⟩
  clear hb18
  go_wp2_with fail
  refine (kw _ _ hb19 t a htw).mono ?_
  rintro e y20 ⟨rfl, hb20⟩
  clear hb19
  rw [FR.out.2.2.2.2.2.2.2.2.2]
  go_wp2_with fail
  refine (klb _ _ hb20 _ a 0 _ _ [43] (by simp) FR.out.2.2.2.2.2.2.2.1 ha (by decide)).mono ?_
  rintro e y21 ⟨rfl, hb21⟩
  clear hb20
  go_wp2_with fail
  refine (kw _ _ hb21 t a htw).mono ?_
  rintro e y22 ⟨rfl, hb22⟩
  clear hb21
  rw [FR.out.2.2.2.2.2.2.2.2.2]
  go_wp2_with fail
  refine (klb _ _ hb22 _ a 1 _ _ [42] (by simp) FR.out.2.2.2.2.2.2.2.2.1 ha (by decide)).mono ?_
  rintro e y23 ⟨rfl, hb23⟩
  clear hb22
  go_wp2_with fail
  refine (kw _ _ hb23 t a htw).mono ?_
  rintro e y24 ⟨rfl, hb24⟩
  clear hb23
  rw [FR.out.2.2.2.2.2.2.2.2.2]
  go_wp2_with fail
  refine (kworks _ _ hb24).mono ?_
  rintro e y25 ⟨rfl, hb25⟩
  clear hb24
  go_wp2_with fail
  go_ret
  exact ⟨rfl, keep ((Below.refl _ _).alloc (Nat.le_refl _) _) hb25⟩
end Go.Proofs.Ytfbdoaaicomdjaa
