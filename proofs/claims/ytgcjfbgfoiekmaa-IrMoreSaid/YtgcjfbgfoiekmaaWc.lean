/-
  What 'operate' and 'Bin' answer, for every operation.
-/
import Derived.Test.YtgcjfbgfoiekmaaWb
namespace Go.Proofs.Ytgcjfbgfoiekmaa
open Go.RowKit Go.WideMaps Go.Maps

theorem same_below {w w' : World} (h : w = w') : Below w.heap.size w w' := h ▸ Below.refl _ _
theorem two_eq {x : Int × Int} {a b : Int} (h : x = (a, b)) : Ending.returned (.tuple #[.int .i64 a, .int .i64 b]) = .returned (.tuple #[.int .i64 x.1, .int .i64 x.2]) := by rw [h]

theorem op32_any (a b : Int) (op : ByteArray) (w : World) (ha1 : -2147483648 ≤ a) (ha2 : a ≤ 2147483647) (hb1 : -2147483648 ≤ b) (hb2 : b ≤ 2147483647) :
    Calls Try.prog 70 #[.int .i64 1, .string op, .int .i32 a, .int .i32 b] w fun e w' => e = .returned (.tuple #[.int .i64 (bn32 op.toList a b).1, .int .i64 (bn32 op.toList a b).2]) ∧ Below w.heap.size w w' := by
  by_cases hadd : op.toList = [43]
  · exact (op32_add 1 a b op w hadd).mono fun e w' h => ⟨by rw [h.1]; exact two_eq (by rw [hadd]; rfl), same_below h.2⟩
  by_cases hsub : op.toList = [45]
  · exact (op32_sub 1 a b op w hsub).mono fun e w' h => ⟨by rw [h.1]; exact two_eq (by rw [hsub]; rfl), same_below h.2⟩
  by_cases hmul : op.toList = [42]
  · exact (op32_mul 1 a b op w hmul).mono fun e w' h => ⟨by rw [h.1]; exact two_eq (by rw [hmul]; rfl), same_below h.2⟩
  by_cases hdiv : op.toList = [47]
  · have hx : bn32 op.toList a b = (if b = 0 then (0, 1) else if a = -2147483648 ∧ b = -1 then (0, 2) else (a.tdiv b, 0)) := by rw [hdiv]; rfl
    by_cases h0 : b = 0
    · subst h0
      exact (op32_div0 1 a op w hdiv).mono fun e w' h => ⟨by rw [h.1]; exact two_eq (by rw [hx, if_pos rfl]), same_below h.2⟩
    by_cases h1 : b = -1
    · subst h1
      by_cases h2 : a = -2147483648
      · subst h2
        exact (op32_divo 1 op w hdiv).mono fun e w' h => ⟨by rw [h.1]; exact two_eq (by rw [hx, if_neg (by decide), if_pos ⟨rfl, rfl⟩]), same_below h.2⟩
      · exact (op32_div1 1 a op w hdiv (by omega) ha2).mono fun e w' h => ⟨by rw [h.1]; exact two_eq (by rw [hx, if_neg (by decide), if_neg (fun e => h2 e.1), Int.tdiv_neg, Int.tdiv_one]), same_below h.2⟩
    · exact (op32_div 1 a b op w hdiv ha1 ha2 hb1 hb2 (by simpa using h0) (by simpa using h1)).mono fun e w' h => ⟨by rw [h.1]; exact two_eq (by rw [hx, if_neg h0, if_neg (fun e => h1 e.2)]), same_below h.2⟩
  by_cases hrem : op.toList = [37]
  · have hx : bn32 op.toList a b = (if b = 0 then (0, 1) else (a.tmod b, 0)) := by rw [hrem]; rfl
    by_cases h0 : b = 0
    · subst h0
      exact (op32_rem0 1 a op w hrem).mono fun e w' h => ⟨by rw [h.1]; exact two_eq (by rw [hx, if_pos rfl]), same_below h.2⟩
    · exact (op32_rem 1 a b op w hrem ha1 ha2 hb1 hb2 (by simpa using h0)).mono fun e w' h => ⟨by rw [h.1]; exact two_eq (by rw [hx, if_neg h0]), same_below h.2⟩
  by_cases hand : op.toList = [38]
  · exact (op32_and 1 a b op w hand).mono fun e w' h => ⟨by rw [h.1]; exact two_eq (by rw [hand]; rfl), same_below h.2⟩
  by_cases hor : op.toList = [124]
  · exact (op32_or 1 a b op w hor).mono fun e w' h => ⟨by rw [h.1]; exact two_eq (by rw [hor]; rfl), same_below h.2⟩
  by_cases hxor : op.toList = [94]
  · exact (op32_xor 1 a b op w hxor).mono fun e w' h => ⟨by rw [h.1]; exact two_eq (by rw [hxor]; rfl), same_below h.2⟩
  by_cases hshl : op.toList = [60, 60]
  · have hn : b % 32 = ((b % 32).toNat : Int) := by omega
    exact (op32_shl a b op w hshl (b % 32).toNat hn ha1 ha2 hb1 hb2).mono fun e w' h => ⟨by rw [h.1]; exact two_eq (by rw [hshl]; rfl), h.2⟩
  by_cases hshr : op.toList = [62, 62]
  · have hn : b % 32 = ((b % 32).toNat : Int) := by omega
    exact (op32_shr a b op w hshr (b % 32).toNat hn ha1 ha2 hb1 hb2).mono fun e w' h => ⟨by rw [h.1]; exact two_eq (by rw [hshr]; rfl), h.2⟩
  by_cases heq : op.toList = [61, 61]
  · exact (op32_eq 1 a b op w heq).mono fun e w' h => ⟨by rw [h.1]; exact two_eq (by rw [heq]; rfl), same_below h.2⟩
  by_cases hne : op.toList = [33, 61]
  · exact (op32_ne 1 a b op w hne).mono fun e w' h => ⟨by rw [h.1]; exact two_eq (by rw [hne]; rfl), same_below h.2⟩
  by_cases hlt : op.toList = [60]
  · exact (op32_lt 1 a b op w hlt).mono fun e w' h => ⟨by rw [h.1]; exact two_eq (by rw [hlt]; rfl), same_below h.2⟩
  by_cases hle : op.toList = [60, 61]
  · exact (op32_le 1 a b op w hle).mono fun e w' h => ⟨by rw [h.1]; exact two_eq (by rw [hle]; rfl), same_below h.2⟩
  by_cases hgt : op.toList = [62]
  · exact (op32_gt 1 a b op w hgt).mono fun e w' h => ⟨by rw [h.1]; exact two_eq (by rw [hgt]; rfl), same_below h.2⟩
  by_cases hge : op.toList = [62, 61]
  · exact (op32_ge 1 a b op w hge).mono fun e w' h => ⟨by rw [h.1]; exact two_eq (by rw [hge]; rfl), same_below h.2⟩
  · exact (op32_none 1 a b op w (by simpa using hadd) (by simpa using hsub) (by simpa using hmul) (by simpa using hdiv) (by simpa using hrem) (by simpa using hand) (by simpa using hor) (by simpa using hxor) (by simpa using hshl) (by simpa using hshr) (by simpa using heq) (by simpa using hne) (by simpa using hlt) (by simpa using hle) (by simpa using hgt) (by simpa using hge)).mono fun e w' h => ⟨by rw [h.1]; exact two_eq (by unfold bn32; rw [if_neg hadd, if_neg hsub, if_neg hmul, if_neg hdiv, if_neg hrem, if_neg hand, if_neg hor, if_neg hxor, if_neg hshl, if_neg hshr, if_neg heq, if_neg hne, if_neg hlt, if_neg hle, if_neg hgt, if_neg hge]), same_below h.2⟩

theorem op64_any (a b : Int) (op : ByteArray) (w : World) (ha1 : -9223372036854775808 ≤ a) (ha2 : a ≤ 9223372036854775807) (hb1 : -9223372036854775808 ≤ b) (hb2 : b ≤ 9223372036854775807) :
    Calls Try.prog 71 #[.int .i64 2, .string op, .int .i64 a, .int .i64 b] w fun e w' => e = .returned (.tuple #[.int .i64 (bn64 op.toList a b).1, .int .i64 (bn64 op.toList a b).2]) ∧ Below w.heap.size w w' := by
  by_cases hadd : op.toList = [43]
  · exact (op64_add 2 a b op w hadd).mono fun e w' h => ⟨by rw [h.1]; exact two_eq (by rw [hadd]; rfl), same_below h.2⟩
  by_cases hsub : op.toList = [45]
  · exact (op64_sub 2 a b op w hsub).mono fun e w' h => ⟨by rw [h.1]; exact two_eq (by rw [hsub]; rfl), same_below h.2⟩
  by_cases hmul : op.toList = [42]
  · exact (op64_mul 2 a b op w hmul).mono fun e w' h => ⟨by rw [h.1]; exact two_eq (by rw [hmul]; rfl), same_below h.2⟩
  by_cases hdiv : op.toList = [47]
  · have hx : bn64 op.toList a b = (if b = 0 then (0, 1) else if a = -9223372036854775808 ∧ b = -1 then (0, 2) else (a.tdiv b, 0)) := by rw [hdiv]; rfl
    by_cases h0 : b = 0
    · subst h0
      exact (op64_div0 2 a op w hdiv).mono fun e w' h => ⟨by rw [h.1]; exact two_eq (by rw [hx, if_pos rfl]), same_below h.2⟩
    by_cases h1 : b = -1
    · subst h1
      by_cases h2 : a = -9223372036854775808
      · subst h2
        exact (op64_divo 2 op w hdiv).mono fun e w' h => ⟨by rw [h.1]; exact two_eq (by rw [hx, if_neg (by decide), if_pos ⟨rfl, rfl⟩]), same_below h.2⟩
      · exact (op64_div1 2 a op w hdiv (by omega) ha2).mono fun e w' h => ⟨by rw [h.1]; exact two_eq (by rw [hx, if_neg (by decide), if_neg (fun e => h2 e.1), Int.tdiv_neg, Int.tdiv_one]), same_below h.2⟩
    · exact (op64_div 2 a b op w hdiv ha1 ha2 hb1 hb2 (by simpa using h0) (by simpa using h1)).mono fun e w' h => ⟨by rw [h.1]; exact two_eq (by rw [hx, if_neg h0, if_neg (fun e => h1 e.2)]), same_below h.2⟩
  by_cases hrem : op.toList = [37]
  · have hx : bn64 op.toList a b = (if b = 0 then (0, 1) else (a.tmod b, 0)) := by rw [hrem]; rfl
    by_cases h0 : b = 0
    · subst h0
      exact (op64_rem0 2 a op w hrem).mono fun e w' h => ⟨by rw [h.1]; exact two_eq (by rw [hx, if_pos rfl]), same_below h.2⟩
    · exact (op64_rem 2 a b op w hrem ha1 ha2 hb1 hb2 (by simpa using h0)).mono fun e w' h => ⟨by rw [h.1]; exact two_eq (by rw [hx, if_neg h0]), same_below h.2⟩
  by_cases hand : op.toList = [38]
  · exact (op64_and 2 a b op w hand).mono fun e w' h => ⟨by rw [h.1]; exact two_eq (by rw [hand]; rfl), same_below h.2⟩
  by_cases hor : op.toList = [124]
  · exact (op64_or 2 a b op w hor).mono fun e w' h => ⟨by rw [h.1]; exact two_eq (by rw [hor]; rfl), same_below h.2⟩
  by_cases hxor : op.toList = [94]
  · exact (op64_xor 2 a b op w hxor).mono fun e w' h => ⟨by rw [h.1]; exact two_eq (by rw [hxor]; rfl), same_below h.2⟩
  by_cases hshl : op.toList = [60, 60]
  · have hn : b % 64 = ((b % 64).toNat : Int) := by omega
    exact (op64_shl a b op w hshl (b % 64).toNat hn ha1 ha2 hb1 hb2).mono fun e w' h => ⟨by rw [h.1]; exact two_eq (by rw [hshl]; rfl), h.2⟩
  by_cases hshr : op.toList = [62, 62]
  · have hn : b % 64 = ((b % 64).toNat : Int) := by omega
    exact (op64_shr a b op w hshr (b % 64).toNat hn ha1 ha2 hb1 hb2).mono fun e w' h => ⟨by rw [h.1]; exact two_eq (by rw [hshr]; rfl), h.2⟩
  by_cases heq : op.toList = [61, 61]
  · exact (op64_eq 2 a b op w heq).mono fun e w' h => ⟨by rw [h.1]; exact two_eq (by rw [heq]; rfl), same_below h.2⟩
  by_cases hne : op.toList = [33, 61]
  · exact (op64_ne 2 a b op w hne).mono fun e w' h => ⟨by rw [h.1]; exact two_eq (by rw [hne]; rfl), same_below h.2⟩
  by_cases hlt : op.toList = [60]
  · exact (op64_lt 2 a b op w hlt).mono fun e w' h => ⟨by rw [h.1]; exact two_eq (by rw [hlt]; rfl), same_below h.2⟩
  by_cases hle : op.toList = [60, 61]
  · exact (op64_le 2 a b op w hle).mono fun e w' h => ⟨by rw [h.1]; exact two_eq (by rw [hle]; rfl), same_below h.2⟩
  by_cases hgt : op.toList = [62]
  · exact (op64_gt 2 a b op w hgt).mono fun e w' h => ⟨by rw [h.1]; exact two_eq (by rw [hgt]; rfl), same_below h.2⟩
  by_cases hge : op.toList = [62, 61]
  · exact (op64_ge 2 a b op w hge).mono fun e w' h => ⟨by rw [h.1]; exact two_eq (by rw [hge]; rfl), same_below h.2⟩
  · exact (op64_none 2 a b op w (by simpa using hadd) (by simpa using hsub) (by simpa using hmul) (by simpa using hdiv) (by simpa using hrem) (by simpa using hand) (by simpa using hor) (by simpa using hxor) (by simpa using hshl) (by simpa using hshr) (by simpa using heq) (by simpa using hne) (by simpa using hlt) (by simpa using hle) (by simpa using hgt) (by simpa using hge)).mono fun e w' h => ⟨by rw [h.1]; exact two_eq (by unfold bn64; rw [if_neg hadd, if_neg hsub, if_neg hmul, if_neg hdiv, if_neg hrem, if_neg hand, if_neg hor, if_neg hxor, if_neg hshl, if_neg hshr, if_neg heq, if_neg hne, if_neg hlt, if_neg hle, if_neg hgt, if_neg hge]), same_below h.2⟩

set_option maxHeartbeats 400000 in
theorem bin_any (t a b : Int) (op : ByteArray) (w : World) (ha : (Lit.int .i64 a).wf = true) (hb : (Lit.int .i64 b).wf = true) :
    Calls Try.prog 68 #[.int .i64 t, .string op, .int .i64 a, .int .i64 b] w fun e w' => e = .returned (.tuple #[.int .i64 (bn t op.toList a b).1, .int .i64 (bn t op.toList a b).2]) ∧ Below w.heap.size w w' := by
  by_cases h1 : t = 1
  · subst h1
    have hx : bn 1 op.toList a b = bn32 op.toList (wrap32 a) (wrap32 b) := rfl
    rw [hx]
    have ca := w32_bd a
    have cb := w32_bd b
    clear hx
    go_enter Try.func68, Try.ntmps68
    go_wp2_with fail
    refine (op32_any _ _ op _ ca.1 ca.2 cb.1 cb.2).mono ?_
    rintro e w1 ⟨rfl, hb⟩
    go_wp2_with fail
    go_ret2
    exact ⟨rfl, hb⟩
  by_cases h2 : t = 2
  · subst h2
    have hx : bn 2 op.toList a b = bn64 op.toList a b := rfl
    rw [hx]
    clear hx h1
    have ca := bd64 ha
    have cb := bd64 hb
    go_enter Try.func68, Try.ntmps68
    go_wp2_with fail
    refine (op64_any _ _ op _ ca.1 ca.2 cb.1 cb.2).mono ?_
    rintro e w1 ⟨rfl, hb⟩
    go_wp2_with fail
    go_ret2
    exact ⟨rfl, hb⟩
  · have hx : bn t op.toList a b = (0, 0) := by unfold bn; rw [if_neg h1, if_neg h2]
    rw [hx]
    clear hx
    go_enter Try.func68, Try.ntmps68
    go_wp2_with fail
    go_ret2
    exact ⟨rfl, Below.refl _ _⟩
end Go.Proofs.Ytgcjfbgfoiekmaa
