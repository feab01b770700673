/-
  Layer ir: walks of the small functions that check an instruction.
-/
import Derived.Test.YtgcjfbgfoiekmaaIo
import Derived.Test.YtgcjfbgfoiekmaaWa
import Derived.WalkSpells
import Derived.WalkLawsBesides
import Derived.Deep.Draws
import Derived.Deep.QuietTactic
import Derived.BigQuiet
import Derived.Deep.Cut
import Derived.Deep.LoopGhost
import Derived.Deep.RegionHeld3
import Derived.Deep.RegionLaw
import Derived.Deep.RegionWith
namespace Go.Proofs.Ytgcjfbgfoiekmaa
open Go Go.RowKit
set_option linter.unusedVariables false
set_option linter.unusedSimpArgs false

abbrev tIn : TypeId := 43
abbrev tCk : TypeId := 60
abbrev tNd : TypeId := 91
theorem isValue_any (t : Int) (w : World) : Calls Try.prog 18 #[.int .i64 t] w fun e w' => e = .returned (.bool (isV t)) ∧ w = w' := by
  by_cases h1 : t = 1
  · subst h1
    go_enter Try.func18, Try.ntmps18
    go_wp2
    go_ret
    exact ⟨rfl, rfl⟩
  · by_cases h2 : t = 2
    · subst h2
      go_enter Try.func18, Try.ntmps18
      go_wp2
      go_ret
      exact ⟨rfl, rfl⟩
    · have d1 : (t == 1) = false := by simpa using h1
      have d2 : (t == 2) = false := by simpa using h2
      have hv : isV t = false := by simp [isV, d1, d2]
      rw [hv]
      clear hv h1 h2
      go_enter Try.func18, Try.ntmps18
      go_wp2
      go_ret
      exact ⟨rfl, rfl⟩
theorem held_any (t : Int) (w : World) : Calls Try.prog 50 #[.int .i64 t] w fun e w' => e = .returned (.int .i64 (held t)) ∧ w = w' := by
  by_cases h2 : t = 2
  · subst h2
    go_enter Try.func50, Try.ntmps50
    go_wp2
    go_ret
    exact ⟨rfl, rfl⟩
  · have d2 : (t == 2) = false := by simpa using h2
    have hv : held t = 1 := by simp [held, h2]
    rw [hv]
    clear hv h2
    go_enter Try.func50, Try.ntmps50
    go_wp2
    go_ret
    exact ⟨rfl, rfl⟩
set_option maxHeartbeats 400000 in
theorem isCmp_any (s : List UInt8) (w : World) : Calls Try.prog 46 #[.string (str s)] w fun e w' => e = .returned (.bool (isCmp s)) ∧ w = w' := by
  by_cases h : s = [61, 61] ∨ s = [33, 61] ∨ s = [60] ∨ s = [60, 61] ∨ s = [62] ∨ s = [62, 61]
  · rcases h with rfl | rfl | rfl | rfl | rfl | rfl
    all_goals
      go_enter Try.func46, Try.ntmps46
      go_wp2
      go_ret
      exact ⟨rfl, rfl⟩
  · have d1 : (s == [61, 61]) = false := by simp; exact fun e => h (by simp [e])
    have d2 : (s == [33, 61]) = false := by simp; exact fun e => h (by simp [e])
    have d3 : (s == [60]) = false := by simp; exact fun e => h (by simp [e])
    have d4 : (s == [60, 61]) = false := by simp; exact fun e => h (by simp [e])
    have d5 : (s == [62]) = false := by simp; exact fun e => h (by simp [e])
    have d6 : (s == [62, 61]) = false := by simp; exact fun e => h (by simp [e])
    have hv : isCmp s = false := by simp only [isCmp, d1, d2, d3, d4, d5, d6, Bool.or_self]
    rw [hv]
    clear hv h
    obtain ⟨z, hz⟩ : ∃ z, str s = z := ⟨_, rfl⟩
    have e0 : z.toList = s := by rw [← hz, ByteArray.toList_eq]
    rw [hz]
    rw [← e0] at d1 d2 d3 d4 d5 d6
    clear hz e0
    go_enter Try.func46, Try.ntmps46
    go_wp2
    go_ret
    exact ⟨rfl, rfl⟩
set_option maxHeartbeats 400000 in
theorem isAri_any (s : List UInt8) (w : World) : Calls Try.prog 47 #[.string (str s)] w fun e w' => e = .returned (.bool (isAri s)) ∧ w = w' := by
  by_cases h : s = [43] ∨ s = [45] ∨ s = [42] ∨ s = [47] ∨ s = [37] ∨ s = [38] ∨ s = [124] ∨ s = [94] ∨ s = [60, 60] ∨ s = [62, 62]
  · rcases h with rfl | rfl | rfl | rfl | rfl | rfl | rfl | rfl | rfl | rfl
    all_goals
      go_enter Try.func47, Try.ntmps47
      go_wp2
      go_ret
      exact ⟨rfl, rfl⟩
  · have d0 : (s == [43]) = false := by simp; exact fun e => h (by simp [e])
    have d1 : (s == [45]) = false := by simp; exact fun e => h (by simp [e])
    have d2 : (s == [42]) = false := by simp; exact fun e => h (by simp [e])
    have d3 : (s == [47]) = false := by simp; exact fun e => h (by simp [e])
    have d4 : (s == [37]) = false := by simp; exact fun e => h (by simp [e])
    have d5 : (s == [38]) = false := by simp; exact fun e => h (by simp [e])
    have d6 : (s == [124]) = false := by simp; exact fun e => h (by simp [e])
    have d7 : (s == [94]) = false := by simp; exact fun e => h (by simp [e])
    have d8 : (s == [60, 60]) = false := by simp; exact fun e => h (by simp [e])
    have d9 : (s == [62, 62]) = false := by simp; exact fun e => h (by simp [e])
    have hv : isAri s = false := by simp only [isAri, d0, d1, d2, d3, d4, d5, d6, d7, d8, d9, Bool.or_self]
    rw [hv]
    clear hv h
    obtain ⟨z, hz⟩ : ∃ z, str s = z := ⟨_, rfl⟩
    have e0 : z.toList = s := by rw [← hz, ByteArray.toList_eq]
    rw [hz]
    rw [← e0] at d0 d1 d2 d3 d4 d5 d6 d7 d8 d9
    clear hz e0
    go_enter Try.func47, Try.ntmps47
    go_wp2
    go_ret
    exact ⟨rfl, rfl⟩

/-! an instruction as it is handed on -/
def insA (i : Ins) (av : Value) : Array Value := #[.int .i64 i.op, .int .i64 i.ty, .int .i64 i.dst, .int .i64 i.a, .int .i64 i.b, .int .i64 i.n, .string (str i.s), av]
theorem resT_any (i : Ins) (av : Value) (w : World) : Calls Try.prog 49 #[.agg (insA i av)] w fun e w' => e = .returned (.int .i64 (resT i)) ∧ Below w.heap.size w w' := by
  obtain ⟨op, ty, dst, a, b, n, s, args⟩ := i
  unfold insA resT
  simp only
  have hb : Below w.heap.size w (w.alloc (.cells #[.int .i64 op, .int .i64 ty, .int .i64 dst, .int .i64 a, .int .i64 b, .int .i64 n, .string (str s), av] tIn)) := (Below.refl _ _).alloc (Nat.le_refl _) _
  have b1 := Blk.new w tIn #[.int .i64 op, .int .i64 ty, .int .i64 dst, .int .i64 a, .int .i64 b, .int .i64 n, .string (str s), av]
  have HB := Lib.hid hb
  have B1 := Lib.hid b1
  clear hb b1
  obtain ⟨c, hc⟩ : ∃ c, isCmp s = c := ⟨_, rfl⟩
  have HC : Hid (∀ W, Calls Try.prog 46 #[.string (str s)] W fun e w' => e = .returned (.bool c) ∧ W = w') := Lib.hid fun W => by rw [← hc]; exact isCmp_any s W
  rw [hc]
  clear hc
  go_enter Try.func49, Try.ntmps49
  go_upto_region 1 with (fail)
  generalize w.alloc (.cells #[.int .i64 op, .int .i64 ty, .int .i64 dst, .int .i64 a, .int .i64 b, .int .i64 n, .string (str s), av] tIn) = W1 at *
  have p1 : W1.cell? ⟨w.heap.size, 1, none⟩ = some (.int .i64 ty) := B1.out.cell 1
  have p6 : W1.cell? ⟨w.heap.size, 6, none⟩ = some (.string (str s)) := B1.out.cell 6
  have pl := B1.out.lt
  cases c
  all_goals
    go_wp2_with fail
    refine (HC.out _).mono ?_
    rintro e w1 ⟨rfl, rfl⟩
    go_wp2_with fail
    go_ret
    exact ⟨rfl, HB.out⟩
theorem hasForm_any (i : Ins) (av : Value) (w : World) : Calls Try.prog 36 #[.agg (insA i av)] w fun e w' => e = .returned (.bool (hasForm i)) ∧ Below w.heap.size w w' := by
  obtain ⟨op, ty, dst, a, b, n, s, args⟩ := i
  unfold insA
  simp only
  have hb : Below w.heap.size w (w.alloc (.cells #[.int .i64 op, .int .i64 ty, .int .i64 dst, .int .i64 a, .int .i64 b, .int .i64 n, .string (str s), av] tIn)) := (Below.refl _ _).alloc (Nat.le_refl _) _
  have b1 := Blk.new w tIn #[.int .i64 op, .int .i64 ty, .int .i64 dst, .int .i64 a, .int .i64 b, .int .i64 n, .string (str s), av]
  have HB := Lib.hid hb
  have B1 := Lib.hid b1
  clear hb b1
  by_cases h3 : op = 3
  · subst h3
    have hv : hasForm ⟨3, ty, dst, a, b, n, s, args⟩ = (isCmp s || isAri s) := rfl
    rw [hv]
    clear hv
    obtain ⟨c, hc⟩ : ∃ c, isCmp s = c := ⟨_, rfl⟩
    have HC : Hid (∀ W, Calls Try.prog 46 #[.string (str s)] W fun e w' => e = .returned (.bool c) ∧ W = w') := Lib.hid fun W => by rw [← hc]; exact isCmp_any s W
    rw [hc]
    clear hc
    obtain ⟨d, hd⟩ : ∃ d, isAri s = d := ⟨_, rfl⟩
    have HA : Hid (∀ W, Calls Try.prog 47 #[.string (str s)] W fun e w' => e = .returned (.bool d) ∧ W = w') := Lib.hid fun W => by rw [← hd]; exact isAri_any s W
    rw [hd]
    clear hd
    go_enter Try.func36, Try.ntmps36
    go_upto_region 1 with (fail)
    generalize w.alloc (.cells #[.int .i64 3, .int .i64 ty, .int .i64 dst, .int .i64 a, .int .i64 b, .int .i64 n, .string (str s), av] tIn) = W1 at *
    have p0 : W1.cell? ⟨w.heap.size, 0, none⟩ = some (.int .i64 3) := B1.out.cell 0
    have p6 : W1.cell? ⟨w.heap.size, 6, none⟩ = some (.string (str s)) := B1.out.cell 6
    have pl := B1.out.lt
    cases c
    · go_wp2_with fail
      refine (HC.out _).mono ?_
      rintro e w1 ⟨rfl, rfl⟩
      go_wp2_with fail
      refine (HA.out _).mono ?_
      rintro e w1 ⟨rfl, rfl⟩
      go_wp2_with fail
      go_ret
      exact ⟨by simp, HB.out⟩
    · go_wp2_with fail
      refine (HC.out _).mono ?_
      rintro e w1 ⟨rfl, rfl⟩
      go_wp2_with fail
      go_ret
      exact ⟨by simp, HB.out⟩
  by_cases h4 : op = 4
  · subst h4
    have hv : hasForm ⟨4, ty, dst, a, b, n, s, args⟩ = (isV ty || ty == 3) := rfl
    rw [hv]
    clear hv
    obtain ⟨c, hc⟩ : ∃ c, isV ty = c := ⟨_, rfl⟩
    have HC : Hid (∀ W, Calls Try.prog 18 #[.int .i64 ty] W fun e w' => e = .returned (.bool c) ∧ W = w') := Lib.hid fun W => by rw [← hc]; exact isValue_any ty W
    rw [hc]
    clear hc
    go_enter Try.func36, Try.ntmps36
    go_upto_region 1 with (fail)
    generalize w.alloc (.cells #[.int .i64 4, .int .i64 ty, .int .i64 dst, .int .i64 a, .int .i64 b, .int .i64 n, .string (str s), av] tIn) = W1 at *
    have p0 : W1.cell? ⟨w.heap.size, 0, none⟩ = some (.int .i64 4) := B1.out.cell 0
    have p1 : W1.cell? ⟨w.heap.size, 1, none⟩ = some (.int .i64 ty) := B1.out.cell 1
    have pl := B1.out.lt
    cases c
    · go_wp2_with fail
      refine (HC.out _).mono ?_
      rintro e w1 ⟨rfl, rfl⟩
      go_wp2_with fail
      go_ret
      exact ⟨by simp, HB.out⟩
    · go_wp2_with fail
      refine (HC.out _).mono ?_
      rintro e w1 ⟨rfl, rfl⟩
      go_wp2_with fail
      go_ret
      exact ⟨by simp, HB.out⟩
  have hv : hasForm ⟨op, ty, dst, a, b, n, s, args⟩ = (decide (1 ≤ op) && decide (op ≤ 11)) := by simp only [hasForm, if_neg h3, if_neg h4]
  rw [hv]
  have d3 : (op == 3) = false := by simpa using h3
  have d4 : (op == 4) = false := by simpa using h4
  clear hv h3 h4
  obtain ⟨c, hc⟩ : ∃ c, decide (1 ≤ op) = c := ⟨_, rfl⟩
  rw [hc]
  cases c
  all_goals
    go_enter Try.func36, Try.ntmps36
    go_upto_region 1 with (fail)
    generalize w.alloc (.cells #[.int .i64 op, .int .i64 ty, .int .i64 dst, .int .i64 a, .int .i64 b, .int .i64 n, .string (str s), av] tIn) = W1 at *
    have p0 : W1.cell? ⟨w.heap.size, 0, none⟩ = some (.int .i64 op) := B1.out.cell 0
    have pl := B1.out.lt
    go_wp2_with fail
    go_ret
    exact ⟨by simp, HB.out⟩
end Go.Proofs.Ytgcjfbgfoiekmaa
