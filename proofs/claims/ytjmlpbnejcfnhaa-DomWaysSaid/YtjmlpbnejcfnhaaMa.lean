/-
  Layer ir: walks of the small functions that check an instruction. Layer ir: the checker in memory; walks of the closures that tell what is required of a register's type. Layer ir: walks of the functions that list what an instruction needs. Layer ir: the walk of the function that lists what a call needs; all of 'needs'. Layer ir: walks of exist, fit, haveBlocks, hasGlobal, leadsTo.
-/
import Derived.Test.YtjmlpbnejcfnhaaIo
import Derived.Test.YtjmlpbnejcfnhaaWa
import Derived.WalkSpells
import Derived.WalkLawsBesides
import Derived.Deep.Draws
import Derived.Deep.QuietTactic
import Derived.BigQuiet
import Derived.Deep.Cut
import Derived.Deep.LoopGhost
import Derived.Deep.RegionHeld3
import Derived.Deep.RegionLaw
import Derived.Deep.RegionWith
import Derived.Laws.EntriesVeiled
/-! Ivb -/
namespace Go.Proofs.Ytjmlpbnejcfnhaa
open Go Go.RowKit
set_option linter.unusedVariables false
set_option linter.unusedSimpArgs false

abbrev tIn : TypeId := 72
abbrev tCk : TypeId := 54
abbrev tNd : TypeId := 90
theorem isValue_any (t : Int) (w : World) : Calls Try.prog 20 #[.int .i64 t] w fun e w' => e = .returned (.bool (isV t)) ∧ w = w' := by
  by_cases h1 : t = 1
  · subst h1
    go_enter Try.func20, Try.ntmps20
    go_wp2
    go_ret
    exact ⟨rfl, rfl⟩
  · by_cases h2 : t = 2
    · subst h2
      go_enter Try.func20, Try.ntmps20
      go_wp2
      go_ret
      exact ⟨rfl, rfl⟩
    · have d1 : (t == 1) = false := by simpa using h1
      have d2 : (t == 2) = false := by simpa using h2
      have hv : isV t = false := by simp [isV, d1, d2]
      rw [hv]
      clear hv h1 h2
      go_enter Try.func20, Try.ntmps20
      go_wp2
      go_ret
      exact ⟨rfl, rfl⟩
theorem held_any (t : Int) (w : World) : Calls Try.prog 58 #[.int .i64 t] w fun e w' => e = .returned (.int .i64 (held t)) ∧ w = w' := by
  by_cases h2 : t = 2
  · subst h2
    go_enter Try.func58, Try.ntmps58
    go_wp2
    go_ret
    exact ⟨rfl, rfl⟩
  · have d2 : (t == 2) = false := by simpa using h2
    have hv : held t = 1 := by simp [held, h2]
    rw [hv]
    clear hv h2
    go_enter Try.func58, Try.ntmps58
    go_wp2
    go_ret
    exact ⟨rfl, rfl⟩
set_option maxHeartbeats 400000 in
theorem isCmp_any (s : List UInt8) (w : World) : Calls Try.prog 54 #[.string (str s)] w fun e w' => e = .returned (.bool (isCmp s)) ∧ w = w' := by
  by_cases h : s = [61, 61] ∨ s = [33, 61] ∨ s = [60] ∨ s = [60, 61] ∨ s = [62] ∨ s = [62, 61]
  · rcases h with rfl | rfl | rfl | rfl | rfl | rfl
    all_goals
      go_enter Try.func54, Try.ntmps54
      go_wp2
      go_ret
      exact ⟨rfl, rfl⟩
  · have d1 : (s == [61, 61]) = false := by simp; exact fun e => h (by simp [e])
    have d2 : (s == [33, 61]) = false := by simp; exact fun e => h (by simp [e])
    have d3 : (s == [60]) = false := by simp; exact fun e => h (by simp [e])
    have d4 : (s == [60, 61]) = false := by simp; exact fun e => h (by simp [e])
    have d5 : (s == [62]) = false := by simp; exact fun e => h (by simp [e])
    have d6 : (s == [62, 61]) = false := by simp; exact fun e => h (by simp [e])
    have hv : isCmp s = false := by simp only [isCmp, d1, d2, d3, d4, d5, d6, Bool.or_self]
    rw [hv]
    clear hv h
    obtain ⟨z, hz⟩ : ∃ z, str s = z := ⟨_, rfl⟩
    have e0 : z.toList = s := by rw [← hz, ByteArray.toList_eq]
    rw [hz]
    rw [← e0] at d1 d2 d3 d4 d5 d6
    clear hz e0
    go_enter Try.func54, Try.ntmps54
    go_wp2
    go_ret
    exact ⟨rfl, rfl⟩
set_option maxHeartbeats 400000 in
theorem isAri_any (s : List UInt8) (w : World) : Calls Try.prog 55 #[.string (str s)] w fun e w' => e = .returned (.bool (isAri s)) ∧ w = w' := by
  by_cases h : s = [43] ∨ s = [45] ∨ s = [42] ∨ s = [47] ∨ s = [37] ∨ s = [38] ∨ s = [124] ∨ s = [94] ∨ s = [60, 60] ∨ s = [62, 62]
  · rcases h with rfl | rfl | rfl | rfl | rfl | rfl | rfl | rfl | rfl | rfl
    all_goals
      go_enter Try.func55, Try.ntmps55
      go_wp2
      go_ret
      exact ⟨rfl, rfl⟩
  · have d0 : (s == [43]) = false := by simp; exact fun e => h (by simp [e])
    have d1 : (s == [45]) = false := by simp; exact fun e => h (by simp [e])
    have d2 : (s == [42]) = false := by simp; exact fun e => h (by simp [e])
    have d3 : (s == [47]) = false := by simp; exact fun e => h (by simp [e])
    have d4 : (s == [37]) = false := by simp; exact fun e => h (by simp [e])
    have d5 : (s == [38]) = false := by simp; exact fun e => h (by simp [e])
    have d6 : (s == [124]) = false := by simp; exact fun e => h (by simp [e])
    have d7 : (s == [94]) = false := by simp; exact fun e => h (by simp [e])
    have d8 : (s == [60, 60]) = false := by simp; exact fun e => h (by simp [e])
    have d9 : (s == [62, 62]) = false := by simp; exact fun e => h (by simp [e])
    have hv : isAri s = false := by simp only [isAri, d0, d1, d2, d3, d4, d5, d6, d7, d8, d9, Bool.or_self]
    rw [hv]
    clear hv h
    obtain ⟨z, hz⟩ : ∃ z, str s = z := ⟨_, rfl⟩
    have e0 : z.toList = s := by rw [← hz, ByteArray.toList_eq]
    rw [hz]
    rw [← e0] at d0 d1 d2 d3 d4 d5 d6 d7 d8 d9
    clear hz e0
    go_enter Try.func55, Try.ntmps55
    go_wp2
    go_ret
    exact ⟨rfl, rfl⟩

/-! an instruction as it is handed on -/
def insA (i : Ins) (av : Value) : Array Value := #[.int .i64 i.op, .int .i64 i.ty, .int .i64 i.dst, .int .i64 i.a, .int .i64 i.b, .int .i64 i.n, .string (str i.s), av]
theorem resT_any (i : Ins) (av : Value) (w : World) : Calls Try.prog 57 #[.agg (insA i av)] w fun e w' => e = .returned (.int .i64 (resT i)) ∧ Below w.heap.size w w' := by
  obtain ⟨op, ty, dst, a, b, n, s, args⟩ := i
  unfold insA resT
  simp only
  have hb : Below w.heap.size w (w.alloc (.cells #[.int .i64 op, .int .i64 ty, .int .i64 dst, .int .i64 a, .int .i64 b, .int .i64 n, .string (str s), av] tIn)) := (Below.refl _ _).alloc (Nat.le_refl _) _
  have b1 := Blk.new w tIn #[.int .i64 op, .int .i64 ty, .int .i64 dst, .int .i64 a, .int .i64 b, .int .i64 n, .string (str s), av]
  have HB := Lib.hid hb
  have B1 := Lib.hid b1
  clear hb b1
  obtain ⟨c, hc⟩ : ∃ c, isCmp s = c := ⟨_, rfl⟩
  have HC : Hid (∀ W, Calls Try.prog 54 #[.string (str s)] W fun e w' => e = .returned (.bool c) ∧ W = w') := Lib.hid fun W => by rw [← hc]; exact isCmp_any s W
  rw [hc]
  clear hc
  go_enter Try.func57, Try.ntmps57
  go_upto_region 1 with (fail)
  generalize w.alloc (.cells #[.int .i64 op, .int .i64 ty, .int .i64 dst, .int .i64 a, .int .i64 b, .int .i64 n, .string (str s), av] tIn) = W1 at *
  have p1 : W1.cell? ⟨w.heap.size, 1, none⟩ = some (.int .i64 ty) := B1.out.cell 1
  have p6 : W1.cell? ⟨w.heap.size, 6, none⟩ = some (.string (str s)) := B1.out.cell 6
  have pl := B1.out.lt
  cases c
  all_goals
    go_wp2_with fail
    refine (HC.out _).mono ?_
    rintro e w1 ⟨rfl, rfl⟩
    go_wp2_with fail
    go_ret
    exact ⟨rfl, HB.out⟩
theorem hasForm_any (i : Ins) (av : Value) (w : World) : Calls Try.prog 39 #[.agg (insA i av)] w fun e w' => e = .returned (.bool (hasForm i)) ∧ Below w.heap.size w w' := by
  obtain ⟨op, ty, dst, a, b, n, s, args⟩ := i
  unfold insA
  simp only
  have hb : Below w.heap.size w (w.alloc (.cells #[.int .i64 op, .int .i64 ty, .int .i64 dst, .int .i64 a, .int .i64 b, .int .i64 n, .string (str s), av] tIn)) := (Below.refl _ _).alloc (Nat.le_refl _) _
  have b1 := Blk.new w tIn #[.int .i64 op, .int .i64 ty, .int .i64 dst, .int .i64 a, .int .i64 b, .int .i64 n, .string (str s), av]
  have HB := Lib.hid hb
  have B1 := Lib.hid b1
  clear hb b1
  by_cases h3 : op = 3
  · subst h3
    have hv : hasForm ⟨3, ty, dst, a, b, n, s, args⟩ = (isCmp s || isAri s) := rfl
    rw [hv]
    clear hv
    obtain ⟨c, hc⟩ : ∃ c, isCmp s = c := ⟨_, rfl⟩
    have HC : Hid (∀ W, Calls Try.prog 54 #[.string (str s)] W fun e w' => e = .returned (.bool c) ∧ W = w') := Lib.hid fun W => by rw [← hc]; exact isCmp_any s W
    rw [hc]
    clear hc
    obtain ⟨d, hd⟩ : ∃ d, isAri s = d := ⟨_, rfl⟩
    have HA : Hid (∀ W, Calls Try.prog 55 #[.string (str s)] W fun e w' => e = .returned (.bool d) ∧ W = w') := Lib.hid fun W => by rw [← hd]; exact isAri_any s W
    rw [hd]
    clear hd
    go_enter Try.func39, Try.ntmps39
    go_upto_region 1 with (fail)
    generalize w.alloc (.cells #[.int .i64 3, .int .i64 ty, .int .i64 dst, .int .i64 a, .int .i64 b, .int .i64 n, .string (str s), av] tIn) = W1 at *
    have p0 : W1.cell? ⟨w.heap.size, 0, none⟩ = some (.int .i64 3) := B1.out.cell 0
    have p6 : W1.cell? ⟨w.heap.size, 6, none⟩ = some (.string (str s)) := B1.out.cell 6
    have pl := B1.out.lt
    cases c
    · go_wp2_with fail
      refine (HC.out _).mono ?_
      rintro e w1 ⟨rfl, rfl⟩
      go_wp2_with fail
      refine (HA.out _).mono ?_
      rintro e w1 ⟨rfl, rfl⟩
      go_wp2_with fail
      go_ret
      exact ⟨by simp, HB.out⟩
    · go_wp2_with fail
      refine (HC.out _).mono ?_
      rintro e w1 ⟨rfl, rfl⟩
      go_wp2_with fail
      go_ret
      exact ⟨by simp, HB.out⟩
  by_cases h4 : op = 4
  · subst h4
    have hv : hasForm ⟨4, ty, dst, a, b, n, s, args⟩ = (isV ty || ty == 3) := rfl
    rw [hv]
    clear hv
    obtain ⟨c, hc⟩ : ∃ c, isV ty = c := ⟨_, rfl⟩
    have HC : Hid (∀ W, Calls Try.prog 20 #[.int .i64 ty] W fun e w' => e = .returned (.bool c) ∧ W = w') := Lib.hid fun W => by rw [← hc]; exact isValue_any ty W
    rw [hc]
    clear hc
    go_enter Try.func39, Try.ntmps39
    go_upto_region 1 with (fail)
    generalize w.alloc (.cells #[.int .i64 4, .int .i64 ty, .int .i64 dst, .int .i64 a, .int .i64 b, .int .i64 n, .string (str s), av] tIn) = W1 at *
    have p0 : W1.cell? ⟨w.heap.size, 0, none⟩ = some (.int .i64 4) := B1.out.cell 0
    have p1 : W1.cell? ⟨w.heap.size, 1, none⟩ = some (.int .i64 ty) := B1.out.cell 1
    have pl := B1.out.lt
    cases c
    · go_wp2_with fail
      refine (HC.out _).mono ?_
      rintro e w1 ⟨rfl, rfl⟩
      go_wp2_with fail
      go_ret
      exact ⟨by simp, HB.out⟩
    · go_wp2_with fail
      refine (HC.out _).mono ?_
      rintro e w1 ⟨rfl, rfl⟩
      go_wp2_with fail
      go_ret
      exact ⟨by simp, HB.out⟩
  have hv : hasForm ⟨op, ty, dst, a, b, n, s, args⟩ = (decide (1 ≤ op) && decide (op ≤ 11)) := by simp only [hasForm, if_neg h3, if_neg h4]
  rw [hv]
  have d3 : (op == 3) = false := by simpa using h3
  have d4 : (op == 4) = false := by simpa using h4
  clear hv h3 h4
  obtain ⟨c, hc⟩ : ∃ c, decide (1 ≤ op) = c := ⟨_, rfl⟩
  rw [hc]
  cases c
  all_goals
    go_enter Try.func39, Try.ntmps39
    go_upto_region 1 with (fail)
    generalize w.alloc (.cells #[.int .i64 op, .int .i64 ty, .int .i64 dst, .int .i64 a, .int .i64 b, .int .i64 n, .string (str s), av] tIn) = W1 at *
    have p0 : W1.cell? ⟨w.heap.size, 0, none⟩ = some (.int .i64 op) := B1.out.cell 0
    have pl := B1.out.lt
    go_wp2_with fail
    go_ret
    exact ⟨by simp, HB.out⟩
end Go.Proofs.Ytjmlpbnejcfnhaa
/-! Ivc -/
namespace Go.Proofs.Ytjmlpbnejcfnhaa
open Go Go.RowKit
set_option linter.unusedVariables false
set_option linter.unusedSimpArgs false

abbrev tCp : TypeId := 73
theorem inR_nat {α : Type} {l : List α} {i : Int} (h : inR l i = true) : ∃ k : Nat, i = k ∧ k < l.length := by
  simp only [inR, Bool.and_eq_true, decide_eq_true_eq] at h
  exact ⟨i.toNat, by omega, by omega⟩
theorem at0_nat (l : List Int) (k : Nat) : at0 l (k : Int) = l.getD k 0 := rfl
theorem at0_lt {l : List Int} {k : Nat} (h : k < l.length) : at0 l (k : Int) = l[k] := by rw [at0_nat, List.getD_eq_getElem?_getD, List.getElem?_eq_getElem h]; rfl
theorem gAt_lt {m : Mdl} {k : Nat} (h : k < m.g.length) : gAt m (k : Int) = m.g[k] := by unfold gAt; rw [List.getD_eq_getElem?_getD, Int.toNat_natCast, List.getElem?_eq_getElem h]; rfl
theorem fAt_lt {m : Mdl} {k : Nat} (h : k < m.f.length) : fAt m (k : Int) = m.f[k] := by unfold fAt; rw [List.getD_eq_getElem?_getD, Int.toNat_natCast, List.getElem?_eq_getElem h]; rfl
/-- The checker of a function, in memory. -/
structure CkV (w : World) (b : Nat) (m : Mdl) (f : Cod) : Prop where
  x : ∃ gv fv rv bv, Blk w b tCk #[gv, fv, .string (str f.nm), .int .i64 f.ty, .int .i64 f.pr, rv, bv] ∧ IsM w w.heap.size gv fv m ∧ IsI w w.heap.size rv f.regs ∧ IsB w w.heap.size bv f.bl
theorem CkV.on {w w' : World} {b : Nat} {m : Mdl} {f : Cod} (h : CkV w b m f) (hb : Below w.heap.size w w') : CkV w' b m f := by
  obtain ⟨gv, fv, rv, bv, h1, h2, h3, h4⟩ := h.x
  exact ⟨gv, fv, rv, bv, (hb.block _ h1.lt).trans h1, h2.on hb, h3.on hb, h4.on hb⟩

theorem is1_any (t v : Int) (b : Nat) (w : World) (h : Blk w b tI1 #[.int .i64 v]) : Calls Try.prog 65 #[.int .i64 t, .pointer (some ⟨b, 0, none⟩)] w fun e w' => e = .returned (.bool (t == v)) ∧ Below w.heap.size w w' := by
  have c0 : w.cell? ⟨b, 0, none⟩ = some (.int .i64 v) := h.cell 0
  have cl := h.lt
  clear h
  go_enter Try.func65, Try.ntmps65
  go_wp2
  go_ret
  exact ⟨rfl, Below.refl _ _⟩
set_option maxHeartbeats 400000 in
theorem copy1_any (t : Int) (m : Mdl) (f : Cod) (i : Ins) (av : Value) (cb b2 b3 : Nat) (w : World) (hr : inR f.regs i.a = true) (hc : CkV w cb m f) (h2 : Blk w b2 tCp #[.pointer (some ⟨cb, 0, none⟩)]) (h3 : Blk w b3 tIn (insA i av)) :
    Calls Try.prog 56 #[.int .i64 t, .pointer (some ⟨b2, 0, none⟩), .pointer (some ⟨b3, 0, none⟩)] w fun e w' => e = .returned (.bool (t == at0 f.regs i.a)) ∧ Below w.heap.size w w' := by
  obtain ⟨gv, fv, rv, bv, hb, -, hri, -⟩ := hc.x
  obtain ⟨k, hk, hlt⟩ := inR_nat hr
  obtain ⟨g, o, c, rfl, hg, hlc, hcm, hx, -⟩ := hri.at hlt
  have i3 : w.cell? ⟨b3, 3, none⟩ = some (.int .i64 k) := by rw [← hk]; exact h3.cell 3
  have il := h3.lt
  have c0 : w.cell? ⟨b2, 0, none⟩ = some (.pointer (some ⟨cb, 0, none⟩)) := h2.cell 0
  have cl := h2.lt
  have k5 : w.cell? ⟨cb, 5, none⟩ = some (.slice (some ⟨g, o, none⟩) f.regs.length c) := hb.cell 5
  have kl := hb.lt
  rw [hk, at0_lt hlt]
  generalize f.regs[k] = v at *
  have hx' : w.cell? ⟨g, o + k, none⟩ = some (.int .i64 v) := by simpa using hx
  have hlt' : (k : Int) < f.regs.length := by omega
  clear hc hb hri hr hk h2 h3 hx
  go_enter Try.func56, Try.ntmps56
  go_wp2
  go_quiet (fail)
  go_wp2
  go_ret
  exact ⟨rfl, below_drewN _ _ _⟩
set_option maxHeartbeats 400000 in
theorem elem1_any (t n : Int) (m : Mdl) (f : Cod) (cb b2 b3 : Nat) (w : World) (hr : inR m.g n = true) (hc : CkV w cb m f) (h2 : Blk w b2 tCp #[.pointer (some ⟨cb, 0, none⟩)]) (h3 : Blk w b3 tI1 #[.int .i64 n]) :
    Calls Try.prog 70 #[.int .i64 t, .pointer (some ⟨b2, 0, none⟩), .pointer (some ⟨b3, 0, none⟩)] w fun e w' => e = .returned (.bool (t == held (gAt m n).ty)) ∧ Below w.heap.size w w' := by
  obtain ⟨gv, fv, rv, bv, hb, hm, -, -⟩ := hc.x
  obtain ⟨k, rfl, hlt⟩ := inR_nat hr
  obtain ⟨g, o, c, rfl, hg, hlc, hcm, -, hx⟩ := hm.g.at hlt
  have i3 : w.cell? ⟨b3, 0, none⟩ = some (.int .i64 k) := h3.cell 0
  have il := h3.lt
  have c0 : w.cell? ⟨b2, 0, none⟩ = some (.pointer (some ⟨cb, 0, none⟩)) := h2.cell 0
  have cl := h2.lt
  have k0 : w.cell? ⟨cb, 0, none⟩ = some (.slice (some ⟨g, o, none⟩) m.g.length c) := hb.cell 0
  have kl := hb.lt
  rw [gAt_lt hlt]
  have hx' : w.cell? ⟨g, o + k * 4 + 1, none⟩ = some (.int .i64 m.g[k].ty) := hx 1 _ rfl
  generalize m.g[k].ty = v at *
  have hlt' : (k : Int) < m.g.length := by omega
  clear hc hb hm hr h2 h3 hx
  go_enter Try.func70, Try.ntmps70
  go_wp2
  go_quiet ((go_at_call 58; exact Calls.quiet_of_same ((held_any _ _).mono fun _ _ h => ⟨h.1, h.2.symm⟩)))
  go_wp2
  go_ret
  exact ⟨rfl, below_drewN _ _ _⟩
set_option maxHeartbeats 400000 in
theorem scal1_any (t n : Int) (m : Mdl) (f : Cod) (cb b2 b3 : Nat) (w : World) (hr : inR m.g n = true) (hc : CkV w cb m f) (h2 : Blk w b2 tCp #[.pointer (some ⟨cb, 0, none⟩)]) (h3 : Blk w b3 tI1 #[.int .i64 n]) :
    Calls Try.prog 71 #[.int .i64 t, .pointer (some ⟨b2, 0, none⟩), .pointer (some ⟨b3, 0, none⟩)] w fun e w' => e = .returned (.bool (t == (gAt m n).ty)) ∧ Below w.heap.size w w' := by
  obtain ⟨gv, fv, rv, bv, hb, hm, -, -⟩ := hc.x
  obtain ⟨k, rfl, hlt⟩ := inR_nat hr
  obtain ⟨g, o, c, rfl, hg, hlc, hcm, -, hx⟩ := hm.g.at hlt
  have i3 : w.cell? ⟨b3, 0, none⟩ = some (.int .i64 k) := h3.cell 0
  have il := h3.lt
  have c0 : w.cell? ⟨b2, 0, none⟩ = some (.pointer (some ⟨cb, 0, none⟩)) := h2.cell 0
  have cl := h2.lt
  have k0 : w.cell? ⟨cb, 0, none⟩ = some (.slice (some ⟨g, o, none⟩) m.g.length c) := hb.cell 0
  have kl := hb.lt
  rw [gAt_lt hlt]
  have hx' : w.cell? ⟨g, o + k * 4 + 1, none⟩ = some (.int .i64 m.g[k].ty) := hx 1 _ rfl
  generalize m.g[k].ty = v at *
  have hlt' : (k : Int) < m.g.length := by omega
  clear hc hb hm hr h2 h3 hx
  go_enter Try.func71, Try.ntmps71
  go_wp2
  go_quiet (fail)
  go_wp2
  go_ret
  exact ⟨rfl, below_drewN _ _ _⟩
set_option maxHeartbeats 400000 in
theorem call2_any (t : Int) (m : Mdl) (f : Cod) (i : Ins) (av : Value) (cb b2 b3 : Nat) (w : World) (hr : inR m.f i.n = true) (hc : CkV w cb m f) (h2 : Blk w b2 tCp #[.pointer (some ⟨cb, 0, none⟩)]) (h3 : Blk w b3 tIn (insA i av)) :
    Calls Try.prog 73 #[.int .i64 t, .pointer (some ⟨b2, 0, none⟩), .pointer (some ⟨b3, 0, none⟩)] w fun e w' => e = .returned (.bool (t == (fAt m i.n).ty)) ∧ Below w.heap.size w w' := by
  obtain ⟨gv, fv, rv, bv, hb, hm, -, -⟩ := hc.x
  obtain ⟨k, hk, hlt⟩ := inR_nat hr
  obtain ⟨g, o, c, rfl, hg, hlc, hcm, -, rv', bv', -, -, hx⟩ := hm.f.at hlt
  have i3 : w.cell? ⟨b3, 5, none⟩ = some (.int .i64 k) := by rw [← hk]; exact h3.cell 5
  have il := h3.lt
  have c0 : w.cell? ⟨b2, 0, none⟩ = some (.pointer (some ⟨cb, 0, none⟩)) := h2.cell 0
  have cl := h2.lt
  have k0 : w.cell? ⟨cb, 1, none⟩ = some (.slice (some ⟨g, o, none⟩) m.f.length c) := hb.cell 1
  have kl := hb.lt
  rw [hk, fAt_lt hlt]
  have hx' : w.cell? ⟨g, o + k * 5 + 1, none⟩ = some (.int .i64 m.f[k].ty) := hx 1 _ rfl
  generalize m.f[k].ty = v at *
  have hlt' : (k : Int) < m.f.length := by omega
  clear hc hb hm hr h2 h3 hx hk
  go_enter Try.func73, Try.ntmps73
  go_wp2
  go_quiet (fail)
  go_wp2
  go_ret
  exact ⟨rfl, below_drewN _ _ _⟩
set_option maxHeartbeats 400000 in
theorem call1_any (t : Int) (m : Mdl) (f : Cod) (i : Ins) (av : Value) (cb b2 b3 b4 j : Nat) (w : World) (hr : inR m.f i.n = true) (hj : j < (fAt m i.n).regs.length) (hc : CkV w cb m f) (h2 : Blk w b2 tCp #[.pointer (some ⟨cb, 0, none⟩)]) (h3 : Blk w b3 tIn (insA i av)) (h4 : Blk w b4 tI1 #[.int .i64 j]) :
    Calls Try.prog 72 #[.int .i64 t, .pointer (some ⟨b2, 0, none⟩), .pointer (some ⟨b3, 0, none⟩), .pointer (some ⟨b4, 0, none⟩)] w fun e w' => e = .returned (.bool (t == at0 (fAt m i.n).regs j)) ∧ Below w.heap.size w w' := by
  obtain ⟨gv, fv, rv, bv, hb, hm, -, -⟩ := hc.x
  obtain ⟨k, hk, hlt⟩ := inR_nat hr
  obtain ⟨g, o, c, rfl, hg, hlc, hcm, -, rv', bv', hri, -, hx⟩ := hm.f.at hlt
  rw [hk, fAt_lt hlt] at hj ⊢
  obtain ⟨g2, o2, c2, rfl, hg2, hlc2, hcm2, hy, -⟩ := hri.at hj
  have i3 : w.cell? ⟨b3, 5, none⟩ = some (.int .i64 k) := by rw [← hk]; exact h3.cell 5
  have il := h3.lt
  have c0 : w.cell? ⟨b2, 0, none⟩ = some (.pointer (some ⟨cb, 0, none⟩)) := h2.cell 0
  have cl := h2.lt
  have j0 : w.cell? ⟨b4, 0, none⟩ = some (.int .i64 j) := h4.cell 0
  have jl := h4.lt
  have k0 : w.cell? ⟨cb, 1, none⟩ = some (.slice (some ⟨g, o, none⟩) m.f.length c) := hb.cell 1
  have kl := hb.lt
  have hx' : w.cell? ⟨g, o + k * 5 + 3, none⟩ = some (.slice (some ⟨g2, o2, none⟩) m.f[k].regs.length c2) := hx 3 _ rfl
  rw [at0_lt hj]
  have hy' : w.cell? ⟨g2, o2 + j, none⟩ = some (.int .i64 m.f[k].regs[j]) := by simpa using hy
  have hj' : (j : Int) < m.f[k].regs.length := by omega
  generalize m.f[k].regs[j] = v at *
  generalize m.f[k].regs.length = rl at *
  have hlt' : (k : Int) < m.f.length := by omega
  clear hc hb hm hr h2 h3 h4 hx hk hri hy
  go_enter Try.func72, Try.ntmps72
  go_wp2
  go_quiet (fail)
  go_wp2
  go_ret
  exact ⟨rfl, below_drewN _ _ _⟩

/-! a list of needs in memory -/
/-- Which closures there are. -/
def NeedK (k : Nat) (caps : Array Value) : Prop := (k = 20 ∧ caps = #[]) ∨ (∃ a, k = 65 ∧ caps = #[a]) ∨ (∃ a b, k = 56 ∧ caps = #[a, b]) ∨ (∃ a b, k = 70 ∧ caps = #[a, b]) ∨
  (∃ a b, k = 71 ∧ caps = #[a, b]) ∨ (∃ a b, k = 73 ∧ caps = #[a, b]) ∨ ∃ a b c, k = 72 ∧ caps = #[a, b, c]
def NeedV (w : World) (ok : Prop) (fv : Value) (p : Int → Bool) : Prop := ∃ k caps, fv = .func (.func k) #[] caps ∧ NeedK k caps ∧ (ok → ∀ W, Below w.heap.size w W → ∀ t, Calls Try.prog k (#[.int .i64 t] ++ caps) W fun e w' => e = .returned (.bool (p t)) ∧ Below W.heap.size W w')
theorem NeedV.on {w w' : World} {ok : Prop} {fv : Value} {p : Int → Bool} (h : NeedV w ok fv p) (hb : Below w.heap.size w w') : NeedV w' ok fv p := by
  obtain ⟨k, caps, h1, h2, h3⟩ := h
  exact ⟨k, caps, h1, h2, fun ho W hW => h3 ho W (hb.trans (hW.mono hb.size))⟩
theorem NeedV.imp {w : World} {ok ok' : Prop} {fv : Value} {p : Int → Bool} (h : NeedV w ok fv p) (ho : ok' → ok) : NeedV w ok' fv p := by
  obtain ⟨k, caps, h1, h2, h3⟩ := h
  exact ⟨k, caps, h1, h2, fun h => h3 (ho h)⟩
theorem need_isV (w : World) (ok : Prop) : NeedV w ok (.func (.func 20) #[] #[]) isV :=
  ⟨_, _, rfl, .inl ⟨rfl, rfl⟩, fun _ W _ t => (isValue_any t W).mono fun e w' h => ⟨h.1, by rw [← h.2]; exact Below.refl _ _⟩⟩
theorem need_is (w : World) (ok : Prop) (b : Nat) (v : Int) (h : Blk w b tI1 #[.int .i64 v]) : NeedV w ok (.func (.func 65) #[] #[.pointer (some ⟨b, 0, none⟩)]) (fun t => t == v) :=
  ⟨_, _, rfl, .inr (.inl ⟨_, rfl, rfl⟩), fun _ W hW t => is1_any t v b W (h.on hW)⟩
theorem need_copy (w : World) (m : Mdl) (f : Cod) (i : Ins) (av : Value) (cb b2 b3 : Nat) (hc : CkV w cb m f) (h2 : Blk w b2 tCp #[.pointer (some ⟨cb, 0, none⟩)]) (h3 : Blk w b3 tIn (insA i av)) :
    NeedV w (inR f.regs i.a = true) (.func (.func 56) #[] #[.pointer (some ⟨b2, 0, none⟩), .pointer (some ⟨b3, 0, none⟩)]) (fun t => t == at0 f.regs i.a) :=
  ⟨_, _, rfl, .inr (.inr (.inl ⟨_, _, rfl, rfl⟩)), fun ho W hW t => copy1_any t m f i av cb b2 b3 W ho (hc.on hW) (h2.on hW) (h3.on hW)⟩
theorem need_elem (w : World) (m : Mdl) (f : Cod) (n : Int) (cb b2 b3 : Nat) (hc : CkV w cb m f) (h2 : Blk w b2 tCp #[.pointer (some ⟨cb, 0, none⟩)]) (h3 : Blk w b3 tI1 #[.int .i64 n]) :
    NeedV w (inR m.g n = true) (.func (.func 70) #[] #[.pointer (some ⟨b2, 0, none⟩), .pointer (some ⟨b3, 0, none⟩)]) (fun t => t == held (gAt m n).ty) :=
  ⟨_, _, rfl, .inr (.inr (.inr (.inl ⟨_, _, rfl, rfl⟩))), fun ho W hW t => elem1_any t n m f cb b2 b3 W ho (hc.on hW) (h2.on hW) (h3.on hW)⟩
theorem need_scal (w : World) (m : Mdl) (f : Cod) (n : Int) (cb b2 b3 : Nat) (hc : CkV w cb m f) (h2 : Blk w b2 tCp #[.pointer (some ⟨cb, 0, none⟩)]) (h3 : Blk w b3 tI1 #[.int .i64 n]) :
    NeedV w (inR m.g n = true) (.func (.func 71) #[] #[.pointer (some ⟨b2, 0, none⟩), .pointer (some ⟨b3, 0, none⟩)]) (fun t => t == (gAt m n).ty) :=
  ⟨_, _, rfl, .inr (.inr (.inr (.inr (.inl ⟨_, _, rfl, rfl⟩)))), fun ho W hW t => scal1_any t n m f cb b2 b3 W ho (hc.on hW) (h2.on hW) (h3.on hW)⟩
theorem need_call2 (w : World) (m : Mdl) (f : Cod) (i : Ins) (av : Value) (cb b2 b3 : Nat) (hc : CkV w cb m f) (h2 : Blk w b2 tCp #[.pointer (some ⟨cb, 0, none⟩)]) (h3 : Blk w b3 tIn (insA i av)) :
    NeedV w (inR m.f i.n = true) (.func (.func 73) #[] #[.pointer (some ⟨b2, 0, none⟩), .pointer (some ⟨b3, 0, none⟩)]) (fun t => t == (fAt m i.n).ty) :=
  ⟨_, _, rfl, .inr (.inr (.inr (.inr (.inr (.inl ⟨_, _, rfl, rfl⟩))))), fun ho W hW t => call2_any t m f i av cb b2 b3 W ho (hc.on hW) (h2.on hW) (h3.on hW)⟩
theorem need_call1 (w : World) (m : Mdl) (f : Cod) (i : Ins) (av : Value) (cb b2 b3 b4 j : Nat) (hc : CkV w cb m f) (h2 : Blk w b2 tCp #[.pointer (some ⟨cb, 0, none⟩)]) (h3 : Blk w b3 tIn (insA i av)) (h4 : Blk w b4 tI1 #[.int .i64 j]) :
    NeedV w (inR m.f i.n = true ∧ j < (fAt m i.n).regs.length) (.func (.func 72) #[] #[.pointer (some ⟨b2, 0, none⟩), .pointer (some ⟨b3, 0, none⟩), .pointer (some ⟨b4, 0, none⟩)]) (fun t => t == at0 (fAt m i.n).regs j) :=
  ⟨_, _, rfl, .inr (.inr (.inr (.inr (.inr (.inr ⟨_, _, _, rfl, rfl⟩))))), fun ho W hW t => call1_any t m f i av cb b2 b3 b4 j W ho.1 ho.2 (hc.on hW) (h2.on hW) (h3.on hW) (h4.on hW)⟩
/-- A list of needs as it is read. -/
def IsNd (w : World) (ok : Prop) (v : Value) (l : List (Int × (Int → Bool))) : Prop := IsL w w.heap.size 2 v l fun x cell => cell 0 = some (.int .i64 x.1) ∧ ∃ fv, cell 1 = some fv ∧ NeedV w ok fv x.2
theorem IsNd.on {w w' : World} {ok : Prop} {v : Value} {l : List (Int × (Int → Bool))} (h : IsNd w ok v l) (hb : Below w.heap.size w w') : IsNd w' ok v l :=
  IsL.more (IsL.keep h hb fun x c c' k hp => by
    obtain ⟨h0, fv, h1, h2⟩ := hp
    exact ⟨(k 0 (some_ne h0)).trans h0, fv, (k 1 (some_ne h1)).trans h1, h2.on hb⟩) hb.size fun _ _ h => h
end Go.Proofs.Ytjmlpbnejcfnhaa
/-! Ivd -/
namespace Go.Proofs.Ytjmlpbnejcfnhaa
open Go Go.RowKit
set_option linter.unusedVariables false
set_option linter.unusedSimpArgs false

theorem isNd_1 {W : World} {H : Nat} {ok : Prop} {x : Int} {fv : Value} {p : Int → Bool} (hb : Blk W H tNd #[.int .i64 x, fv]) (h : NeedV W ok fv p) : IsNd W ok (.slice (some ⟨H, 0, none⟩) 1 1) [(x, p)] :=
  ⟨_, 1, rfl, Nat.le_refl _, by unfold maxLen; omega, fun h => by (cases h), .inr ⟨H, 0, rfl, hb.lt, fun i y hi => by
    match i, hi with
    | 0, hi => cases hi; exact ⟨hb.cell 0, fv, hb.cell 1, h⟩⟩⟩
theorem isNd_2 {W : World} {H : Nat} {ok : Prop} {x y : Int} {fv gv : Value} {p q : Int → Bool} (hb : Blk W H tNd #[.int .i64 x, fv, .int .i64 y, gv]) (h : NeedV W ok fv p) (h' : NeedV W ok gv q) : IsNd W ok (.slice (some ⟨H, 0, none⟩) 2 2) [(x, p), (y, q)] :=
  ⟨_, 2, rfl, Nat.le_refl _, by unfold maxLen; omega, fun h => by (cases h), .inr ⟨H, 0, rfl, hb.lt, fun i y hi => by
    match i, hi with
    | 0, hi => cases hi; exact ⟨hb.cell 0, fv, hb.cell 1, h⟩
    | 1, hi => cases hi; exact ⟨hb.cell 2, gv, hb.cell 3, h'⟩⟩⟩
theorem isNd_3 {W : World} {H : Nat} {ok : Prop} {x y z : Int} {fv gv kv : Value} {p q r : Int → Bool} (hb : Blk W H tNd #[.int .i64 x, fv, .int .i64 y, gv, .int .i64 z, kv]) (h : NeedV W ok fv p) (h' : NeedV W ok gv q) (h3 : NeedV W ok kv r) : IsNd W ok (.slice (some ⟨H, 0, none⟩) 3 3) [(x, p), (y, q), (z, r)] :=
  ⟨_, 3, rfl, Nat.le_refl _, by unfold maxLen; omega, fun h => by (cases h), .inr ⟨H, 0, rfl, hb.lt, fun i y hi => by
    match i, hi with
    | 0, hi => cases hi; exact ⟨hb.cell 0, fv, hb.cell 1, h⟩
    | 1, hi => cases hi; exact ⟨hb.cell 2, gv, hb.cell 3, h'⟩
    | 2, hi => cases hi; exact ⟨hb.cell 4, kv, hb.cell 5, h3⟩⟩⟩
theorem is_any (v : Int) (w : World) (ok : Prop) : Calls Try.prog 45 #[.int .i64 v] w fun e w' => ∃ fv, e = .returned fv ∧ NeedV w' ok fv (fun t => t == v) ∧ Below w.heap.size w w' := by
  go_enter Try.func45, Try.ntmps45
  go_wp2
  go_ret
  exact ⟨_, rfl, need_is _ ok _ v (Blk.new w tI1 #[.int .i64 v]), (Below.refl _ _).alloc (Nat.le_refl _) _⟩
theorem holdE_any (m : Mdl) (f : Cod) (n : Int) (cb : Nat) (w : World) (hc : CkV w cb m f) : Calls Try.prog 59 #[.pointer (some ⟨cb, 0, none⟩), .int .i64 n] w fun e w' => ∃ fv, e = .returned fv ∧ NeedV w' (inR m.g n = true) fv (fun t => t == held (gAt m n).ty) ∧ Below w.heap.size w w' := by
  have HC := Lib.hid hc
  clear hc
  go_enter Try.func59, Try.ntmps59
  go_wp2
  go_ret
  have hb : Below w.heap.size w ((w.alloc (.cells #[.pointer (some ⟨cb, 0, none⟩)] tCp)).alloc (.cells #[.int .i64 n] tI1)) := ((Below.refl _ _).alloc (Nat.le_refl _) _).alloc (by simp) _
  have h3 := Blk.new (w.alloc (.cells #[.pointer (some ⟨cb, 0, none⟩)] tCp)) tI1 #[.int .i64 n]
  rw [show (w.alloc (.cells #[.pointer (some ⟨cb, 0, none⟩)] tCp)).heap.size = w.heap.size + 1 by simp] at h3
  exact ⟨_, rfl, need_elem _ m f n cb _ _ (HC.out.on hb) ((Blk.new w tCp _).alloc _) h3, hb⟩
theorem holdS_any (m : Mdl) (f : Cod) (n : Int) (cb : Nat) (w : World) (hc : CkV w cb m f) : Calls Try.prog 60 #[.pointer (some ⟨cb, 0, none⟩), .int .i64 n] w fun e w' => ∃ fv, e = .returned fv ∧ NeedV w' (inR m.g n = true) fv (fun t => t == (gAt m n).ty) ∧ Below w.heap.size w w' := by
  have HC := Lib.hid hc
  clear hc
  go_enter Try.func60, Try.ntmps60
  go_wp2
  go_ret
  have hb : Below w.heap.size w ((w.alloc (.cells #[.pointer (some ⟨cb, 0, none⟩)] tCp)).alloc (.cells #[.int .i64 n] tI1)) := ((Below.refl _ _).alloc (Nat.le_refl _) _).alloc (by simp) _
  have h3 := Blk.new (w.alloc (.cells #[.pointer (some ⟨cb, 0, none⟩)] tCp)) tI1 #[.int .i64 n]
  rw [show (w.alloc (.cells #[.pointer (some ⟨cb, 0, none⟩)] tCp)).heap.size = w.heap.size + 1 by simp] at h3
  exact ⟨_, rfl, need_scal _ m f n cb _ _ (HC.out.on hb) ((Blk.new w tCp _).alloc _) h3, hb⟩
/-- What must hold for the needs to be asked. -/
def OkI (m : Mdl) (f : Cod) (i : Ins) : Prop := (existL f (needL m f i) && placeI m f i) = true ∧ (i.op = 9 → (i.args.length : Int) = (fAt m i.n).pr)
theorem OkI.g {m : Mdl} {f : Cod} {i : Ins} (h : OkI m f i) (ho : i.op = 5 ∨ i.op = 6 ∨ i.op = 7 ∨ i.op = 8) : inR m.g i.n = true := by
  have h1 := (Bool.and_eq_true _ _ ▸ h.1).2
  unfold placeI at h1
  rw [if_neg (by omega)] at h1
  by_cases h5 : i.op = 5 ∨ i.op = 6
  · rw [if_pos h5] at h1; exact (Bool.and_eq_true _ _ ▸ h1).1
  · rw [if_neg h5, if_pos (by omega)] at h1; exact (Bool.and_eq_true _ _ ▸ h1).1
theorem OkI.a {m : Mdl} {f : Cod} {i : Ins} (h : OkI m f i) (ho : i.op = 2) : inR f.regs i.a = true := by
  have h1 := (Bool.and_eq_true _ _ ▸ h.1).1
  simp [existL, needL, ho] at h1
  exact h1.1
theorem OkI.c {m : Mdl} {f : Cod} {i : Ins} (h : OkI m f i) (ho : i.op = 9) : inR m.f i.n = true ∧ i.args.length ≤ (fAt m i.n).regs.length := by
  have h1 := (Bool.and_eq_true _ _ ▸ h.1).2
  have h2 := h.2 ho
  simp [placeI, ho] at h1
  exact ⟨h1.1, by omega⟩
/-- At the head of 'needs': its two boxes. -/
structure NeedHd (w W1 : World) (cb : Nat) (m : Mdl) (f : Cod) (i : Ins) (av : Value) : Prop where
  b : Below w.heap.size w W1
  c : CkV W1 cb m f
  p : Blk W1 w.heap.size tCp #[.pointer (some ⟨cb, 0, none⟩)]
  q : Blk W1 (w.heap.size + 1) tIn (insA i av)
theorem needHd {w : World} {cb : Nat} {m : Mdl} {f : Cod} (i : Ins) (av : Value) (hc : CkV w cb m f) : NeedHd w ((w.alloc (.cells #[.pointer (some ⟨cb, 0, none⟩)] tCp)).alloc (.cells (insA i av) tIn)) cb m f i av := by
  have hb : Below w.heap.size w ((w.alloc (.cells #[.pointer (some ⟨cb, 0, none⟩)] tCp)).alloc (.cells (insA i av) tIn)) := ((Below.refl _ _).alloc (Nat.le_refl _) _).alloc (by simp) _
  have h3 := Blk.new (w.alloc (.cells #[.pointer (some ⟨cb, 0, none⟩)] tCp)) tIn (insA i av)
  rw [show (w.alloc (.cells #[.pointer (some ⟨cb, 0, none⟩)] tCp)).heap.size = w.heap.size + 1 by simp] at h3
  exact ⟨hb, hc.on hb, (Blk.new w tCp _).alloc _, h3⟩
def NeedsPost (w : World) (m : Mdl) (f : Cod) (i : Ins) (e : Ending) (w' : World) : Prop := ∃ v, e = .returned v ∧ IsNd w' (OkI m f i) v (needL m f i) ∧ Below w.heap.size w w'
set_option maxHeartbeats 1000000 in
theorem needs3_any (m : Mdl) (f : Cod) (i : Ins) (av : Value) (cb : Nat) (w : World) (hc : CkV w cb m f) (ho : i.op = 3) : Calls Try.prog 40 #[.pointer (some ⟨cb, 0, none⟩), .agg (insA i av)] w (NeedsPost w m f i) := by
  have HH := Lib.hid (needHd i av hc)
  have HO := Lib.hid ho
  obtain ⟨P, hP⟩ : ∃ P, NeedsPost w m f i = P := ⟨_, rfl⟩
  have HP := Lib.hid hP
  rw [hP]
  clear hc hP
  unfold insA at HH ⊢
  obtain ⟨op, ty, dst, a, b, n, s, args⟩ := i
  simp only at ho HH ⊢
  subst ho
  have HI : Hid (∀ v W, Calls Try.prog 45 #[.int .i64 v] W fun e w' => ∃ fv, e = .returned fv ∧ NeedV w' (OkI m f ⟨3, ty, dst, a, b, n, s, args⟩) fv (fun t => t == v) ∧ Below W.heap.size W w') := Lib.hid fun v W => is_any v W _
  obtain ⟨rt, hrt⟩ : ∃ rt, resT ⟨3, ty, dst, a, b, n, s, args⟩ = rt := ⟨_, rfl⟩
  have HR : Hid (∀ W, Calls Try.prog 57 #[.agg #[.int .i64 3, .int .i64 ty, .int .i64 dst, .int .i64 a, .int .i64 b, .int .i64 n, .string (str s), av]] W fun e w' => e = .returned (.int .i64 rt) ∧ Below W.heap.size W w') := Lib.hid fun W => by rw [← hrt]; exact resT_any ⟨3, ty, dst, a, b, n, s, args⟩ av W
  have HRT := Lib.hid hrt
  clear hrt
  go_enter Try.func40, Try.ntmps40
  go_upto_region 1 with (fail)
  generalize (w.alloc (.cells #[.pointer (some ⟨cb, 0, none⟩)] tCp)).alloc (.cells #[.int .i64 3, .int .i64 ty, .int .i64 dst, .int .i64 a, .int .i64 b, .int .i64 n, .string (str s), av] tIn) = W1 at *
  have q0 : W1.cell? ⟨w.heap.size + 1, 0, none⟩ = some (.int .i64 3) := HH.out.q.cell 0
  have q1 : W1.cell? ⟨w.heap.size + 1, 1, none⟩ = some (.int .i64 ty) := HH.out.q.cell 1
  have q2 : W1.cell? ⟨w.heap.size + 1, 2, none⟩ = some (.int .i64 dst) := HH.out.q.cell 2
  have q3 : W1.cell? ⟨w.heap.size + 1, 3, none⟩ = some (.int .i64 a) := HH.out.q.cell 3
  have q4 : W1.cell? ⟨w.heap.size + 1, 4, none⟩ = some (.int .i64 b) := HH.out.q.cell 4
  have q5 : W1.cell? ⟨w.heap.size + 1, 5, none⟩ = some (.int .i64 n) := HH.out.q.cell 5
  have q6 : W1.cell? ⟨w.heap.size + 1, 6, none⟩ = some (.string (str s)) := HH.out.q.cell 6
  have q7 : W1.cell? ⟨w.heap.size + 1, 7, none⟩ = some (av) := HH.out.q.cell 7
  have ql := HH.out.q.lt
  go_wp2_with fail
  have HS : Hid (∀ Wx, Below W1.heap.size W1 Wx → Wx.cell? ⟨w.heap.size + 1, 0, none⟩ = some (.int .i64 3) ∧ Wx.cell? ⟨w.heap.size + 1, 1, none⟩ = some (.int .i64 ty) ∧ Wx.cell? ⟨w.heap.size + 1, 2, none⟩ = some (.int .i64 dst) ∧ Wx.cell? ⟨w.heap.size + 1, 3, none⟩ = some (.int .i64 a) ∧ Wx.cell? ⟨w.heap.size + 1, 4, none⟩ = some (.int .i64 b) ∧ Wx.cell? ⟨w.heap.size + 1, 5, none⟩ = some (.int .i64 n) ∧ Wx.cell? ⟨w.heap.size + 1, 6, none⟩ = some (.string (str s)) ∧ Wx.cell? ⟨w.heap.size + 1, 7, none⟩ = some (av) ∧ w.heap.size + 1 < Wx.heap.size) := Lib.hid fun Wx h => by
    have hz := h.size
    exact ⟨(h.cell (p := ⟨w.heap.size + 1, 0, none⟩) ql).trans q0, (h.cell (p := ⟨w.heap.size + 1, 1, none⟩) ql).trans q1, (h.cell (p := ⟨w.heap.size + 1, 2, none⟩) ql).trans q2, (h.cell (p := ⟨w.heap.size + 1, 3, none⟩) ql).trans q3, (h.cell (p := ⟨w.heap.size + 1, 4, none⟩) ql).trans q4, (h.cell (p := ⟨w.heap.size + 1, 5, none⟩) ql).trans q5, (h.cell (p := ⟨w.heap.size + 1, 6, none⟩) ql).trans q6, (h.cell (p := ⟨w.heap.size + 1, 7, none⟩) ql).trans q7, by omega⟩
  have J : Below W1.heap.size W1 W1 := Below.refl _ _
  go_region_held3 (fun Wx => Wx.cell? ⟨w.heap.size + 1, 0, none⟩ = some (.int .i64 3) ∧ Wx.cell? ⟨w.heap.size + 1, 1, none⟩ = some (.int .i64 ty) ∧ Wx.cell? ⟨w.heap.size + 1, 2, none⟩ = some (.int .i64 dst) ∧ Wx.cell? ⟨w.heap.size + 1, 3, none⟩ = some (.int .i64 a) ∧ Wx.cell? ⟨w.heap.size + 1, 4, none⟩ = some (.int .i64 b) ∧ Wx.cell? ⟨w.heap.size + 1, 5, none⟩ = some (.int .i64 n) ∧ Wx.cell? ⟨w.heap.size + 1, 6, none⟩ = some (.string (str s)) ∧ Wx.cell? ⟨w.heap.size + 1, 7, none⟩ = some (av) ∧ w.heap.size + 1 < Wx.heap.size)
    (first | exact ⟨q0, q1, q2, q3, q4, q5, q6, q7, ql⟩ | exact HS.out _ J | exact HS.out _ (J.alloc J.size _))
    (first
      | (go_at_call 45; (with_reducible refine Calls.mono (HI.out _ _) ?_); (first | (have _t := hn2; rintro e v3 ⟨fv, rfl, hn3, b3⟩; obtain ⟨k3, caps3, rfl, hk3⟩ := hn3; have hn3 := hk3; (have J : Below W1.heap.size W1 v3 := by first | exact J.trans (b3.mono J.size) | exact J.drew.trans (b3.mono J.drew.size))) | (have _t := hn1; rintro e v2 ⟨fv, rfl, hn2, b2⟩; obtain ⟨k2, caps2, rfl, hk2⟩ := hn2; have hn2 := hk2; (have J : Below W1.heap.size W1 v2 := by first | exact J.trans (b2.mono J.size) | exact J.drew.trans (b2.mono J.drew.size))) | (rintro e v1 ⟨fv, rfl, hn1, b1⟩; obtain ⟨k1, caps1, rfl, hk1⟩ := hn1; have hn1 := hk1; (have J : Below W1.heap.size W1 v1 := by first | exact J.trans (b1.mono J.size) | exact J.drew.trans (b1.mono J.drew.size)))))
      | (go_at_call 57; (with_reducible refine Calls.mono (HR.out _) ?_); rintro e v8 ⟨rfl, b8⟩; (have J : Below W1.heap.size W1 v8 := by first | exact J.trans (b8.mono J.size) | exact J.drew.trans (b8.mono J.drew.size))))
  all_goals
    go_wp2_with fail
    rw [← HP.out]
    have q28 := b8.trans (b3.mono b8.size)
    have q2 := q28.alloc q28.size (.cells #[.int .i64 a, .func (.func k1) #[] caps1, .int .i64 b, .func (.func k2) #[] caps2, .int .i64 dst, .func (.func k3) #[] caps3] tNd)
    have q1 := b2.trans (q2.mono b2.size)
    exact ⟨_, rfl, isNd_3 (Blk.new _ _ _) (NeedV.on (w := v1) ⟨_, _, rfl, hk1⟩ q1) (NeedV.on (w := v2) ⟨_, _, rfl, hk2⟩ q2) (by rw [HRT.out]; exact NeedV.on (w := v3) ⟨_, _, rfl, hk3⟩ ((Below.refl _ _).alloc (Nat.le_refl _) _)), HH.out.b.trans ((J.alloc J.size _).mono HH.out.b.size)⟩
set_option maxHeartbeats 1000000 in
theorem needs4_any (m : Mdl) (f : Cod) (i : Ins) (av : Value) (cb : Nat) (w : World) (hc : CkV w cb m f) (ho : i.op = 4) : Calls Try.prog 40 #[.pointer (some ⟨cb, 0, none⟩), .agg (insA i av)] w (NeedsPost w m f i) := by
  have HH := Lib.hid (needHd i av hc)
  have HO := Lib.hid ho
  obtain ⟨P, hP⟩ : ∃ P, NeedsPost w m f i = P := ⟨_, rfl⟩
  have HP := Lib.hid hP
  rw [hP]
  clear hc hP
  unfold insA at HH ⊢
  obtain ⟨op, ty, dst, a, b, n, s, args⟩ := i
  simp only at ho HH ⊢
  subst ho
  have HI : Hid (∀ v W, Calls Try.prog 45 #[.int .i64 v] W fun e w' => ∃ fv, e = .returned fv ∧ NeedV w' (OkI m f ⟨4, ty, dst, a, b, n, s, args⟩) fv (fun t => t == v) ∧ Below W.heap.size W w') := Lib.hid fun v W => is_any v W _
  obtain ⟨ht, hht⟩ : ∃ ht, held ty = ht := ⟨_, rfl⟩
  have HD : Hid (∀ W, Calls Try.prog 58 #[.int .i64 ty] W fun e w' => e = .returned (.int .i64 ht) ∧ Below W.heap.size W w') := Lib.hid fun W => by rw [← hht]; exact (held_any ty W).mono fun e w' h => ⟨h.1, by rw [← h.2]; exact Below.refl _ _⟩
  have HHT := Lib.hid hht
  clear hht
  go_enter Try.func40, Try.ntmps40
  go_upto_region 1 with (fail)
  generalize (w.alloc (.cells #[.pointer (some ⟨cb, 0, none⟩)] tCp)).alloc (.cells #[.int .i64 4, .int .i64 ty, .int .i64 dst, .int .i64 a, .int .i64 b, .int .i64 n, .string (str s), av] tIn) = W1 at *
  have q0 : W1.cell? ⟨w.heap.size + 1, 0, none⟩ = some (.int .i64 4) := HH.out.q.cell 0
  have q1 : W1.cell? ⟨w.heap.size + 1, 1, none⟩ = some (.int .i64 ty) := HH.out.q.cell 1
  have q2 : W1.cell? ⟨w.heap.size + 1, 2, none⟩ = some (.int .i64 dst) := HH.out.q.cell 2
  have q3 : W1.cell? ⟨w.heap.size + 1, 3, none⟩ = some (.int .i64 a) := HH.out.q.cell 3
  have ql := HH.out.q.lt
  go_wp2_with fail
  have HS : Hid (∀ Wx, Below W1.heap.size W1 Wx → Wx.cell? ⟨w.heap.size + 1, 1, none⟩ = some (.int .i64 ty) ∧ Wx.cell? ⟨w.heap.size + 1, 2, none⟩ = some (.int .i64 dst) ∧ Wx.cell? ⟨w.heap.size + 1, 3, none⟩ = some (.int .i64 a) ∧ w.heap.size + 1 < Wx.heap.size) := Lib.hid fun Wx h => by
    have hz := h.size
    exact ⟨(h.cell (p := ⟨w.heap.size + 1, 1, none⟩) ql).trans q1, (h.cell (p := ⟨w.heap.size + 1, 2, none⟩) ql).trans q2, (h.cell (p := ⟨w.heap.size + 1, 3, none⟩) ql).trans q3, by omega⟩
  have J : Below W1.heap.size W1 W1 := Below.refl _ _
  go_region_held3 (fun Wx => Wx.cell? ⟨w.heap.size + 1, 1, none⟩ = some (.int .i64 ty) ∧ Wx.cell? ⟨w.heap.size + 1, 2, none⟩ = some (.int .i64 dst) ∧ Wx.cell? ⟨w.heap.size + 1, 3, none⟩ = some (.int .i64 a) ∧ w.heap.size + 1 < Wx.heap.size)
    (first | exact ⟨q1, q2, q3, ql⟩ | exact HS.out _ J | exact HS.out _ (J.alloc J.size _))
    (first
      | (go_at_call 45; (with_reducible refine Calls.mono (HI.out _ _) ?_); (first | (have _t := hn2; rintro e v3 ⟨fv, rfl, hn3, b3⟩; obtain ⟨k3, caps3, rfl, hk3⟩ := hn3; have hn3 := hk3; (have J : Below W1.heap.size W1 v3 := by first | exact J.trans (b3.mono J.size) | exact J.drew.trans (b3.mono J.drew.size))) | (have _t := hn1; rintro e v2 ⟨fv, rfl, hn2, b2⟩; obtain ⟨k2, caps2, rfl, hk2⟩ := hn2; have hn2 := hk2; (have J : Below W1.heap.size W1 v2 := by first | exact J.trans (b2.mono J.size) | exact J.drew.trans (b2.mono J.drew.size))) | (rintro e v1 ⟨fv, rfl, hn1, b1⟩; obtain ⟨k1, caps1, rfl, hk1⟩ := hn1; have hn1 := hk1; (have J : Below W1.heap.size W1 v1 := by first | exact J.trans (b1.mono J.size) | exact J.drew.trans (b1.mono J.drew.size)))))
      | (go_at_call 58; (with_reducible refine Calls.mono (HD.out _) ?_); rintro e v8 ⟨rfl, b8⟩; (have J : Below W1.heap.size W1 v8 := by first | exact J.trans (b8.mono J.size) | exact J.drew.trans (b8.mono J.drew.size))))
  all_goals
    go_wp2_with fail
    rw [← HP.out]
    exact ⟨_, rfl, isNd_2 (Blk.new _ _ _) (need_isV _ _) (by rw [HHT.out]; exact NeedV.on (w := v1) ⟨_, _, rfl, hk1⟩ ((Below.refl _ _).alloc (Nat.le_refl _) _)), HH.out.b.trans ((J.alloc J.size _).mono HH.out.b.size)⟩
set_option maxHeartbeats 1000000 in
theorem needs5_any (m : Mdl) (f : Cod) (i : Ins) (av : Value) (cb : Nat) (w : World) (hc : CkV w cb m f) (ho : i.op = 5) : Calls Try.prog 40 #[.pointer (some ⟨cb, 0, none⟩), .agg (insA i av)] w (NeedsPost w m f i) := by
  have HH := Lib.hid (needHd i av hc)
  have HO := Lib.hid ho
  obtain ⟨P, hP⟩ : ∃ P, NeedsPost w m f i = P := ⟨_, rfl⟩
  have HP := Lib.hid hP
  rw [hP]
  clear hc hP
  unfold insA at HH ⊢
  obtain ⟨op, ty, dst, a, b, n, s, args⟩ := i
  simp only at ho HH ⊢
  subst ho
  have HI : Hid (∀ v W, Calls Try.prog 45 #[.int .i64 v] W fun e w' => ∃ fv, e = .returned fv ∧ NeedV w' (OkI m f ⟨5, ty, dst, a, b, n, s, args⟩) fv (fun t => t == v) ∧ Below W.heap.size W w') := Lib.hid fun v W => is_any v W _
  go_enter Try.func40, Try.ntmps40
  go_upto_region 1 with (fail)
  generalize (w.alloc (.cells #[.pointer (some ⟨cb, 0, none⟩)] tCp)).alloc (.cells #[.int .i64 5, .int .i64 ty, .int .i64 dst, .int .i64 a, .int .i64 b, .int .i64 n, .string (str s), av] tIn) = W1 at *
  have p0 : W1.cell? ⟨w.heap.size, 0, none⟩ = some (.pointer (some ⟨cb, 0, none⟩)) := HH.out.p.cell 0
  have pl := HH.out.p.lt
  have q0 : W1.cell? ⟨w.heap.size + 1, 0, none⟩ = some (.int .i64 5) := HH.out.q.cell 0
  have q2 : W1.cell? ⟨w.heap.size + 1, 2, none⟩ = some (.int .i64 dst) := HH.out.q.cell 2
  have q3 : W1.cell? ⟨w.heap.size + 1, 3, none⟩ = some (.int .i64 a) := HH.out.q.cell 3
  have q5 : W1.cell? ⟨w.heap.size + 1, 5, none⟩ = some (.int .i64 n) := HH.out.q.cell 5
  have ql := HH.out.q.lt
  go_wp2_with fail
  have HC : Hid (∀ W, Below W1.heap.size W1 W → Calls Try.prog 59 #[.pointer (some ⟨cb, 0, none⟩), .int .i64 n] W fun e w' => ∃ fv, e = .returned fv ∧ NeedV w' (OkI m f ⟨5, ty, dst, a, b, n, s, args⟩) fv (fun t => t == held (gAt m n).ty) ∧ Below W.heap.size W w') := Lib.hid fun W hW => (holdE_any m f n cb W (HH.out.c.on hW)).mono fun e w' ⟨fv, h1, h2, h3⟩ => ⟨fv, h1, h2.imp fun h => h.g (by simp), h3⟩
  have HS : Hid (∀ Wx, Below W1.heap.size W1 Wx → Wx.cell? ⟨w.heap.size, 0, none⟩ = some (.pointer (some ⟨cb, 0, none⟩)) ∧ Wx.cell? ⟨w.heap.size + 1, 2, none⟩ = some (.int .i64 dst) ∧ Wx.cell? ⟨w.heap.size + 1, 3, none⟩ = some (.int .i64 a) ∧ Wx.cell? ⟨w.heap.size + 1, 5, none⟩ = some (.int .i64 n) ∧ w.heap.size < Wx.heap.size ∧ w.heap.size + 1 < Wx.heap.size) := Lib.hid fun Wx h => by
    have hz := h.size
    exact ⟨(h.cell (p := ⟨w.heap.size, 0, none⟩) pl).trans p0, (h.cell (p := ⟨w.heap.size + 1, 2, none⟩) ql).trans q2, (h.cell (p := ⟨w.heap.size + 1, 3, none⟩) ql).trans q3, (h.cell (p := ⟨w.heap.size + 1, 5, none⟩) ql).trans q5, by omega, by omega⟩
  have J : Below W1.heap.size W1 W1 := Below.refl _ _
  go_region_held3 (fun Wx => Wx.cell? ⟨w.heap.size, 0, none⟩ = some (.pointer (some ⟨cb, 0, none⟩)) ∧ Wx.cell? ⟨w.heap.size + 1, 2, none⟩ = some (.int .i64 dst) ∧ Wx.cell? ⟨w.heap.size + 1, 3, none⟩ = some (.int .i64 a) ∧ Wx.cell? ⟨w.heap.size + 1, 5, none⟩ = some (.int .i64 n) ∧ w.heap.size < Wx.heap.size ∧ w.heap.size + 1 < Wx.heap.size)
    (first | exact ⟨p0, q2, q3, q5, pl, ql⟩ | exact HS.out _ J | exact HS.out _ (J.alloc J.size _))
    (first
      | (go_at_call 45; (with_reducible refine Calls.mono (HI.out _ _) ?_); (first | (have _t := hn2; rintro e v3 ⟨fv, rfl, hn3, b3⟩; obtain ⟨k3, caps3, rfl, hk3⟩ := hn3; have hn3 := hk3; (have J : Below W1.heap.size W1 v3 := by first | exact J.trans (b3.mono J.size) | exact J.drew.trans (b3.mono J.drew.size))) | (have _t := hn1; rintro e v2 ⟨fv, rfl, hn2, b2⟩; obtain ⟨k2, caps2, rfl, hk2⟩ := hn2; have hn2 := hk2; (have J : Below W1.heap.size W1 v2 := by first | exact J.trans (b2.mono J.size) | exact J.drew.trans (b2.mono J.drew.size))) | (rintro e v1 ⟨fv, rfl, hn1, b1⟩; obtain ⟨k1, caps1, rfl, hk1⟩ := hn1; have hn1 := hk1; (have J : Below W1.heap.size W1 v1 := by first | exact J.trans (b1.mono J.size) | exact J.drew.trans (b1.mono J.drew.size)))))
      | (go_at_call 59; (with_reducible refine Calls.mono (HC.out _ ?hw) ?_); (case hw => first | exact J | exact J.drew); (first | (have _t := hn2; rintro e v3 ⟨fv, rfl, hn3, b3⟩; obtain ⟨k3, caps3, rfl, hk3⟩ := hn3; have hn3 := hk3; (have J : Below W1.heap.size W1 v3 := by first | exact J.trans (b3.mono J.size) | exact J.drew.trans (b3.mono J.drew.size))) | (have _t := hn1; rintro e v2 ⟨fv, rfl, hn2, b2⟩; obtain ⟨k2, caps2, rfl, hk2⟩ := hn2; have hn2 := hk2; (have J : Below W1.heap.size W1 v2 := by first | exact J.trans (b2.mono J.size) | exact J.drew.trans (b2.mono J.drew.size))) | (rintro e v1 ⟨fv, rfl, hn1, b1⟩; obtain ⟨k1, caps1, rfl, hk1⟩ := hn1; have hn1 := hk1; (have J : Below W1.heap.size W1 v1 := by first | exact J.trans (b1.mono J.size) | exact J.drew.trans (b1.mono J.drew.size))))))
  all_goals
    go_wp2_with fail
    rw [← HP.out]
    exact ⟨_, rfl, isNd_2 (Blk.new _ _ _) (NeedV.on (w := v1) ⟨_, _, rfl, hk1⟩ (b2.alloc b2.size _)) (NeedV.on (w := v2) ⟨_, _, rfl, hk2⟩ ((Below.refl _ _).alloc (Nat.le_refl _) _)), HH.out.b.trans ((J.alloc J.size _).mono HH.out.b.size)⟩
set_option maxHeartbeats 1000000 in
theorem needs6_any (m : Mdl) (f : Cod) (i : Ins) (av : Value) (cb : Nat) (w : World) (hc : CkV w cb m f) (ho : i.op = 6) : Calls Try.prog 40 #[.pointer (some ⟨cb, 0, none⟩), .agg (insA i av)] w (NeedsPost w m f i) := by
  have HH := Lib.hid (needHd i av hc)
  have HO := Lib.hid ho
  obtain ⟨P, hP⟩ : ∃ P, NeedsPost w m f i = P := ⟨_, rfl⟩
  have HP := Lib.hid hP
  rw [hP]
  clear hc hP
  unfold insA at HH ⊢
  obtain ⟨op, ty, dst, a, b, n, s, args⟩ := i
  simp only at ho HH ⊢
  subst ho
  have HI : Hid (∀ v W, Calls Try.prog 45 #[.int .i64 v] W fun e w' => ∃ fv, e = .returned fv ∧ NeedV w' (OkI m f ⟨6, ty, dst, a, b, n, s, args⟩) fv (fun t => t == v) ∧ Below W.heap.size W w') := Lib.hid fun v W => is_any v W _
  go_enter Try.func40, Try.ntmps40
  go_upto_region 1 with (fail)
  generalize (w.alloc (.cells #[.pointer (some ⟨cb, 0, none⟩)] tCp)).alloc (.cells #[.int .i64 6, .int .i64 ty, .int .i64 dst, .int .i64 a, .int .i64 b, .int .i64 n, .string (str s), av] tIn) = W1 at *
  have p0 : W1.cell? ⟨w.heap.size, 0, none⟩ = some (.pointer (some ⟨cb, 0, none⟩)) := HH.out.p.cell 0
  have pl := HH.out.p.lt
  have q0 : W1.cell? ⟨w.heap.size + 1, 0, none⟩ = some (.int .i64 6) := HH.out.q.cell 0
  have q3 : W1.cell? ⟨w.heap.size + 1, 3, none⟩ = some (.int .i64 a) := HH.out.q.cell 3
  have q4 : W1.cell? ⟨w.heap.size + 1, 4, none⟩ = some (.int .i64 b) := HH.out.q.cell 4
  have q5 : W1.cell? ⟨w.heap.size + 1, 5, none⟩ = some (.int .i64 n) := HH.out.q.cell 5
  have ql := HH.out.q.lt
  go_wp2_with fail
  have HC : Hid (∀ W, Below W1.heap.size W1 W → Calls Try.prog 59 #[.pointer (some ⟨cb, 0, none⟩), .int .i64 n] W fun e w' => ∃ fv, e = .returned fv ∧ NeedV w' (OkI m f ⟨6, ty, dst, a, b, n, s, args⟩) fv (fun t => t == held (gAt m n).ty) ∧ Below W.heap.size W w') := Lib.hid fun W hW => (holdE_any m f n cb W (HH.out.c.on hW)).mono fun e w' ⟨fv, h1, h2, h3⟩ => ⟨fv, h1, h2.imp fun h => h.g (by simp), h3⟩
  have HS : Hid (∀ Wx, Below W1.heap.size W1 Wx → Wx.cell? ⟨w.heap.size, 0, none⟩ = some (.pointer (some ⟨cb, 0, none⟩)) ∧ Wx.cell? ⟨w.heap.size + 1, 3, none⟩ = some (.int .i64 a) ∧ Wx.cell? ⟨w.heap.size + 1, 4, none⟩ = some (.int .i64 b) ∧ Wx.cell? ⟨w.heap.size + 1, 5, none⟩ = some (.int .i64 n) ∧ w.heap.size < Wx.heap.size ∧ w.heap.size + 1 < Wx.heap.size) := Lib.hid fun Wx h => by
    have hz := h.size
    exact ⟨(h.cell (p := ⟨w.heap.size, 0, none⟩) pl).trans p0, (h.cell (p := ⟨w.heap.size + 1, 3, none⟩) ql).trans q3, (h.cell (p := ⟨w.heap.size + 1, 4, none⟩) ql).trans q4, (h.cell (p := ⟨w.heap.size + 1, 5, none⟩) ql).trans q5, by omega, by omega⟩
  have J : Below W1.heap.size W1 W1 := Below.refl _ _
  go_region_held3 (fun Wx => Wx.cell? ⟨w.heap.size, 0, none⟩ = some (.pointer (some ⟨cb, 0, none⟩)) ∧ Wx.cell? ⟨w.heap.size + 1, 3, none⟩ = some (.int .i64 a) ∧ Wx.cell? ⟨w.heap.size + 1, 4, none⟩ = some (.int .i64 b) ∧ Wx.cell? ⟨w.heap.size + 1, 5, none⟩ = some (.int .i64 n) ∧ w.heap.size < Wx.heap.size ∧ w.heap.size + 1 < Wx.heap.size)
    (first | exact ⟨p0, q3, q4, q5, pl, ql⟩ | exact HS.out _ J | exact HS.out _ (J.alloc J.size _))
    (first
      | (go_at_call 45; (with_reducible refine Calls.mono (HI.out _ _) ?_); (first | (have _t := hn2; rintro e v3 ⟨fv, rfl, hn3, b3⟩; obtain ⟨k3, caps3, rfl, hk3⟩ := hn3; have hn3 := hk3; (have J : Below W1.heap.size W1 v3 := by first | exact J.trans (b3.mono J.size) | exact J.drew.trans (b3.mono J.drew.size))) | (have _t := hn1; rintro e v2 ⟨fv, rfl, hn2, b2⟩; obtain ⟨k2, caps2, rfl, hk2⟩ := hn2; have hn2 := hk2; (have J : Below W1.heap.size W1 v2 := by first | exact J.trans (b2.mono J.size) | exact J.drew.trans (b2.mono J.drew.size))) | (rintro e v1 ⟨fv, rfl, hn1, b1⟩; obtain ⟨k1, caps1, rfl, hk1⟩ := hn1; have hn1 := hk1; (have J : Below W1.heap.size W1 v1 := by first | exact J.trans (b1.mono J.size) | exact J.drew.trans (b1.mono J.drew.size)))))
      | (go_at_call 59; (with_reducible refine Calls.mono (HC.out _ ?hw) ?_); (case hw => first | exact J | exact J.drew); (first | (have _t := hn2; rintro e v3 ⟨fv, rfl, hn3, b3⟩; obtain ⟨k3, caps3, rfl, hk3⟩ := hn3; have hn3 := hk3; (have J : Below W1.heap.size W1 v3 := by first | exact J.trans (b3.mono J.size) | exact J.drew.trans (b3.mono J.drew.size))) | (have _t := hn1; rintro e v2 ⟨fv, rfl, hn2, b2⟩; obtain ⟨k2, caps2, rfl, hk2⟩ := hn2; have hn2 := hk2; (have J : Below W1.heap.size W1 v2 := by first | exact J.trans (b2.mono J.size) | exact J.drew.trans (b2.mono J.drew.size))) | (rintro e v1 ⟨fv, rfl, hn1, b1⟩; obtain ⟨k1, caps1, rfl, hk1⟩ := hn1; have hn1 := hk1; (have J : Below W1.heap.size W1 v1 := by first | exact J.trans (b1.mono J.size) | exact J.drew.trans (b1.mono J.drew.size))))))
  all_goals
    go_wp2_with fail
    rw [← HP.out]
    exact ⟨_, rfl, isNd_2 (Blk.new _ _ _) (NeedV.on (w := v1) ⟨_, _, rfl, hk1⟩ (b2.alloc b2.size _)) (NeedV.on (w := v2) ⟨_, _, rfl, hk2⟩ ((Below.refl _ _).alloc (Nat.le_refl _) _)), HH.out.b.trans ((J.alloc J.size _).mono HH.out.b.size)⟩
set_option maxHeartbeats 1000000 in
theorem needs7_any (m : Mdl) (f : Cod) (i : Ins) (av : Value) (cb : Nat) (w : World) (hc : CkV w cb m f) (ho : i.op = 7) : Calls Try.prog 40 #[.pointer (some ⟨cb, 0, none⟩), .agg (insA i av)] w (NeedsPost w m f i) := by
  have HH := Lib.hid (needHd i av hc)
  have HO := Lib.hid ho
  obtain ⟨P, hP⟩ : ∃ P, NeedsPost w m f i = P := ⟨_, rfl⟩
  have HP := Lib.hid hP
  rw [hP]
  clear hc hP
  unfold insA at HH ⊢
  obtain ⟨op, ty, dst, a, b, n, s, args⟩ := i
  simp only at ho HH ⊢
  subst ho
  go_enter Try.func40, Try.ntmps40
  go_upto_region 1 with (fail)
  generalize (w.alloc (.cells #[.pointer (some ⟨cb, 0, none⟩)] tCp)).alloc (.cells #[.int .i64 7, .int .i64 ty, .int .i64 dst, .int .i64 a, .int .i64 b, .int .i64 n, .string (str s), av] tIn) = W1 at *
  have p0 : W1.cell? ⟨w.heap.size, 0, none⟩ = some (.pointer (some ⟨cb, 0, none⟩)) := HH.out.p.cell 0
  have pl := HH.out.p.lt
  have q0 : W1.cell? ⟨w.heap.size + 1, 0, none⟩ = some (.int .i64 7) := HH.out.q.cell 0
  have q2 : W1.cell? ⟨w.heap.size + 1, 2, none⟩ = some (.int .i64 dst) := HH.out.q.cell 2
  have q5 : W1.cell? ⟨w.heap.size + 1, 5, none⟩ = some (.int .i64 n) := HH.out.q.cell 5
  have ql := HH.out.q.lt
  go_wp2_with fail
  have HC : Hid (∀ W, Below W1.heap.size W1 W → Calls Try.prog 60 #[.pointer (some ⟨cb, 0, none⟩), .int .i64 n] W fun e w' => ∃ fv, e = .returned fv ∧ NeedV w' (OkI m f ⟨7, ty, dst, a, b, n, s, args⟩) fv (fun t => t == (gAt m n).ty) ∧ Below W.heap.size W w') := Lib.hid fun W hW => (holdS_any m f n cb W (HH.out.c.on hW)).mono fun e w' ⟨fv, h1, h2, h3⟩ => ⟨fv, h1, h2.imp fun h => h.g (by simp), h3⟩
  have HS : Hid (∀ Wx, Below W1.heap.size W1 Wx → Wx.cell? ⟨w.heap.size, 0, none⟩ = some (.pointer (some ⟨cb, 0, none⟩)) ∧ Wx.cell? ⟨w.heap.size + 1, 2, none⟩ = some (.int .i64 dst) ∧ Wx.cell? ⟨w.heap.size + 1, 5, none⟩ = some (.int .i64 n) ∧ w.heap.size < Wx.heap.size ∧ w.heap.size + 1 < Wx.heap.size) := Lib.hid fun Wx h => by
    have hz := h.size
    exact ⟨(h.cell (p := ⟨w.heap.size, 0, none⟩) pl).trans p0, (h.cell (p := ⟨w.heap.size + 1, 2, none⟩) ql).trans q2, (h.cell (p := ⟨w.heap.size + 1, 5, none⟩) ql).trans q5, by omega, by omega⟩
  have J : Below W1.heap.size W1 W1 := Below.refl _ _
  go_region_held3 (fun Wx => Wx.cell? ⟨w.heap.size, 0, none⟩ = some (.pointer (some ⟨cb, 0, none⟩)) ∧ Wx.cell? ⟨w.heap.size + 1, 2, none⟩ = some (.int .i64 dst) ∧ Wx.cell? ⟨w.heap.size + 1, 5, none⟩ = some (.int .i64 n) ∧ w.heap.size < Wx.heap.size ∧ w.heap.size + 1 < Wx.heap.size)
    (first | exact ⟨p0, q2, q5, pl, ql⟩ | exact HS.out _ J | exact HS.out _ (J.alloc J.size _))
    (first
      | (go_at_call 60; (with_reducible refine Calls.mono (HC.out _ ?hw) ?_); (case hw => first | exact J | exact J.drew); (first | (have _t := hn2; rintro e v3 ⟨fv, rfl, hn3, b3⟩; obtain ⟨k3, caps3, rfl, hk3⟩ := hn3; have hn3 := hk3; (have J : Below W1.heap.size W1 v3 := by first | exact J.trans (b3.mono J.size) | exact J.drew.trans (b3.mono J.drew.size))) | (have _t := hn1; rintro e v2 ⟨fv, rfl, hn2, b2⟩; obtain ⟨k2, caps2, rfl, hk2⟩ := hn2; have hn2 := hk2; (have J : Below W1.heap.size W1 v2 := by first | exact J.trans (b2.mono J.size) | exact J.drew.trans (b2.mono J.drew.size))) | (rintro e v1 ⟨fv, rfl, hn1, b1⟩; obtain ⟨k1, caps1, rfl, hk1⟩ := hn1; have hn1 := hk1; (have J : Below W1.heap.size W1 v1 := by first | exact J.trans (b1.mono J.size) | exact J.drew.trans (b1.mono J.drew.size))))))
  all_goals
    go_wp2_with fail
    rw [← HP.out]
    exact ⟨_, rfl, isNd_1 (Blk.new _ _ _) (NeedV.on (w := v1) ⟨_, _, rfl, hk1⟩ ((Below.refl _ _).alloc (Nat.le_refl _) _)), HH.out.b.trans ((J.alloc J.size _).mono HH.out.b.size)⟩
set_option maxHeartbeats 1000000 in
theorem needs8_any (m : Mdl) (f : Cod) (i : Ins) (av : Value) (cb : Nat) (w : World) (hc : CkV w cb m f) (ho : i.op = 8) : Calls Try.prog 40 #[.pointer (some ⟨cb, 0, none⟩), .agg (insA i av)] w (NeedsPost w m f i) := by
  have HH := Lib.hid (needHd i av hc)
  have HO := Lib.hid ho
  obtain ⟨P, hP⟩ : ∃ P, NeedsPost w m f i = P := ⟨_, rfl⟩
  have HP := Lib.hid hP
  rw [hP]
  clear hc hP
  unfold insA at HH ⊢
  obtain ⟨op, ty, dst, a, b, n, s, args⟩ := i
  simp only at ho HH ⊢
  subst ho
  go_enter Try.func40, Try.ntmps40
  go_upto_region 1 with (fail)
  generalize (w.alloc (.cells #[.pointer (some ⟨cb, 0, none⟩)] tCp)).alloc (.cells #[.int .i64 8, .int .i64 ty, .int .i64 dst, .int .i64 a, .int .i64 b, .int .i64 n, .string (str s), av] tIn) = W1 at *
  have p0 : W1.cell? ⟨w.heap.size, 0, none⟩ = some (.pointer (some ⟨cb, 0, none⟩)) := HH.out.p.cell 0
  have pl := HH.out.p.lt
  have q0 : W1.cell? ⟨w.heap.size + 1, 0, none⟩ = some (.int .i64 8) := HH.out.q.cell 0
  have q3 : W1.cell? ⟨w.heap.size + 1, 3, none⟩ = some (.int .i64 a) := HH.out.q.cell 3
  have q5 : W1.cell? ⟨w.heap.size + 1, 5, none⟩ = some (.int .i64 n) := HH.out.q.cell 5
  have ql := HH.out.q.lt
  go_wp2_with fail
  have HC : Hid (∀ W, Below W1.heap.size W1 W → Calls Try.prog 60 #[.pointer (some ⟨cb, 0, none⟩), .int .i64 n] W fun e w' => ∃ fv, e = .returned fv ∧ NeedV w' (OkI m f ⟨8, ty, dst, a, b, n, s, args⟩) fv (fun t => t == (gAt m n).ty) ∧ Below W.heap.size W w') := Lib.hid fun W hW => (holdS_any m f n cb W (HH.out.c.on hW)).mono fun e w' ⟨fv, h1, h2, h3⟩ => ⟨fv, h1, h2.imp fun h => h.g (by simp), h3⟩
  have HS : Hid (∀ Wx, Below W1.heap.size W1 Wx → Wx.cell? ⟨w.heap.size, 0, none⟩ = some (.pointer (some ⟨cb, 0, none⟩)) ∧ Wx.cell? ⟨w.heap.size + 1, 3, none⟩ = some (.int .i64 a) ∧ Wx.cell? ⟨w.heap.size + 1, 5, none⟩ = some (.int .i64 n) ∧ w.heap.size < Wx.heap.size ∧ w.heap.size + 1 < Wx.heap.size) := Lib.hid fun Wx h => by
    have hz := h.size
    exact ⟨(h.cell (p := ⟨w.heap.size, 0, none⟩) pl).trans p0, (h.cell (p := ⟨w.heap.size + 1, 3, none⟩) ql).trans q3, (h.cell (p := ⟨w.heap.size + 1, 5, none⟩) ql).trans q5, by omega, by omega⟩
  have J : Below W1.heap.size W1 W1 := Below.refl _ _
  go_region_held3 (fun Wx => Wx.cell? ⟨w.heap.size, 0, none⟩ = some (.pointer (some ⟨cb, 0, none⟩)) ∧ Wx.cell? ⟨w.heap.size + 1, 3, none⟩ = some (.int .i64 a) ∧ Wx.cell? ⟨w.heap.size + 1, 5, none⟩ = some (.int .i64 n) ∧ w.heap.size < Wx.heap.size ∧ w.heap.size + 1 < Wx.heap.size)
    (first | exact ⟨p0, q3, q5, pl, ql⟩ | exact HS.out _ J | exact HS.out _ (J.alloc J.size _))
    (first
      | (go_at_call 60; (with_reducible refine Calls.mono (HC.out _ ?hw) ?_); (case hw => first | exact J | exact J.drew); (first | (have _t := hn2; rintro e v3 ⟨fv, rfl, hn3, b3⟩; obtain ⟨k3, caps3, rfl, hk3⟩ := hn3; have hn3 := hk3; (have J : Below W1.heap.size W1 v3 := by first | exact J.trans (b3.mono J.size) | exact J.drew.trans (b3.mono J.drew.size))) | (have _t := hn1; rintro e v2 ⟨fv, rfl, hn2, b2⟩; obtain ⟨k2, caps2, rfl, hk2⟩ := hn2; have hn2 := hk2; (have J : Below W1.heap.size W1 v2 := by first | exact J.trans (b2.mono J.size) | exact J.drew.trans (b2.mono J.drew.size))) | (rintro e v1 ⟨fv, rfl, hn1, b1⟩; obtain ⟨k1, caps1, rfl, hk1⟩ := hn1; have hn1 := hk1; (have J : Below W1.heap.size W1 v1 := by first | exact J.trans (b1.mono J.size) | exact J.drew.trans (b1.mono J.drew.size))))))
  all_goals
    go_wp2_with fail
    rw [← HP.out]
    exact ⟨_, rfl, isNd_1 (Blk.new _ _ _) (NeedV.on (w := v1) ⟨_, _, rfl, hk1⟩ ((Below.refl _ _).alloc (Nat.le_refl _) _)), HH.out.b.trans ((J.alloc J.size _).mono HH.out.b.size)⟩
set_option maxHeartbeats 1000000 in
theorem needs10_any (m : Mdl) (f : Cod) (i : Ins) (av : Value) (cb : Nat) (w : World) (hc : CkV w cb m f) (ho : i.op = 10) : Calls Try.prog 40 #[.pointer (some ⟨cb, 0, none⟩), .agg (insA i av)] w (NeedsPost w m f i) := by
  have HH := Lib.hid (needHd i av hc)
  have HO := Lib.hid ho
  obtain ⟨P, hP⟩ : ∃ P, NeedsPost w m f i = P := ⟨_, rfl⟩
  have HP := Lib.hid hP
  rw [hP]
  clear hc hP
  unfold insA at HH ⊢
  obtain ⟨op, ty, dst, a, b, n, s, args⟩ := i
  simp only at ho HH ⊢
  subst ho
  have HI : Hid (∀ v W, Calls Try.prog 45 #[.int .i64 v] W fun e w' => ∃ fv, e = .returned fv ∧ NeedV w' (OkI m f ⟨10, ty, dst, a, b, n, s, args⟩) fv (fun t => t == v) ∧ Below W.heap.size W w') := Lib.hid fun v W => is_any v W _
  go_enter Try.func40, Try.ntmps40
  go_upto_region 1 with (fail)
  generalize (w.alloc (.cells #[.pointer (some ⟨cb, 0, none⟩)] tCp)).alloc (.cells #[.int .i64 10, .int .i64 ty, .int .i64 dst, .int .i64 a, .int .i64 b, .int .i64 n, .string (str s), av] tIn) = W1 at *
  have q0 : W1.cell? ⟨w.heap.size + 1, 0, none⟩ = some (.int .i64 10) := HH.out.q.cell 0
  have q2 : W1.cell? ⟨w.heap.size + 1, 2, none⟩ = some (.int .i64 dst) := HH.out.q.cell 2
  have ql := HH.out.q.lt
  go_wp2_with fail
  have HS : Hid (∀ Wx, Below W1.heap.size W1 Wx → Wx.cell? ⟨w.heap.size + 1, 2, none⟩ = some (.int .i64 dst) ∧ w.heap.size + 1 < Wx.heap.size) := Lib.hid fun Wx h => by
    have hz := h.size
    exact ⟨(h.cell (p := ⟨w.heap.size + 1, 2, none⟩) ql).trans q2, by omega⟩
  have J : Below W1.heap.size W1 W1 := Below.refl _ _
  go_region_held3 (fun Wx => Wx.cell? ⟨w.heap.size + 1, 2, none⟩ = some (.int .i64 dst) ∧ w.heap.size + 1 < Wx.heap.size)
    (first | exact ⟨q2, ql⟩ | exact HS.out _ J | exact HS.out _ (J.alloc J.size _))
    (first
      | (go_at_call 45; (with_reducible refine Calls.mono (HI.out _ _) ?_); (first | (have _t := hn2; rintro e v3 ⟨fv, rfl, hn3, b3⟩; obtain ⟨k3, caps3, rfl, hk3⟩ := hn3; have hn3 := hk3; (have J : Below W1.heap.size W1 v3 := by first | exact J.trans (b3.mono J.size) | exact J.drew.trans (b3.mono J.drew.size))) | (have _t := hn1; rintro e v2 ⟨fv, rfl, hn2, b2⟩; obtain ⟨k2, caps2, rfl, hk2⟩ := hn2; have hn2 := hk2; (have J : Below W1.heap.size W1 v2 := by first | exact J.trans (b2.mono J.size) | exact J.drew.trans (b2.mono J.drew.size))) | (rintro e v1 ⟨fv, rfl, hn1, b1⟩; obtain ⟨k1, caps1, rfl, hk1⟩ := hn1; have hn1 := hk1; (have J : Below W1.heap.size W1 v1 := by first | exact J.trans (b1.mono J.size) | exact J.drew.trans (b1.mono J.drew.size))))))
  all_goals
    go_wp2_with fail
    rw [← HP.out]
    exact ⟨_, rfl, isNd_1 (Blk.new _ _ _) (NeedV.on (w := v1) ⟨_, _, rfl, hk1⟩ ((Below.refl _ _).alloc (Nat.le_refl _) _)), HH.out.b.trans ((J.alloc J.size _).mono HH.out.b.size)⟩
set_option maxHeartbeats 1000000 in
theorem needs11_any (m : Mdl) (f : Cod) (i : Ins) (av : Value) (cb : Nat) (w : World) (hc : CkV w cb m f) (ho : i.op = 11) : Calls Try.prog 40 #[.pointer (some ⟨cb, 0, none⟩), .agg (insA i av)] w (NeedsPost w m f i) := by
  have HH := Lib.hid (needHd i av hc)
  have HO := Lib.hid ho
  obtain ⟨P, hP⟩ : ∃ P, NeedsPost w m f i = P := ⟨_, rfl⟩
  have HP := Lib.hid hP
  rw [hP]
  clear hc hP
  unfold insA at HH ⊢
  obtain ⟨op, ty, dst, a, b, n, s, args⟩ := i
  simp only at ho HH ⊢
  subst ho
  have HI : Hid (∀ v W, Calls Try.prog 45 #[.int .i64 v] W fun e w' => ∃ fv, e = .returned fv ∧ NeedV w' (OkI m f ⟨11, ty, dst, a, b, n, s, args⟩) fv (fun t => t == v) ∧ Below W.heap.size W w') := Lib.hid fun v W => is_any v W _
  go_enter Try.func40, Try.ntmps40
  go_upto_region 1 with (fail)
  generalize (w.alloc (.cells #[.pointer (some ⟨cb, 0, none⟩)] tCp)).alloc (.cells #[.int .i64 11, .int .i64 ty, .int .i64 dst, .int .i64 a, .int .i64 b, .int .i64 n, .string (str s), av] tIn) = W1 at *
  have q0 : W1.cell? ⟨w.heap.size + 1, 0, none⟩ = some (.int .i64 11) := HH.out.q.cell 0
  have q3 : W1.cell? ⟨w.heap.size + 1, 3, none⟩ = some (.int .i64 a) := HH.out.q.cell 3
  have ql := HH.out.q.lt
  go_wp2_with fail
  have HS : Hid (∀ Wx, Below W1.heap.size W1 Wx → Wx.cell? ⟨w.heap.size + 1, 3, none⟩ = some (.int .i64 a) ∧ w.heap.size + 1 < Wx.heap.size) := Lib.hid fun Wx h => by
    have hz := h.size
    exact ⟨(h.cell (p := ⟨w.heap.size + 1, 3, none⟩) ql).trans q3, by omega⟩
  have J : Below W1.heap.size W1 W1 := Below.refl _ _
  go_region_held3 (fun Wx => Wx.cell? ⟨w.heap.size + 1, 3, none⟩ = some (.int .i64 a) ∧ w.heap.size + 1 < Wx.heap.size)
    (first | exact ⟨q3, ql⟩ | exact HS.out _ J | exact HS.out _ (J.alloc J.size _))
    (first
      | (go_at_call 45; (with_reducible refine Calls.mono (HI.out _ _) ?_); (first | (have _t := hn2; rintro e v3 ⟨fv, rfl, hn3, b3⟩; obtain ⟨k3, caps3, rfl, hk3⟩ := hn3; have hn3 := hk3; (have J : Below W1.heap.size W1 v3 := by first | exact J.trans (b3.mono J.size) | exact J.drew.trans (b3.mono J.drew.size))) | (have _t := hn1; rintro e v2 ⟨fv, rfl, hn2, b2⟩; obtain ⟨k2, caps2, rfl, hk2⟩ := hn2; have hn2 := hk2; (have J : Below W1.heap.size W1 v2 := by first | exact J.trans (b2.mono J.size) | exact J.drew.trans (b2.mono J.drew.size))) | (rintro e v1 ⟨fv, rfl, hn1, b1⟩; obtain ⟨k1, caps1, rfl, hk1⟩ := hn1; have hn1 := hk1; (have J : Below W1.heap.size W1 v1 := by first | exact J.trans (b1.mono J.size) | exact J.drew.trans (b1.mono J.drew.size))))))
  all_goals
    go_wp2_with fail
    rw [← HP.out]
    exact ⟨_, rfl, isNd_1 (Blk.new _ _ _) (NeedV.on (w := v1) ⟨_, _, rfl, hk1⟩ ((Below.refl _ _).alloc (Nat.le_refl _) _)), HH.out.b.trans ((J.alloc J.size _).mono HH.out.b.size)⟩
set_option maxHeartbeats 1000000 in
theorem needs1_any (m : Mdl) (f : Cod) (i : Ins) (av : Value) (cb : Nat) (w : World) (hc : CkV w cb m f) (ho : i.op = 1) : Calls Try.prog 40 #[.pointer (some ⟨cb, 0, none⟩), .agg (insA i av)] w (NeedsPost w m f i) := by
  have HH := Lib.hid (needHd i av hc)
  have HO := Lib.hid ho
  obtain ⟨P, hP⟩ : ∃ P, NeedsPost w m f i = P := ⟨_, rfl⟩
  have HP := Lib.hid hP
  rw [hP]
  clear hc hP
  unfold insA at HH ⊢
  obtain ⟨op, ty, dst, a, b, n, s, args⟩ := i
  simp only at ho HH ⊢
  subst ho
  go_enter Try.func40, Try.ntmps40
  go_upto_region 1 with (fail)
  generalize (w.alloc (.cells #[.pointer (some ⟨cb, 0, none⟩)] tCp)).alloc (.cells #[.int .i64 1, .int .i64 ty, .int .i64 dst, .int .i64 a, .int .i64 b, .int .i64 n, .string (str s), av] tIn) = W1 at *
  have q0 : W1.cell? ⟨w.heap.size + 1, 0, none⟩ = some (.int .i64 1) := HH.out.q.cell 0
  have q2 : W1.cell? ⟨w.heap.size + 1, 2, none⟩ = some (.int .i64 dst) := HH.out.q.cell 2
  have q3 : W1.cell? ⟨w.heap.size + 1, 3, none⟩ = some (.int .i64 a) := HH.out.q.cell 3
  have ql := HH.out.q.lt
  go_wp2_with fail
  first
    | go_ret
    | skip
  rw [← HP.out]
  exact ⟨_, rfl, isNd_1 (Blk.new _ _ _) (need_isV _ _), HH.out.b.trans (((Below.refl _ _).alloc (Nat.le_refl _) _).mono HH.out.b.size)⟩
set_option maxHeartbeats 1000000 in
theorem needs2_any (m : Mdl) (f : Cod) (i : Ins) (av : Value) (cb : Nat) (w : World) (hc : CkV w cb m f) (ho : i.op = 2) : Calls Try.prog 40 #[.pointer (some ⟨cb, 0, none⟩), .agg (insA i av)] w (NeedsPost w m f i) := by
  have HH := Lib.hid (needHd i av hc)
  have HO := Lib.hid ho
  obtain ⟨P, hP⟩ : ∃ P, NeedsPost w m f i = P := ⟨_, rfl⟩
  have HP := Lib.hid hP
  rw [hP]
  clear hc hP
  unfold insA at HH ⊢
  obtain ⟨op, ty, dst, a, b, n, s, args⟩ := i
  simp only at ho HH ⊢
  subst ho
  go_enter Try.func40, Try.ntmps40
  go_upto_region 1 with (fail)
  generalize (w.alloc (.cells #[.pointer (some ⟨cb, 0, none⟩)] tCp)).alloc (.cells #[.int .i64 2, .int .i64 ty, .int .i64 dst, .int .i64 a, .int .i64 b, .int .i64 n, .string (str s), av] tIn) = W1 at *
  have q0 : W1.cell? ⟨w.heap.size + 1, 0, none⟩ = some (.int .i64 2) := HH.out.q.cell 0
  have q2 : W1.cell? ⟨w.heap.size + 1, 2, none⟩ = some (.int .i64 dst) := HH.out.q.cell 2
  have q3 : W1.cell? ⟨w.heap.size + 1, 3, none⟩ = some (.int .i64 a) := HH.out.q.cell 3
  have ql := HH.out.q.lt
  go_wp2_with fail
  first
    | go_ret
    | skip
  rw [← HP.out]
  exact ⟨_, rfl, isNd_2 (Blk.new _ _ _) (need_isV _ _) (((need_copy _ m f ⟨2, ty, dst, a, b, n, s, args⟩ av cb _ _ HH.out.c HH.out.p HH.out.q).imp fun h => h.a (by simp)).on ((Below.refl _ _).alloc (Nat.le_refl _) _)), HH.out.b.trans (((Below.refl _ _).alloc (Nat.le_refl _) _).mono HH.out.b.size)⟩

end Go.Proofs.Ytjmlpbnejcfnhaa
/-! Ive -/
namespace Go.Proofs.Ytjmlpbnejcfnhaa
open Go Go.RowKit
set_option linter.unusedVariables false
set_option linter.unusedSimpArgs false

theorem nInf : (Try.prog.info? tNd).map (fun i => (i.zero, i.size, i.bytes)) = some (some (.agg #[.int .i64 0, .nilFunc]), 2, 16) := by kernel_rfl
theorem tNdI : tNd ≠ tI1 := by decide
/-- The closure of the k-th argument. -/
def clo1 (p q b : Nat) : Value := .func (.func 72) #[] #[.pointer (some ⟨p, 0, none⟩), .pointer (some ⟨q, 0, none⟩), .pointer (some ⟨b, 0, none⟩)]
def clo2 (p q : Nat) : Value := .func (.func 73) #[] #[.pointer (some ⟨p, 0, none⟩), .pointer (some ⟨q, 0, none⟩)]
def cnC (p q : Nat) (l : List (Int × Nat)) : List Value := l.flatMap fun x => [.int .i64 x.1, clo1 p q x.2]
theorem cnC_snoc (p q : Nat) (l : List (Int × Nat)) (x : Int × Nat) : cnC p q (l ++ [x]) = cnC p q l ++ [.int .i64 x.1, clo1 p q x.2] := by simp [cnC]
theorem cnC_len (p q : Nat) (l : List (Int × Nat)) : (cnC p q l).length = l.length * 2 := by
  induction l with
  | nil => rfl
  | cons x l ih => simp only [cnC, List.flatMap_cons, List.length_append, List.length_cons, List.length_nil] at *; omega
theorem cnC_at (p q : Nat) (l : List (Int × Nat)) (k : Nat) (x : Int × Nat) (h : l[k]? = some x) : (cnC p q l)[k * 2]? = some (.int .i64 x.1) ∧ (cnC p q l)[k * 2 + 1]? = some (clo1 p q x.2) := by
  induction l generalizing k with
  | nil => simp at h
  | cons a l ih =>
    have e : cnC p q (a :: l) = [.int .i64 a.1, clo1 p q a.2] ++ cnC p q l := by simp [cnC]
    rw [e]
    cases k with
    | zero => simp at h; subst h; exact ⟨rfl, rfl⟩
    | succ k =>
      simp at h
      obtain ⟨h1, h2⟩ := ih k h
      constructor
      · rw [List.getElem?_append_right (by simp; omega), show (k + 1) * 2 - [Value.int .i64 a.1, clo1 p q a.2].length = k * 2 by simp; omega]; exact h1
      · rw [List.getElem?_append_right (by simp; omega), show (k + 1) * 2 + 1 - [Value.int .i64 a.1, clo1 p q a.2].length = k * 2 + 1 by simp; omega]; exact h2
/-- The boxes of the arguments' places. -/
def Bxs (W : World) (B : Nat) (l : List (Int × Nat)) : Prop := ∀ (k : Nat) (x : Int × Nat), l[k]? = some x → B ≤ x.2 ∧ Blk W x.2 tI1 #[.int .i64 k]
theorem Bxs.kept {W W' : World} {B G : Nat} {l : List (Int × Nat)} (h : Bxs W B l) (hG : ∃ c, W.heap[G]? = some (.cells c tNd (0, 0))) (hg : W.grownBy W' (some G)) : Bxs W' B l := fun k x hx => by
  obtain ⟨h1, h2⟩ := h k x hx
  obtain ⟨c, hc⟩ := hG
  refine ⟨h1, h2.kept hg fun e => ?_⟩
  simp only [Option.some.injEq] at e
  have := (show W.heap[x.2]? = _ from h2).symm.trans (e ▸ hc)
  simp at this
  exact absurd this.2 (by decide)
theorem row_at {W : World} {base G n cap : Nat} {cs : List Value} (h : W.ownsRow base tNd 2 (.slice (some ⟨G, 0, none⟩) n cap) n cs) : (∃ c, W.heap[G]? = some (.cells c tNd (0, 0))) ∧ G < W.heap.size ∧ n ≤ cap ∧ cap ≤ maxLen ∧ ∀ j y, cs[j]? = some y → W.cell? ⟨G, 0 + j, none⟩ = some y := by
  rcases h.2 with ⟨hv, h0⟩ | ⟨g', cap', cur, hv, _, hb, hnc, hcm, hsz, hcur⟩
  · cases hv
  · cases hv
    refine ⟨⟨_, hb⟩, (Array.getElem?_eq_some_iff.1 hb).1, hnc, hcm, fun j y hy => ?_⟩
    rw [cell_of_row W G _ cur tNd (0, 0) hb, Nat.zero_add]
    rw [← hcur] at hy
    rw [List.getElem?_take] at hy
    split at hy
    · simpa using hy
    · cases hy

section
variable (p q : Nat)
/-- What the loop over the arguments has made. -/
structure CnR (W1 W : World) (G cap j : Nat) (args : List Int) (l : List (Int × Nat)) : Prop where
  lj : l.length = j
  as_ : l.map (·.1) = args.take j
  row : W.ownsRow W1.heap.size tNd 2 (.slice (some ⟨G, 0, none⟩) j cap) j (cnC p q l)
  bx : Bxs W W1.heap.size l
  low : Below W1.heap.size W1 W
end
theorem below_nn {w w' : World} (h : w.grownBy w' none) : Below w.heap.size w w' := ⟨h.os, h.tape, h.output, h.size, fun k hk => h.block k hk (by simp)⟩
theorem grown_low {W1 W W' : World} {G : Nat} (h : Below W1.heap.size W1 W) (hg : W.grownBy W' (some G)) (hG : W1.heap.size ≤ G) : Below W1.heap.size W1 W' :=
  h.trans ⟨hg.os, hg.tape, hg.output, hg.size, fun k hk => hg.block k (by have := h.size; omega) (fun e => by simp only [Option.some.injEq] at e; omega)⟩
theorem isNd_row {W : World} {base G n cap : Nat} {cs : List Value} {ok : Prop} {L : List (Int × (Int → Bool))} (h : W.ownsRow base tNd 2 (.slice (some ⟨G, 0, none⟩) n cap) n cs) (hL : L.length = n)
    (hx : ∀ (k : Nat) (x : Int × (Int → Bool)), L[k]? = some x → ∃ fv, cs[k * 2]? = some (.int .i64 x.1) ∧ cs[k * 2 + 1]? = some fv ∧ NeedV W ok fv x.2) : IsNd W ok (.slice (some ⟨G, 0, none⟩) n cap) L := by
  obtain ⟨-, h1, h2, h3, h4⟩ := row_at h
  refine ⟨_, cap, by rw [hL], by omega, h3, fun h => by (cases h), .inr ⟨G, 0, rfl, h1, fun k x hk => ?_⟩⟩
  obtain ⟨fv, e1, e2, e3⟩ := hx k x hk
  exact ⟨by have := h4 _ _ e1; simpa using this, fv, by have := h4 _ _ e2; simpa [Nat.add_assoc] using this, e3⟩
theorem cn_nth {W1 W : World} {G cap n cb : Nat} {args : List Int} {l : List (Int × Nat)} {w : World} {m : Mdl} {f : Cod} {i : Ins} {av : Value} (h : CnR w.heap.size (w.heap.size + 1) W1 W G cap n args l) (hn : args.length = n) (hi : i.args = args) (ho : i.op = 9) (hh : NeedHd w W1 cb m f i av)
    {W' : World} (hb : Below W1.heap.size W1 W') (hx : Bxs W' W1.heap.size l) (k : Nat) (x : Int × (Int → Bool)) (hk : (args.mapIdx fun k a => (a, fun t => t == at0 (fAt m i.n).regs k))[k]? = some x) :
    ∃ fv, (cnC w.heap.size (w.heap.size + 1) l)[k * 2]? = some (.int .i64 x.1) ∧ (cnC w.heap.size (w.heap.size + 1) l)[k * 2 + 1]? = some fv ∧ NeedV W' (OkI m f i) fv x.2 := by
  rw [List.getElem?_mapIdx] at hk
  cases ha : args[k]? with
  | none => rw [ha] at hk; cases hk
  | some a =>
    rw [ha] at hk
    simp only [Option.map_some, Option.some.injEq] at hk
    subst hk
    have hlt : k < args.length := (List.getElem?_eq_some_iff.1 ha).1
    have hl : k < l.length := by rw [h.lj]; omega
    obtain ⟨b, hb2⟩ : ∃ b, l[k]? = some (a, b) := by
      have := congrArg (·[k]?) h.as_
      simp only [List.getElem?_map, List.getElem?_take, if_pos (show k < n by omega), ha, List.getElem?_eq_getElem hl, Option.map_some, Option.some.injEq] at this
      exact ⟨l[k].2, by rw [List.getElem?_eq_getElem hl, ← this]⟩
    obtain ⟨e1, e2⟩ := cnC_at w.heap.size (w.heap.size + 1) l k _ hb2
    have hbx := (hx k _ hb2).2
    refine ⟨_, e1, e2, (need_call1 W' m f i av cb _ _ _ k (hh.c.on hb) (hh.p.on hb) (hh.q.on hb) hbx).imp fun ho2 => ?_⟩
    have h3 := ho2.c ho
    exact ⟨h3.1, by rw [hi] at h3; omega⟩
set_option maxHeartbeats 2000000 in
set_option maxRecDepth 100000 in
theorem callN_any (m : Mdl) (f : Cod) (i : Ins) (av : Value) (cb : Nat) (w : World) (hc : CkV w cb m f) (ha : IsI w w.heap.size av i.args) (hal : i.args.length ≤ 17592186043904) (ho : i.op = 9) : Calls Try.prog 61 #[.pointer (some ⟨cb, 0, none⟩), .agg (insA i av)] w (NeedsPost w m f i) := by
  have HH := Lib.hid (needHd i av hc)
  have HO := Lib.hid ho
  obtain ⟨P, hP⟩ : ∃ P, NeedsPost w m f i = P := ⟨_, rfl⟩
  have HP := Lib.hid hP
  rw [hP]
  have HA := Lib.hid ha
  obtain ⟨A0, c0, hav, hlc, hcm, hA0⟩ := ha.sl
  obtain ⟨n, hn⟩ : ∃ n, i.args.length = n := ⟨_, rfl⟩
  rw [hn] at hav hlc hal
  have HN := Lib.hid hn
  clear hc hP ha hn
  unfold insA at HH ⊢
  obtain ⟨op, ty, dst, a, b, nn, s, args⟩ := i
  simp only at ho HH HA HN ⊢
  subst ho
  subst hav
  have hs1 : IntKind.i64.wrap ((n : Int) + 1) = ((n + 1 : Nat) : Int) := by rw [IntWalk.i64_in _ (by omega)]; omega
  obtain ⟨i0, hi, hz0, hz1, hz2⟩ := info_parts nInf
  go_enter Try.func61, Try.ntmps61
  go_upto_region 1 with (fail)
  generalize (w.alloc (.cells #[.pointer (some ⟨cb, 0, none⟩)] tCp)).alloc (.cells #[.int .i64 9, .int .i64 ty, .int .i64 dst, .int .i64 a, .int .i64 b, .int .i64 nn, .string (str s), .slice A0 n c0] tIn) = W1 at *
  have q2 : W1.cell? ⟨w.heap.size + 1, 2, none⟩ = some (.int .i64 dst) := HH.out.q.cell 2
  have q7 : W1.cell? ⟨w.heap.size + 1, 7, none⟩ = some (.slice A0 n c0) := HH.out.q.cell 7
  have ql := HH.out.q.lt
  have q7' := q7
  have hb1 := HH.out.b
  have HA1 := Lib.hid (HA.out.below hb1)
  go_wp2_with (refine wpList_make_own _ rfl _ _ _ rfl W1.heap.size tNd i0 _ 2 Try.underlying84 hi hz0 hz1 _ _ _ (n + 1) rfl rfl (by first | rfl | omega) (by rw [hz2]; omega) (by unfold maxLen; omega) (Nat.le_refl _) ?_; intro w1 hown hgrow; have hl1 : Below W1.heap.size W1 w1 := below_nn hgrow; have q7 : w1.cell? ⟨w.heap.size + 1, 7, none⟩ = some (.slice A0 n c0) := (hl1.cell (p := ⟨w.heap.size + 1, 7, none⟩) ql).trans q7; have ql' : w.heap.size + 1 < w1.heap.size := by have := hl1.size; omega)
  have HQ2 := Lib.hid q2
  have HQ7 := Lib.hid q7'
  have HQL := Lib.hid ql
  clear q2 q7 ql' q7'
  obtain ⟨G, hG⟩ : ∃ G, W1.heap.size = G := ⟨_, rfl⟩
  have HG := Lib.hid hG
  have HR0 : Hid (CnR w.heap.size (w.heap.size + 1) W1 w1 G (n + 1) 0 args []) := Lib.hid ⟨rfl, rfl, by rw [← hG]; exact hown, fun k x hx => by simp at hx, hl1⟩
  rw [hG]
  clear hG hown hgrow hl1
  go_loopw [5, 16] (fun v5 v wr => ∃ j l, j ≤ n ∧ v = .int .i64 (j : Nat) ∧ v5 = .slice (some ⟨G, 0, none⟩) j (n + 1) ∧ CnR w.heap.size (w.heap.size + 1) W1 wr G (n + 1) j args l) (fun _ v _ => n - (intOf v).toNat)
  case atStart => exact ⟨0, [], by omega, rfl, rfl, HR0.out⟩
  case round =>
    obtain ⟨j, l, hj, rfl, rfl, hr⟩ := hrel
    have HR := Lib.hid hr
    by_cases hlt : j < n
    · have hjl : j < args.length := by rw [HN.out]; exact hlt
      obtain ⟨g, o, c9, hv9, hg, -, -, hx, hxw⟩ := (HA1.out.below (hr.low.mono HH.out.b.size)).at hjl
      simp only [Value.slice.injEq] at hv9
      obtain ⟨rfl, -, -⟩ := hv9
      have hx' : wr.cell? ⟨g, o + j, none⟩ = some (.int .i64 args[j]) := by simpa using hx
      have hlt' : (j : Int) < n := by omega
      have hs2 : IntKind.i64.wrap ((j : Int) + 1) = ((j + 1 : Nat) : Int) := by rw [IntWalk.i64_in _ (by omega)]; omega
      have htk := List.take_succ_eq_append_getElem hjl
      have HTK := Lib.hid htk
      have hgl : g < wr.heap.size := by have := hr.low.size; have := HG.out; have := HH.out.b.size; omega
      have q7 : wr.cell? ⟨w.heap.size + 1, 7, none⟩ = some (.slice (some ⟨g, o, none⟩) n c0) := by have := HQ7.out; rw [← (hr.low.cell (p := ⟨w.heap.size + 1, 7, none⟩) HQL.out)] at this; exact this
      generalize args[j] = aj at *
      have HNW : Hid (∀ (k : Nat) u, ([.int .i64 aj, clo1 w.heap.size (w.heap.size + 1) wr.heap.size] : List Value)[k]? = some u → ((wr.alloc (.cells #[.int .i64 (j : Nat)] tI1)).alloc (.cells #[.int .i64 aj, clo1 w.heap.size (w.heap.size + 1) wr.heap.size] tNd)).cell? ((⟨wr.heap.size + 1, 0, none⟩ : Addr).add k) = some u) := by
        refine Lib.hid fun k u hu => ?_
        have h3 := Blk.new (wr.alloc (.cells #[.int .i64 (j : Nat)] tI1)) tNd #[.int .i64 aj, clo1 w.heap.size (w.heap.size + 1) wr.heap.size]
        rw [show (wr.alloc (.cells #[.int .i64 (j : Nat)] tI1)).heap.size = wr.heap.size + 1 by simp] at h3
        rw [Addr.add_mid, Nat.zero_add, h3.cell]
        simpa using hu
      have HBX : Hid (Bxs ((wr.alloc (.cells #[.int .i64 (j : Nat)] tI1)).alloc (.cells #[.int .i64 aj, clo1 w.heap.size (w.heap.size + 1) wr.heap.size] tNd)) W1.heap.size (l ++ [(aj, wr.heap.size)])) := by
        refine Lib.hid fun k x hxx => ?_
        by_cases hk : k < l.length
        · rw [List.getElem?_append_left hk] at hxx
          obtain ⟨h1, h2⟩ := hr.bx k x hxx
          exact ⟨h1, (h2.alloc _).alloc _⟩
        · rw [List.getElem?_append_right (by omega)] at hxx
          have hk2 : k = j := by
            have := (List.getElem?_eq_some_iff.1 hxx).1
            have := hr.lj
            simp at *
            omega
          subst hk2
          rw [show k - l.length = 0 by have := hr.lj; omega] at hxx
          simp at hxx
          subst hxx
          exact ⟨hr.low.size, (Blk.new wr tI1 _).alloc _⟩
      have hrow : ((wr.alloc (.cells #[.int .i64 (j : Nat)] tI1)).alloc (.cells #[.int .i64 aj, clo1 w.heap.size (w.heap.size + 1) wr.heap.size] tNd)).ownsRow W1.heap.size tNd 2 (.slice (some ⟨G, 0, none⟩) j (n + 1)) j (cnC w.heap.size (w.heap.size + 1) l) := (hr.row.alloc _).alloc _
      have HROW := Lib.hid hrow
      have HLOW : Hid (Below W1.heap.size W1 ((wr.alloc (.cells #[.int .i64 (j : Nat)] tI1)).alloc (.cells #[.int .i64 aj, clo1 w.heap.size (w.heap.size + 1) wr.heap.size] tNd))) := Lib.hid ((hr.low.alloc hr.low.size _).alloc (by have := hr.low.size; simp; omega) _)
      clear hrow htk hr hx hxw hg
      unfold clo1 at HNW HROW HLOW HBX
      go_wp2_with (at_builtin; refine wpList_append_fits _ rfl _ _ 84 rfl W1.heap.size tNd i0 2 Try.underlying84 hi hz1 G j (n + 1) _ rfl HROW.out ⟨wr.heap.size + 1, 0, none⟩ 1 1 [.int .i64 aj, clo1 w.heap.size (w.heap.size + 1) wr.heap.size] rfl rfl HNW.out (by unfold clo1; simp [Value.oneCell']) (by omega) ?_; intro w2 hown2 hg2)
      have HO2 := Lib.hid hown2
      have HG2 := Lib.hid hg2
      clear hown2 hg2
      go_roundw
      case rel =>
        refine ⟨j + 1, l ++ [(aj, wr.heap.size)], by omega, by go_num, rfl, ⟨by simp [HR.out.lj], by rw [List.map_append, HR.out.as_]; exact HTK.out.symm, by rw [cnC_snoc]; exact HO2.out, HBX.out.kept (row_at HROW.out).1 HG2.out, grown_low HLOW.out HG2.out (by rw [HG.out]; exact Nat.le_refl _)⟩⟩
      case measure => simp [intOf]; omega
    · obtain rfl : n = j := by omega
      have q2 : wr.cell? ⟨w.heap.size + 1, 2, none⟩ = some (.int .i64 dst) := (hr.low.cell (p := ⟨w.heap.size + 1, 2, none⟩) HQL.out).trans HQ2.out
      have ql' : w.heap.size + 1 < wr.heap.size := by have := hr.low.size; have := HQL.out; omega
      have hnl : ∀ c : Bool, needL m f ⟨9, ty, dst, a, b, nn, s, args⟩ = (args.mapIdx fun k a => (a, fun t => t == at0 (fAt m nn).regs k)) ++ (if 0 ≤ dst then [(dst, fun t => t == (fAt m nn).ty)] else []) := fun _ => rfl
      have HNL := Lib.hid (hnl true)
      by_cases hd : 0 ≤ dst
      · have HD := Lib.hid hd
        have hd1 : decide (0 ≤ dst) = true := by simpa using hd
        have HNW : Hid (∀ (k : Nat) u, ([.int .i64 dst, clo2 w.heap.size (w.heap.size + 1)] : List Value)[k]? = some u → (wr.alloc (.cells #[.int .i64 dst, clo2 w.heap.size (w.heap.size + 1)] tNd)).cell? ((⟨wr.heap.size, 0, none⟩ : Addr).add k) = some u) := by
          refine Lib.hid fun k u hu => ?_
          have h3 := Blk.new wr tNd #[.int .i64 dst, clo2 w.heap.size (w.heap.size + 1)]
          rw [Addr.add_mid, Nat.zero_add, h3.cell]
          simpa using hu
        have HROW : Hid ((wr.alloc (.cells #[.int .i64 dst, clo2 w.heap.size (w.heap.size + 1)] tNd)).ownsRow W1.heap.size tNd 2 (.slice (some ⟨G, 0, none⟩) n (n + 1)) n (cnC w.heap.size (w.heap.size + 1) l)) := Lib.hid (hr.row.alloc _)
        have HLOW : Hid (Below W1.heap.size W1 (wr.alloc (.cells #[.int .i64 dst, clo2 w.heap.size (w.heap.size + 1)] tNd))) := Lib.hid (hr.low.alloc hr.low.size _)
        have HBX : Hid (Bxs (wr.alloc (.cells #[.int .i64 dst, clo2 w.heap.size (w.heap.size + 1)] tNd)) W1.heap.size l) := Lib.hid fun k x hx => ⟨(hr.bx k x hx).1, (hr.bx k x hx).2.alloc _⟩
        clear hr hd hnl
        unfold clo2 at HNW HROW HLOW HBX
        go_wp2_with (at_builtin; refine wpList_append_fits _ rfl _ _ 84 rfl W1.heap.size tNd i0 2 Try.underlying84 hi hz1 G n (n + 1) _ rfl HROW.out ⟨wr.heap.size, 0, none⟩ 1 1 [.int .i64 dst, clo2 w.heap.size (w.heap.size + 1)] rfl rfl HNW.out (by unfold clo2; simp [Value.oneCell']) (by omega) ?_; intro w2 hown2 hg2)
        have hlw := grown_low HLOW.out hg2 (by rw [HG.out]; exact Nat.le_refl _)
        have hbx := HBX.out.kept (row_at HROW.out).1 hg2
        have HF := Lib.hid (And.intro hown2 (And.intro hlw hbx))
        clear hown2 hg2 hlw hbx
        first
          | go_ret
          | skip
        rw [← HP.out]
        refine ⟨_, rfl, ?_, HH.out.b.trans (HF.out.2.1.mono HH.out.b.size)⟩
        rw [HNL.out, if_pos HD.out]
        refine isNd_row HF.out.1 (by simp [HN.out]) fun k x hk => ?_
        by_cases hkn : k < n
        · rw [List.getElem?_append_left (by simp [HN.out]; omega)] at hk
          obtain ⟨fv, e1, e2, e3⟩ := cn_nth (i := ⟨9, ty, dst, a, b, nn, s, args⟩) HR.out HN.out rfl rfl HH.out HF.out.2.1 HF.out.2.2 k x hk
          exact ⟨fv, by rw [List.getElem?_append_left (by rw [cnC_len, HR.out.lj]; omega)]; exact e1, by rw [List.getElem?_append_left (by rw [cnC_len, HR.out.lj]; omega)]; exact e2, e3⟩
        · rw [List.getElem?_append_right (by simp [HN.out]; omega)] at hk
          have hkk : k = n := by
            have := (List.getElem?_eq_some_iff.1 hk).1
            simp [HN.out] at this
            omega
          subst hkk
          simp [HN.out] at hk
          subst hk
          refine ⟨clo2 w.heap.size (w.heap.size + 1), ?_, ?_, (need_call2 _ m f ⟨9, ty, dst, a, b, nn, s, args⟩ _ cb _ _ (HH.out.c.on HF.out.2.1) (HH.out.p.on HF.out.2.1) (HH.out.q.on HF.out.2.1)).imp fun h => (h.c rfl).1⟩
          · rw [List.getElem?_append_right (by rw [cnC_len, HR.out.lj]; omega), cnC_len, HR.out.lj, Nat.sub_self]; rfl
          · rw [List.getElem?_append_right (by rw [cnC_len, HR.out.lj]; omega), cnC_len, HR.out.lj, show k * 2 + 1 - k * 2 = 1 by omega]; rfl
      · have HD := Lib.hid hd
        have hd1 : decide (0 ≤ dst) = false := by simpa using hd
        clear hr hd hnl
        go_wp2_with fail
        first
          | go_ret
          | skip
        rw [← HP.out]
        refine ⟨_, rfl, ?_, HH.out.b.trans (HR.out.low.mono HH.out.b.size)⟩
        rw [HNL.out, if_neg (by have := HD.out; omega), List.append_nil]
        exact isNd_row HR.out.row (by simp [HN.out]) fun k x hk => cn_nth (i := ⟨9, ty, dst, a, b, nn, s, args⟩) HR.out HN.out rfl rfl HH.out HR.out.low HR.out.bx k x hk
set_option maxHeartbeats 1000000 in
set_option maxRecDepth 100000 in
theorem needs9_any (m : Mdl) (f : Cod) (i : Ins) (av : Value) (cb : Nat) (w : World) (hc : CkV w cb m f) (ha : IsI w w.heap.size av i.args) (hal : i.args.length ≤ 17592186043904) (ho : i.op = 9) : Calls Try.prog 40 #[.pointer (some ⟨cb, 0, none⟩), .agg (insA i av)] w (NeedsPost w m f i) := by
  have HH := Lib.hid (needHd i av hc)
  have HCN := Lib.hid (callN_any m f i av cb _ HH.out.c (ha.on HH.out.b) hal ho)
  obtain ⟨P, hP⟩ : ∃ P, NeedsPost w m f i = P := ⟨_, rfl⟩
  have HP := Lib.hid hP
  rw [hP]
  clear hc hP ha
  unfold insA at HH HCN ⊢
  obtain ⟨op, ty, dst, a, b, n, s, args⟩ := i
  simp only at ho HH HCN ⊢
  subst ho
  go_enter Try.func40, Try.ntmps40
  go_upto_region 1 with (fail)
  generalize (w.alloc (.cells #[.pointer (some ⟨cb, 0, none⟩)] tCp)).alloc (.cells #[.int .i64 9, .int .i64 ty, .int .i64 dst, .int .i64 a, .int .i64 b, .int .i64 n, .string (str s), av] tIn) = W1 at *
  have p0 : W1.cell? ⟨w.heap.size, 0, none⟩ = some (.pointer (some ⟨cb, 0, none⟩)) := HH.out.p.cell 0
  have pl := HH.out.p.lt
  have q0 : W1.cell? ⟨w.heap.size + 1, 0, none⟩ = some (.int .i64 9) := HH.out.q.cell 0
  have q1 : W1.cell? ⟨w.heap.size + 1, 1, none⟩ = some (.int .i64 ty) := HH.out.q.cell 1
  have q2 : W1.cell? ⟨w.heap.size + 1, 2, none⟩ = some (.int .i64 dst) := HH.out.q.cell 2
  have q3 : W1.cell? ⟨w.heap.size + 1, 3, none⟩ = some (.int .i64 a) := HH.out.q.cell 3
  have q4 : W1.cell? ⟨w.heap.size + 1, 4, none⟩ = some (.int .i64 b) := HH.out.q.cell 4
  have q5 : W1.cell? ⟨w.heap.size + 1, 5, none⟩ = some (.int .i64 n) := HH.out.q.cell 5
  have q6 : W1.cell? ⟨w.heap.size + 1, 6, none⟩ = some (.string (str s)) := HH.out.q.cell 6
  have q7 : W1.cell? ⟨w.heap.size + 1, 7, none⟩ = some av := HH.out.q.cell 7
  have ql := HH.out.q.lt
  go_wp2_with fail
  refine HCN.out.mono ?_
  rintro e w2 ⟨v, rfl, hv, hb⟩
  have HV := Lib.hid (And.intro hv hb)
  clear hv hb
  go_wp2_with fail
  first
    | go_ret
    | skip
  rw [← HP.out]
  exact ⟨_, rfl, HV.out.1, HH.out.b.trans (HV.out.2.mono HH.out.b.size)⟩
theorem needs_any (m : Mdl) (f : Cod) (i : Ins) (av : Value) (cb : Nat) (w : World) (hc : CkV w cb m f) (ha : IsI w w.heap.size av i.args) (hal : i.args.length ≤ 17592186043904) (ho : 1 ≤ i.op ∧ i.op ≤ 11) : Calls Try.prog 40 #[.pointer (some ⟨cb, 0, none⟩), .agg (insA i av)] w (NeedsPost w m f i) := by
  have : i.op = 1 ∨ i.op = 2 ∨ i.op = 3 ∨ i.op = 4 ∨ i.op = 5 ∨ i.op = 6 ∨ i.op = 7 ∨ i.op = 8 ∨ i.op = 9 ∨ i.op = 10 ∨ i.op = 11 := by omega
  rcases this with h | h | h | h | h | h | h | h | h | h | h
  · exact needs1_any m f i av cb w hc h
  · exact needs2_any m f i av cb w hc h
  · exact needs3_any m f i av cb w hc h
  · exact needs4_any m f i av cb w hc h
  · exact needs5_any m f i av cb w hc h
  · exact needs6_any m f i av cb w hc h
  · exact needs7_any m f i av cb w hc h
  · exact needs8_any m f i av cb w hc h
  · exact needs9_any m f i av cb w hc ha hal h
  · exact needs10_any m f i av cb w hc h
  · exact needs11_any m f i av cb w hc h
end Go.Proofs.Ytjmlpbnejcfnhaa
/-! Ivf -/
namespace Go.Proofs.Ytjmlpbnejcfnhaa
open Go Go.RowKit
set_option linter.unusedVariables false
set_option linter.unusedSimpArgs false

theorem all_take_succ {α : Type} (p : α → Bool) (l : List α) (k : Nat) (h : k < l.length) : (l.take (k + 1)).all p = ((l.take k).all p && p l[k]) := by
  rw [List.take_succ_eq_append_getElem h, List.all_append]
  simp
theorem all_take_false {α : Type} (p : α → Bool) (l : List α) (k : Nat) (h : (l.take k).all p = false) : l.all p = false := by
  rw [← List.take_append_drop k l, List.all_append, h, Bool.false_and]
theorem inR_true {α : Type} {l : List α} {i : Int} (h0 : 0 ≤ i) (h1 : i < l.length) : inR l i = true := by simp [inR, h0, h1]
theorem inR_neg {α : Type} {l : List α} {i : Int} (h0 : i < 0) : inR l i = false := by simp [inR]; omega
theorem inR_big {α : Type} {l : List α} {i : Int} (h1 : (l.length : Int) ≤ i) : inR l i = false := by simp [inR]; omega
set_option maxHeartbeats 1000000 in
set_option maxRecDepth 100000 in
theorem exist_any (m : Mdl) (f : Cod) (l : List (Int × (Int → Bool))) (v : Value) (ok : Prop) (cb : Nat) (w : World) (hc : CkV w cb m f) (hv : IsNd w ok v l) :
    Calls Try.prog 41 #[.pointer (some ⟨cb, 0, none⟩), v] w fun e w' => e = .returned (.bool (existL f l)) ∧ Below w.heap.size w w' := by
  obtain ⟨A, c, rfl, hlc, hcm, hA0⟩ := hv.sl
  unfold maxLen at hcm
  obtain ⟨n, hn⟩ : ∃ n, l.length = n := ⟨_, rfl⟩
  obtain ⟨gv, fv, rv, bv, hb, -, hri, -⟩ := hc.x
  obtain ⟨rA, rc, rfl, hrl, hrm, hrA⟩ := hri.sl
  have HB := Lib.hid hb
  have HV := Lib.hid hv
  have HN := Lib.hid hn
  obtain ⟨res, hres⟩ : ∃ r, existL f l = r := ⟨_, rfl⟩
  have HRES := Lib.hid hres
  rw [hres]
  rw [hn] at hlc ⊢
  clear hc hv hb hri hn hres
  go_enter Try.func41, Try.ntmps41
  go_wp2_with fail
  go_loopw [9] (fun v wr => ∃ j : Nat, j ≤ n ∧ v = .int .i64 j ∧ (l.take j).all (fun n => inR f.regs n.1) = true ∧ Below w.heap.size w wr) (fun v _ => n - (intOf v).toNat)
  case atStart => exact ⟨0, by omega, rfl, by simp, Below.refl _ _⟩
  case round =>
    obtain ⟨j, hj, rfl, hal, hbw⟩ := hrel
    have HAL := Lib.hid hal
    have HBW := Lib.hid hbw
    clear hal
    by_cases hlt : j < n
    · have hjl : j < l.length := by rw [HN.out]; exact hlt
      obtain ⟨g, o, c9, hv9, hg, -, -, hx0, fv', hx1, k, caps, rfl, -, -⟩ := HV.out.at hjl
      simp only [Value.slice.injEq] at hv9
      obtain ⟨rfl, -, -⟩ := hv9
      have x0 : wr.cell? ⟨g, o + j * 2, none⟩ = some (.int .i64 l[j].1) := (hbw.cell (p := ⟨g, o + j * 2, none⟩) hg).trans hx0
      have x1 : wr.cell? ⟨g, o + j * 2 + 1, none⟩ = some (.func (.func k) #[] caps) := (hbw.cell (p := ⟨g, o + j * 2 + 1, none⟩) hg).trans hx1
      have gl : g < wr.heap.size := by have := hbw.size; omega
      have c5 : wr.cell? ⟨cb, 5, none⟩ = some (.slice rA f.regs.length rc) := (hbw.cell (p := ⟨cb, 5, none⟩) HB.out.lt).trans (HB.out.cell 5)
      have cl : cb < wr.heap.size := by have := hbw.size; have := HB.out.lt; omega
      have hts := all_take_succ (fun n : Int × (Int → Bool) => inR f.regs n.1) l j hjl
      have HTS := Lib.hid hts
      have hlt' : (j : Int) < n := by omega
      clear hts hx0 hx1 hg hbw
      generalize l[j] = x at *
      obtain ⟨r, p⟩ := x
      simp only at x0 HTS
      by_cases h1 : r < 0
      · have d1 : decide (r < 0) = true := by simpa using h1
        have hi := inR_neg (l := f.regs) h1
        have HI := Lib.hid hi
        clear hi h1
        go_upto_region 4 with (fail)
        go_quiet (fail)
        go_wp2_with fail
        go_ret
        refine ⟨?_, (HBW.out.alloc HBW.out.size _).trans (below_drewN _ _ _)⟩
        rw [← HRES.out, existL, all_take_false _ l (j + 1) (by rw [HTS.out, HAL.out, HI.out]; rfl)]
        rfl
      · have d1 : decide (r < 0) = false := by simpa using h1
        by_cases h2 : (f.regs.length : Int) ≤ r
        · have d2 : decide ((f.regs.length : Int) ≤ r) = true := by simpa using h2
          have hi := inR_big (l := f.regs) h2
          have HI := Lib.hid hi
          clear hi h1 h2
          go_upto_region 4 with (fail)
          go_quiet (fail)
          go_wp2_with fail
          go_ret
          refine ⟨?_, (HBW.out.alloc HBW.out.size _).trans (below_drewN _ _ _)⟩
          rw [← HRES.out, existL, all_take_false _ l (j + 1) (by rw [HTS.out, HAL.out, HI.out]; rfl)]
          rfl
        · have d2 : decide ((f.regs.length : Int) ≤ r) = false := by simpa using h2
          have hi : inR f.regs r = true := inR_true (by omega) (by omega)
          have HI := Lib.hid hi
          clear hi h1 h2
          go_upto_region 4 with (fail)
          go_quiet (fail)
          go_wp2_with fail
          go_roundw
          case rel => exact ⟨j + 1, by omega, by go_num, by rw [HTS.out, HAL.out, HI.out]; rfl, (HBW.out.alloc HBW.out.size _).trans (below_drewN _ _ _)⟩
          case measure => simp [intOf]; omega
    · obtain rfl : n = j := by omega
      clear hbw
      go_wp2_with fail
      go_ret
      refine ⟨?_, HBW.out⟩
      rw [← HRES.out, existL]
      have := HAL.out
      rw [List.take_of_length_le (by rw [HN.out]; exact Nat.le_refl _)] at this
      rw [this]
      rfl
set_option maxHeartbeats 4000000 in
set_option maxRecDepth 100000 in
theorem fit_any (m : Mdl) (f : Cod) (l : List (Int × (Int → Bool))) (v : Value) (ok : Prop) (hok : ok) (hex : existL f l = true) (cb : Nat) (w : World) (hc : CkV w cb m f) (hv : IsNd w ok v l) :
    Calls Try.prog 43 #[.pointer (some ⟨cb, 0, none⟩), v] w fun e w' => e = .returned (.bool (fitL f l)) ∧ Below w.heap.size w w' := by
  obtain ⟨A, c, rfl, hlc, hcm, hA0⟩ := hv.sl
  unfold maxLen at hcm
  obtain ⟨n, hn⟩ : ∃ n, l.length = n := ⟨_, rfl⟩
  obtain ⟨gv, fv, rv, bv, hb, -, hri, -⟩ := hc.x
  obtain ⟨rA, rc, rfl, hrl, hrm, hrA⟩ := hri.sl
  have HB := Lib.hid hb
  have HV := Lib.hid hv
  have HN := Lib.hid hn
  have HRI := Lib.hid hri
  have HEX := Lib.hid hex
  obtain ⟨res, hres⟩ : ∃ r, fitL f l = r := ⟨_, rfl⟩
  have HRES := Lib.hid hres
  rw [hres]
  rw [hn] at hlc ⊢
  clear hc hv hb hri hn hres hex
  go_enter Try.func43, Try.ntmps43
  go_wp2_with fail
  go_loopw [9] (fun v wr => ∃ j : Nat, j ≤ n ∧ v = .int .i64 j ∧ (l.take j).all (fun n => n.2 (at0 f.regs n.1)) = true ∧ Below w.heap.size w wr) (fun v _ => n - (intOf v).toNat)
  case atStart => exact ⟨0, by omega, rfl, by simp, Below.refl _ _⟩
  case round =>
    obtain ⟨j, hj, rfl, hal, hbw⟩ := hrel
    have HAL := Lib.hid hal
    have HBW := Lib.hid hbw
    clear hal
    by_cases hlt : j < n
    · have hjl : j < l.length := by rw [HN.out]; exact hlt
      obtain ⟨g, o, c9, hv9, hg, -, -, hx0, fv', hx1, k, caps, rfl, hk, hcall⟩ := HV.out.at hjl
      simp only [Value.slice.injEq] at hv9
      obtain ⟨rfl, -, -⟩ := hv9
      have x0 : wr.cell? ⟨g, o + j * 2, none⟩ = some (.int .i64 l[j].1) := (hbw.cell (p := ⟨g, o + j * 2, none⟩) hg).trans hx0
      have x1 : wr.cell? ⟨g, o + j * 2 + 1, none⟩ = some (.func (.func k) #[] caps) := (hbw.cell (p := ⟨g, o + j * 2 + 1, none⟩) hg).trans hx1
      have gl : g < wr.heap.size := by have := hbw.size; omega
      have hts := all_take_succ (fun n : Int × (Int → Bool) => n.2 (at0 f.regs n.1)) l j hjl
      have hin : inR f.regs l[j].1 = true := List.all_eq_true.1 HEX.out _ (List.getElem_mem hjl)
      obtain ⟨rk, hrk, hrlt⟩ := inR_nat hin
      obtain ⟨g2, o2, c2, hr9, hg2, -, -, hy, -⟩ := HRI.out.at hrlt
      simp only [Value.slice.injEq] at hr9
      obtain ⟨rfl, -, -⟩ := hr9
      have y0 : wr.cell? ⟨g2, o2 + rk, none⟩ = some (.int .i64 f.regs[rk]) := (hbw.cell (p := ⟨g2, o2 + rk, none⟩) hg2).trans (by simpa using hy)
      have gl2 : g2 < wr.heap.size := by have := hbw.size; omega
      have c5 : wr.cell? ⟨cb, 5, none⟩ = some (.slice (some ⟨g2, o2, none⟩) f.regs.length rc) := (hbw.cell (p := ⟨cb, 5, none⟩) HB.out.lt).trans (HB.out.cell 5)
      have cl : cb < wr.heap.size := by have := hbw.size; have := HB.out.lt; omega
      have hlt' : (j : Int) < n := by omega
      have hrl' : (rk : Int) < f.regs.length := by omega
      have hreg := at0_lt hrlt
      rw [hrk] at hts x0
      rw [hreg] at hts
      have hcc : ∀ W, Below wr.heap.size wr W → Calls Try.prog k (#[.int .i64 f.regs[rk]] ++ caps) W fun e w' => e = .returned (.bool (l[j].2 f.regs[rk])) ∧ Below W.heap.size W w' := fun W hW => hcall hok W (hbw.trans (hW.mono hbw.size)) _
      generalize f.regs[rk] = tv at *
      obtain ⟨b, hbb⟩ : ∃ b, l[j].2 tv = b := ⟨_, rfl⟩
      rw [hbb] at hts hcc
      have HTS := Lib.hid hts
      clear hts hx0 hx1 hg hbw hcall hreg hin hrk hbb hy hg2
      have J0 : Below wr.heap.size wr wr := Below.refl _ _
      rcases hk with ⟨rfl, rfl⟩ | ⟨z1, rfl, rfl⟩ | ⟨z1, z2, rfl, rfl⟩ | ⟨z1, z2, rfl, rfl⟩ | ⟨z1, z2, rfl, rfl⟩ | ⟨z1, z2, rfl, rfl⟩ | ⟨z1, z2, z3, rfl, rfl⟩
      · have HC := Lib.hid hcc
        simp only [List.append_toArray, Array.append_empty, List.cons_append, List.nil_append] at HC
        clear hcc
        have b2 := Blk.new wr tNd #[.int .i64 (rk : Nat), .func (.func 20) #[] #[]]
        have hb2 : Below wr.heap.size wr (wr.alloc (.cells #[.int .i64 (rk : Nat), .func (.func 20) #[] #[]] tNd)) := (Below.refl _ _).alloc (Nat.le_refl _) _
        cases b
        all_goals
          go_upto_region 4 with (fail)
          generalize (wr.alloc (.cells #[.int .i64 (rk : Nat), .func (.func 20) #[] #[]] tNd)) = W2 at *
          have HB2 := Lib.hid hb2
          have p0 : W2.cell? ⟨wr.heap.size, 0, none⟩ = some (.int .i64 (rk : Nat)) := b2.cell 0
          have p1 : W2.cell? ⟨wr.heap.size, 1, none⟩ = some (.func (.func 20) #[] #[]) := b2.cell 1
          have pl := b2.lt
          have c5' : W2.cell? ⟨cb, 5, none⟩ = some (.slice (some ⟨g2, o2, none⟩) f.regs.length rc) := (hb2.cell (p := ⟨cb, 5, none⟩) cl).trans c5
          have y0' : W2.cell? ⟨g2, o2 + rk, none⟩ = some (.int .i64 tv) := (hb2.cell (p := ⟨g2, o2 + rk, none⟩) gl2).trans y0
          have cl' : cb < W2.heap.size := by have := hb2.size; omega
          have gl2' : g2 < W2.heap.size := by have := hb2.size; omega
          have HS : Hid (∀ Wx, Below W2.heap.size W2 Wx → Wx.cell? ⟨wr.heap.size, 0, none⟩ = some (.int .i64 (rk : Nat)) ∧ Wx.cell? ⟨wr.heap.size, 1, none⟩ = some (.func (.func 20) #[] #[]) ∧ Wx.cell? ⟨cb, 5, none⟩ = some (.slice (some ⟨g2, o2, none⟩) f.regs.length rc) ∧ Wx.cell? ⟨g2, o2 + rk, none⟩ = some (.int .i64 tv) ∧ wr.heap.size < Wx.heap.size ∧ cb < Wx.heap.size ∧ g2 < Wx.heap.size) := Lib.hid fun Wx h => by
            have hz := h.size
            exact ⟨(h.cell (p := ⟨wr.heap.size, 0, none⟩) pl).trans p0, (h.cell (p := ⟨wr.heap.size, 1, none⟩) pl).trans p1, (h.cell (p := ⟨cb, 5, none⟩) cl').trans c5', (h.cell (p := ⟨g2, o2 + rk, none⟩) gl2').trans y0', by omega, by omega, by omega⟩
          have J : Below W2.heap.size W2 W2 := Below.refl _ _
          clear hb2 b2 x0 x1 c5 y0
          go_region_held3 (fun Wx => Wx.cell? ⟨wr.heap.size, 0, none⟩ = some (.int .i64 (rk : Nat)) ∧ Wx.cell? ⟨wr.heap.size, 1, none⟩ = some (.func (.func 20) #[] #[]) ∧ Wx.cell? ⟨cb, 5, none⟩ = some (.slice (some ⟨g2, o2, none⟩) f.regs.length rc) ∧ Wx.cell? ⟨g2, o2 + rk, none⟩ = some (.int .i64 tv) ∧ wr.heap.size < Wx.heap.size ∧ cb < Wx.heap.size ∧ g2 < Wx.heap.size)
            (first | exact ⟨p0, p1, c5', y0', pl, cl', gl2'⟩ | exact HS.out _ J)
            (first
              | (go_at_call 20; (with_reducible refine Calls.mono (HC.out _ ?hw) ?_); (case hw => first | exact HB2.out.trans (J.mono HB2.out.size) | exact HB2.out.trans (J.drew.mono HB2.out.size)); rintro e v1 ⟨rfl, b1⟩; have J : Below W2.heap.size W2 v1 := by first | exact J.trans (b1.mono J.size) | exact J.drew.trans (b1.mono J.drew.size)))
          all_goals
            have HJ := Lib.hid (HB2.out.trans (J.mono HB2.out.size))
            clear J
            go_wp2_with fail
            first
              | (go_roundw
                 case rel => exact ⟨j + 1, by omega, by go_num, by rw [HTS.out, HAL.out]; rfl, HBW.out.trans (HJ.out.mono HBW.out.size)⟩
                 case measure => simp [intOf]; omega)
              | (go_ret
                 refine ⟨?_, HBW.out.trans (HJ.out.mono HBW.out.size)⟩
                 rw [← HRES.out, fitL, all_take_false _ l (j + 1) (by rw [HTS.out, HAL.out]; rfl)]
                 rfl)
              | (refine ⟨?_, HBW.out.trans (HJ.out.mono HBW.out.size)⟩
                 rw [← HRES.out, fitL, all_take_false _ l (j + 1) (by rw [HTS.out, HAL.out]; rfl)]
                 rfl)
      · have HC := Lib.hid hcc
        simp only [List.append_toArray, Array.append_empty, List.cons_append, List.nil_append] at HC
        clear hcc
        have b2 := Blk.new wr tNd #[.int .i64 (rk : Nat), .func (.func 65) #[] #[z1]]
        have hb2 : Below wr.heap.size wr (wr.alloc (.cells #[.int .i64 (rk : Nat), .func (.func 65) #[] #[z1]] tNd)) := (Below.refl _ _).alloc (Nat.le_refl _) _
        cases b
        all_goals
          go_upto_region 4 with (fail)
          generalize (wr.alloc (.cells #[.int .i64 (rk : Nat), .func (.func 65) #[] #[z1]] tNd)) = W2 at *
          have HB2 := Lib.hid hb2
          have p0 : W2.cell? ⟨wr.heap.size, 0, none⟩ = some (.int .i64 (rk : Nat)) := b2.cell 0
          have p1 : W2.cell? ⟨wr.heap.size, 1, none⟩ = some (.func (.func 65) #[] #[z1]) := b2.cell 1
          have pl := b2.lt
          have c5' : W2.cell? ⟨cb, 5, none⟩ = some (.slice (some ⟨g2, o2, none⟩) f.regs.length rc) := (hb2.cell (p := ⟨cb, 5, none⟩) cl).trans c5
          have y0' : W2.cell? ⟨g2, o2 + rk, none⟩ = some (.int .i64 tv) := (hb2.cell (p := ⟨g2, o2 + rk, none⟩) gl2).trans y0
          have cl' : cb < W2.heap.size := by have := hb2.size; omega
          have gl2' : g2 < W2.heap.size := by have := hb2.size; omega
          have HS : Hid (∀ Wx, Below W2.heap.size W2 Wx → Wx.cell? ⟨wr.heap.size, 0, none⟩ = some (.int .i64 (rk : Nat)) ∧ Wx.cell? ⟨wr.heap.size, 1, none⟩ = some (.func (.func 65) #[] #[z1]) ∧ Wx.cell? ⟨cb, 5, none⟩ = some (.slice (some ⟨g2, o2, none⟩) f.regs.length rc) ∧ Wx.cell? ⟨g2, o2 + rk, none⟩ = some (.int .i64 tv) ∧ wr.heap.size < Wx.heap.size ∧ cb < Wx.heap.size ∧ g2 < Wx.heap.size) := Lib.hid fun Wx h => by
            have hz := h.size
            exact ⟨(h.cell (p := ⟨wr.heap.size, 0, none⟩) pl).trans p0, (h.cell (p := ⟨wr.heap.size, 1, none⟩) pl).trans p1, (h.cell (p := ⟨cb, 5, none⟩) cl').trans c5', (h.cell (p := ⟨g2, o2 + rk, none⟩) gl2').trans y0', by omega, by omega, by omega⟩
          have J : Below W2.heap.size W2 W2 := Below.refl _ _
          clear hb2 b2 x0 x1 c5 y0
          go_region_held3 (fun Wx => Wx.cell? ⟨wr.heap.size, 0, none⟩ = some (.int .i64 (rk : Nat)) ∧ Wx.cell? ⟨wr.heap.size, 1, none⟩ = some (.func (.func 65) #[] #[z1]) ∧ Wx.cell? ⟨cb, 5, none⟩ = some (.slice (some ⟨g2, o2, none⟩) f.regs.length rc) ∧ Wx.cell? ⟨g2, o2 + rk, none⟩ = some (.int .i64 tv) ∧ wr.heap.size < Wx.heap.size ∧ cb < Wx.heap.size ∧ g2 < Wx.heap.size)
            (first | exact ⟨p0, p1, c5', y0', pl, cl', gl2'⟩ | exact HS.out _ J)
            (first
              | (go_at_call 65; (with_reducible refine Calls.mono (HC.out _ ?hw) ?_); (case hw => first | exact HB2.out.trans (J.mono HB2.out.size) | exact HB2.out.trans (J.drew.mono HB2.out.size)); rintro e v1 ⟨rfl, b1⟩; have J : Below W2.heap.size W2 v1 := by first | exact J.trans (b1.mono J.size) | exact J.drew.trans (b1.mono J.drew.size)))
          all_goals
            have HJ := Lib.hid (HB2.out.trans (J.mono HB2.out.size))
            clear J
            go_wp2_with fail
            first
              | (go_roundw
                 case rel => exact ⟨j + 1, by omega, by go_num, by rw [HTS.out, HAL.out]; rfl, HBW.out.trans (HJ.out.mono HBW.out.size)⟩
                 case measure => simp [intOf]; omega)
              | (go_ret
                 refine ⟨?_, HBW.out.trans (HJ.out.mono HBW.out.size)⟩
                 rw [← HRES.out, fitL, all_take_false _ l (j + 1) (by rw [HTS.out, HAL.out]; rfl)]
                 rfl)
              | (refine ⟨?_, HBW.out.trans (HJ.out.mono HBW.out.size)⟩
                 rw [← HRES.out, fitL, all_take_false _ l (j + 1) (by rw [HTS.out, HAL.out]; rfl)]
                 rfl)
      · have HC := Lib.hid hcc
        simp only [List.append_toArray, Array.append_empty, List.cons_append, List.nil_append] at HC
        clear hcc
        have b2 := Blk.new wr tNd #[.int .i64 (rk : Nat), .func (.func 56) #[] #[z1, z2]]
        have hb2 : Below wr.heap.size wr (wr.alloc (.cells #[.int .i64 (rk : Nat), .func (.func 56) #[] #[z1, z2]] tNd)) := (Below.refl _ _).alloc (Nat.le_refl _) _
        cases b
        all_goals
          go_upto_region 4 with (fail)
          generalize (wr.alloc (.cells #[.int .i64 (rk : Nat), .func (.func 56) #[] #[z1, z2]] tNd)) = W2 at *
          have HB2 := Lib.hid hb2
          have p0 : W2.cell? ⟨wr.heap.size, 0, none⟩ = some (.int .i64 (rk : Nat)) := b2.cell 0
          have p1 : W2.cell? ⟨wr.heap.size, 1, none⟩ = some (.func (.func 56) #[] #[z1, z2]) := b2.cell 1
          have pl := b2.lt
          have c5' : W2.cell? ⟨cb, 5, none⟩ = some (.slice (some ⟨g2, o2, none⟩) f.regs.length rc) := (hb2.cell (p := ⟨cb, 5, none⟩) cl).trans c5
          have y0' : W2.cell? ⟨g2, o2 + rk, none⟩ = some (.int .i64 tv) := (hb2.cell (p := ⟨g2, o2 + rk, none⟩) gl2).trans y0
          have cl' : cb < W2.heap.size := by have := hb2.size; omega
          have gl2' : g2 < W2.heap.size := by have := hb2.size; omega
          have HS : Hid (∀ Wx, Below W2.heap.size W2 Wx → Wx.cell? ⟨wr.heap.size, 0, none⟩ = some (.int .i64 (rk : Nat)) ∧ Wx.cell? ⟨wr.heap.size, 1, none⟩ = some (.func (.func 56) #[] #[z1, z2]) ∧ Wx.cell? ⟨cb, 5, none⟩ = some (.slice (some ⟨g2, o2, none⟩) f.regs.length rc) ∧ Wx.cell? ⟨g2, o2 + rk, none⟩ = some (.int .i64 tv) ∧ wr.heap.size < Wx.heap.size ∧ cb < Wx.heap.size ∧ g2 < Wx.heap.size) := Lib.hid fun Wx h => by
            have hz := h.size
            exact ⟨(h.cell (p := ⟨wr.heap.size, 0, none⟩) pl).trans p0, (h.cell (p := ⟨wr.heap.size, 1, none⟩) pl).trans p1, (h.cell (p := ⟨cb, 5, none⟩) cl').trans c5', (h.cell (p := ⟨g2, o2 + rk, none⟩) gl2').trans y0', by omega, by omega, by omega⟩
          have J : Below W2.heap.size W2 W2 := Below.refl _ _
          clear hb2 b2 x0 x1 c5 y0
          go_region_held3 (fun Wx => Wx.cell? ⟨wr.heap.size, 0, none⟩ = some (.int .i64 (rk : Nat)) ∧ Wx.cell? ⟨wr.heap.size, 1, none⟩ = some (.func (.func 56) #[] #[z1, z2]) ∧ Wx.cell? ⟨cb, 5, none⟩ = some (.slice (some ⟨g2, o2, none⟩) f.regs.length rc) ∧ Wx.cell? ⟨g2, o2 + rk, none⟩ = some (.int .i64 tv) ∧ wr.heap.size < Wx.heap.size ∧ cb < Wx.heap.size ∧ g2 < Wx.heap.size)
            (first | exact ⟨p0, p1, c5', y0', pl, cl', gl2'⟩ | exact HS.out _ J)
            (first
              | (go_at_call 56; (with_reducible refine Calls.mono (HC.out _ ?hw) ?_); (case hw => first | exact HB2.out.trans (J.mono HB2.out.size) | exact HB2.out.trans (J.drew.mono HB2.out.size)); rintro e v1 ⟨rfl, b1⟩; have J : Below W2.heap.size W2 v1 := by first | exact J.trans (b1.mono J.size) | exact J.drew.trans (b1.mono J.drew.size)))
          all_goals
            have HJ := Lib.hid (HB2.out.trans (J.mono HB2.out.size))
            clear J
            go_wp2_with fail
            first
              | (go_roundw
                 case rel => exact ⟨j + 1, by omega, by go_num, by rw [HTS.out, HAL.out]; rfl, HBW.out.trans (HJ.out.mono HBW.out.size)⟩
                 case measure => simp [intOf]; omega)
              | (go_ret
                 refine ⟨?_, HBW.out.trans (HJ.out.mono HBW.out.size)⟩
                 rw [← HRES.out, fitL, all_take_false _ l (j + 1) (by rw [HTS.out, HAL.out]; rfl)]
                 rfl)
              | (refine ⟨?_, HBW.out.trans (HJ.out.mono HBW.out.size)⟩
                 rw [← HRES.out, fitL, all_take_false _ l (j + 1) (by rw [HTS.out, HAL.out]; rfl)]
                 rfl)
      · have HC := Lib.hid hcc
        simp only [List.append_toArray, Array.append_empty, List.cons_append, List.nil_append] at HC
        clear hcc
        have b2 := Blk.new wr tNd #[.int .i64 (rk : Nat), .func (.func 70) #[] #[z1, z2]]
        have hb2 : Below wr.heap.size wr (wr.alloc (.cells #[.int .i64 (rk : Nat), .func (.func 70) #[] #[z1, z2]] tNd)) := (Below.refl _ _).alloc (Nat.le_refl _) _
        cases b
        all_goals
          go_upto_region 4 with (fail)
          generalize (wr.alloc (.cells #[.int .i64 (rk : Nat), .func (.func 70) #[] #[z1, z2]] tNd)) = W2 at *
          have HB2 := Lib.hid hb2
          have p0 : W2.cell? ⟨wr.heap.size, 0, none⟩ = some (.int .i64 (rk : Nat)) := b2.cell 0
          have p1 : W2.cell? ⟨wr.heap.size, 1, none⟩ = some (.func (.func 70) #[] #[z1, z2]) := b2.cell 1
          have pl := b2.lt
          have c5' : W2.cell? ⟨cb, 5, none⟩ = some (.slice (some ⟨g2, o2, none⟩) f.regs.length rc) := (hb2.cell (p := ⟨cb, 5, none⟩) cl).trans c5
          have y0' : W2.cell? ⟨g2, o2 + rk, none⟩ = some (.int .i64 tv) := (hb2.cell (p := ⟨g2, o2 + rk, none⟩) gl2).trans y0
          have cl' : cb < W2.heap.size := by have := hb2.size; omega
          have gl2' : g2 < W2.heap.size := by have := hb2.size; omega
          have HS : Hid (∀ Wx, Below W2.heap.size W2 Wx → Wx.cell? ⟨wr.heap.size, 0, none⟩ = some (.int .i64 (rk : Nat)) ∧ Wx.cell? ⟨wr.heap.size, 1, none⟩ = some (.func (.func 70) #[] #[z1, z2]) ∧ Wx.cell? ⟨cb, 5, none⟩ = some (.slice (some ⟨g2, o2, none⟩) f.regs.length rc) ∧ Wx.cell? ⟨g2, o2 + rk, none⟩ = some (.int .i64 tv) ∧ wr.heap.size < Wx.heap.size ∧ cb < Wx.heap.size ∧ g2 < Wx.heap.size) := Lib.hid fun Wx h => by
            have hz := h.size
            exact ⟨(h.cell (p := ⟨wr.heap.size, 0, none⟩) pl).trans p0, (h.cell (p := ⟨wr.heap.size, 1, none⟩) pl).trans p1, (h.cell (p := ⟨cb, 5, none⟩) cl').trans c5', (h.cell (p := ⟨g2, o2 + rk, none⟩) gl2').trans y0', by omega, by omega, by omega⟩
          have J : Below W2.heap.size W2 W2 := Below.refl _ _
          clear hb2 b2 x0 x1 c5 y0
          go_region_held3 (fun Wx => Wx.cell? ⟨wr.heap.size, 0, none⟩ = some (.int .i64 (rk : Nat)) ∧ Wx.cell? ⟨wr.heap.size, 1, none⟩ = some (.func (.func 70) #[] #[z1, z2]) ∧ Wx.cell? ⟨cb, 5, none⟩ = some (.slice (some ⟨g2, o2, none⟩) f.regs.length rc) ∧ Wx.cell? ⟨g2, o2 + rk, none⟩ = some (.int .i64 tv) ∧ wr.heap.size < Wx.heap.size ∧ cb < Wx.heap.size ∧ g2 < Wx.heap.size)
            (first | exact ⟨p0, p1, c5', y0', pl, cl', gl2'⟩ | exact HS.out _ J)
            (first
              | (go_at_call 70; (with_reducible refine Calls.mono (HC.out _ ?hw) ?_); (case hw => first | exact HB2.out.trans (J.mono HB2.out.size) | exact HB2.out.trans (J.drew.mono HB2.out.size)); rintro e v1 ⟨rfl, b1⟩; have J : Below W2.heap.size W2 v1 := by first | exact J.trans (b1.mono J.size) | exact J.drew.trans (b1.mono J.drew.size)))
          all_goals
            have HJ := Lib.hid (HB2.out.trans (J.mono HB2.out.size))
            clear J
            go_wp2_with fail
            first
              | (go_roundw
                 case rel => exact ⟨j + 1, by omega, by go_num, by rw [HTS.out, HAL.out]; rfl, HBW.out.trans (HJ.out.mono HBW.out.size)⟩
                 case measure => simp [intOf]; omega)
              | (go_ret
                 refine ⟨?_, HBW.out.trans (HJ.out.mono HBW.out.size)⟩
                 rw [← HRES.out, fitL, all_take_false _ l (j + 1) (by rw [HTS.out, HAL.out]; rfl)]
                 rfl)
              | (refine ⟨?_, HBW.out.trans (HJ.out.mono HBW.out.size)⟩
                 rw [← HRES.out, fitL, all_take_false _ l (j + 1) (by rw [HTS.out, HAL.out]; rfl)]
                 rfl)
      · have HC := Lib.hid hcc
        simp only [List.append_toArray, Array.append_empty, List.cons_append, List.nil_append] at HC
        clear hcc
        have b2 := Blk.new wr tNd #[.int .i64 (rk : Nat), .func (.func 71) #[] #[z1, z2]]
        have hb2 : Below wr.heap.size wr (wr.alloc (.cells #[.int .i64 (rk : Nat), .func (.func 71) #[] #[z1, z2]] tNd)) := (Below.refl _ _).alloc (Nat.le_refl _) _
        cases b
        all_goals
          go_upto_region 4 with (fail)
          generalize (wr.alloc (.cells #[.int .i64 (rk : Nat), .func (.func 71) #[] #[z1, z2]] tNd)) = W2 at *
          have HB2 := Lib.hid hb2
          have p0 : W2.cell? ⟨wr.heap.size, 0, none⟩ = some (.int .i64 (rk : Nat)) := b2.cell 0
          have p1 : W2.cell? ⟨wr.heap.size, 1, none⟩ = some (.func (.func 71) #[] #[z1, z2]) := b2.cell 1
          have pl := b2.lt
          have c5' : W2.cell? ⟨cb, 5, none⟩ = some (.slice (some ⟨g2, o2, none⟩) f.regs.length rc) := (hb2.cell (p := ⟨cb, 5, none⟩) cl).trans c5
          have y0' : W2.cell? ⟨g2, o2 + rk, none⟩ = some (.int .i64 tv) := (hb2.cell (p := ⟨g2, o2 + rk, none⟩) gl2).trans y0
          have cl' : cb < W2.heap.size := by have := hb2.size; omega
          have gl2' : g2 < W2.heap.size := by have := hb2.size; omega
          have HS : Hid (∀ Wx, Below W2.heap.size W2 Wx → Wx.cell? ⟨wr.heap.size, 0, none⟩ = some (.int .i64 (rk : Nat)) ∧ Wx.cell? ⟨wr.heap.size, 1, none⟩ = some (.func (.func 71) #[] #[z1, z2]) ∧ Wx.cell? ⟨cb, 5, none⟩ = some (.slice (some ⟨g2, o2, none⟩) f.regs.length rc) ∧ Wx.cell? ⟨g2, o2 + rk, none⟩ = some (.int .i64 tv) ∧ wr.heap.size < Wx.heap.size ∧ cb < Wx.heap.size ∧ g2 < Wx.heap.size) := Lib.hid fun Wx h => by
            have hz := h.size
            exact ⟨(h.cell (p := ⟨wr.heap.size, 0, none⟩) pl).trans p0, (h.cell (p := ⟨wr.heap.size, 1, none⟩) pl).trans p1, (h.cell (p := ⟨cb, 5, none⟩) cl').trans c5', (h.cell (p := ⟨g2, o2 + rk, none⟩) gl2').trans y0', by omega, by omega, by omega⟩
          have J : Below W2.heap.size W2 W2 := Below.refl _ _
          clear hb2 b2 x0 x1 c5 y0
          go_region_held3 (fun Wx => Wx.cell? ⟨wr.heap.size, 0, none⟩ = some (.int .i64 (rk : Nat)) ∧ Wx.cell? ⟨wr.heap.size, 1, none⟩ = some (.func (.func 71) #[] #[z1, z2]) ∧ Wx.cell? ⟨cb, 5, none⟩ = some (.slice (some ⟨g2, o2, none⟩) f.regs.length rc) ∧ Wx.cell? ⟨g2, o2 + rk, none⟩ = some (.int .i64 tv) ∧ wr.heap.size < Wx.heap.size ∧ cb < Wx.heap.size ∧ g2 < Wx.heap.size)
            (first | exact ⟨p0, p1, c5', y0', pl, cl', gl2'⟩ | exact HS.out _ J)
            (first
              | (go_at_call 71; (with_reducible refine Calls.mono (HC.out _ ?hw) ?_); (case hw => first | exact HB2.out.trans (J.mono HB2.out.size) | exact HB2.out.trans (J.drew.mono HB2.out.size)); rintro e v1 ⟨rfl, b1⟩; have J : Below W2.heap.size W2 v1 := by first | exact J.trans (b1.mono J.size) | exact J.drew.trans (b1.mono J.drew.size)))
          all_goals
            have HJ := Lib.hid (HB2.out.trans (J.mono HB2.out.size))
            clear J
            go_wp2_with fail
            first
              | (go_roundw
                 case rel => exact ⟨j + 1, by omega, by go_num, by rw [HTS.out, HAL.out]; rfl, HBW.out.trans (HJ.out.mono HBW.out.size)⟩
                 case measure => simp [intOf]; omega)
              | (go_ret
                 refine ⟨?_, HBW.out.trans (HJ.out.mono HBW.out.size)⟩
                 rw [← HRES.out, fitL, all_take_false _ l (j + 1) (by rw [HTS.out, HAL.out]; rfl)]
                 rfl)
              | (refine ⟨?_, HBW.out.trans (HJ.out.mono HBW.out.size)⟩
                 rw [← HRES.out, fitL, all_take_false _ l (j + 1) (by rw [HTS.out, HAL.out]; rfl)]
                 rfl)
      · have HC := Lib.hid hcc
        simp only [List.append_toArray, Array.append_empty, List.cons_append, List.nil_append] at HC
        clear hcc
        have b2 := Blk.new wr tNd #[.int .i64 (rk : Nat), .func (.func 73) #[] #[z1, z2]]
        have hb2 : Below wr.heap.size wr (wr.alloc (.cells #[.int .i64 (rk : Nat), .func (.func 73) #[] #[z1, z2]] tNd)) := (Below.refl _ _).alloc (Nat.le_refl _) _
        cases b
        all_goals
          go_upto_region 4 with (fail)
          generalize (wr.alloc (.cells #[.int .i64 (rk : Nat), .func (.func 73) #[] #[z1, z2]] tNd)) = W2 at *
          have HB2 := Lib.hid hb2
          have p0 : W2.cell? ⟨wr.heap.size, 0, none⟩ = some (.int .i64 (rk : Nat)) := b2.cell 0
          have p1 : W2.cell? ⟨wr.heap.size, 1, none⟩ = some (.func (.func 73) #[] #[z1, z2]) := b2.cell 1
          have pl := b2.lt
          have c5' : W2.cell? ⟨cb, 5, none⟩ = some (.slice (some ⟨g2, o2, none⟩) f.regs.length rc) := (hb2.cell (p := ⟨cb, 5, none⟩) cl).trans c5
          have y0' : W2.cell? ⟨g2, o2 + rk, none⟩ = some (.int .i64 tv) := (hb2.cell (p := ⟨g2, o2 + rk, none⟩) gl2).trans y0
          have cl' : cb < W2.heap.size := by have := hb2.size; omega
          have gl2' : g2 < W2.heap.size := by have := hb2.size; omega
          have HS : Hid (∀ Wx, Below W2.heap.size W2 Wx → Wx.cell? ⟨wr.heap.size, 0, none⟩ = some (.int .i64 (rk : Nat)) ∧ Wx.cell? ⟨wr.heap.size, 1, none⟩ = some (.func (.func 73) #[] #[z1, z2]) ∧ Wx.cell? ⟨cb, 5, none⟩ = some (.slice (some ⟨g2, o2, none⟩) f.regs.length rc) ∧ Wx.cell? ⟨g2, o2 + rk, none⟩ = some (.int .i64 tv) ∧ wr.heap.size < Wx.heap.size ∧ cb < Wx.heap.size ∧ g2 < Wx.heap.size) := Lib.hid fun Wx h => by
            have hz := h.size
            exact ⟨(h.cell (p := ⟨wr.heap.size, 0, none⟩) pl).trans p0, (h.cell (p := ⟨wr.heap.size, 1, none⟩) pl).trans p1, (h.cell (p := ⟨cb, 5, none⟩) cl').trans c5', (h.cell (p := ⟨g2, o2 + rk, none⟩) gl2').trans y0', by omega, by omega, by omega⟩
          have J : Below W2.heap.size W2 W2 := Below.refl _ _
          clear hb2 b2 x0 x1 c5 y0
          go_region_held3 (fun Wx => Wx.cell? ⟨wr.heap.size, 0, none⟩ = some (.int .i64 (rk : Nat)) ∧ Wx.cell? ⟨wr.heap.size, 1, none⟩ = some (.func (.func 73) #[] #[z1, z2]) ∧ Wx.cell? ⟨cb, 5, none⟩ = some (.slice (some ⟨g2, o2, none⟩) f.regs.length rc) ∧ Wx.cell? ⟨g2, o2 + rk, none⟩ = some (.int .i64 tv) ∧ wr.heap.size < Wx.heap.size ∧ cb < Wx.heap.size ∧ g2 < Wx.heap.size)
            (first | exact ⟨p0, p1, c5', y0', pl, cl', gl2'⟩ | exact HS.out _ J)
            (first
              | (go_at_call 73; (with_reducible refine Calls.mono (HC.out _ ?hw) ?_); (case hw => first | exact HB2.out.trans (J.mono HB2.out.size) | exact HB2.out.trans (J.drew.mono HB2.out.size)); rintro e v1 ⟨rfl, b1⟩; have J : Below W2.heap.size W2 v1 := by first | exact J.trans (b1.mono J.size) | exact J.drew.trans (b1.mono J.drew.size)))
          all_goals
            have HJ := Lib.hid (HB2.out.trans (J.mono HB2.out.size))
            clear J
            go_wp2_with fail
            first
              | (go_roundw
                 case rel => exact ⟨j + 1, by omega, by go_num, by rw [HTS.out, HAL.out]; rfl, HBW.out.trans (HJ.out.mono HBW.out.size)⟩
                 case measure => simp [intOf]; omega)
              | (go_ret
                 refine ⟨?_, HBW.out.trans (HJ.out.mono HBW.out.size)⟩
                 rw [← HRES.out, fitL, all_take_false _ l (j + 1) (by rw [HTS.out, HAL.out]; rfl)]
                 rfl)
              | (refine ⟨?_, HBW.out.trans (HJ.out.mono HBW.out.size)⟩
                 rw [← HRES.out, fitL, all_take_false _ l (j + 1) (by rw [HTS.out, HAL.out]; rfl)]
                 rfl)
      · have HC := Lib.hid hcc
        simp only [List.append_toArray, Array.append_empty, List.cons_append, List.nil_append] at HC
        clear hcc
        have b2 := Blk.new wr tNd #[.int .i64 (rk : Nat), .func (.func 72) #[] #[z1, z2, z3]]
        have hb2 : Below wr.heap.size wr (wr.alloc (.cells #[.int .i64 (rk : Nat), .func (.func 72) #[] #[z1, z2, z3]] tNd)) := (Below.refl _ _).alloc (Nat.le_refl _) _
        cases b
        all_goals
          go_upto_region 4 with (fail)
          generalize (wr.alloc (.cells #[.int .i64 (rk : Nat), .func (.func 72) #[] #[z1, z2, z3]] tNd)) = W2 at *
          have HB2 := Lib.hid hb2
          have p0 : W2.cell? ⟨wr.heap.size, 0, none⟩ = some (.int .i64 (rk : Nat)) := b2.cell 0
          have p1 : W2.cell? ⟨wr.heap.size, 1, none⟩ = some (.func (.func 72) #[] #[z1, z2, z3]) := b2.cell 1
          have pl := b2.lt
          have c5' : W2.cell? ⟨cb, 5, none⟩ = some (.slice (some ⟨g2, o2, none⟩) f.regs.length rc) := (hb2.cell (p := ⟨cb, 5, none⟩) cl).trans c5
          have y0' : W2.cell? ⟨g2, o2 + rk, none⟩ = some (.int .i64 tv) := (hb2.cell (p := ⟨g2, o2 + rk, none⟩) gl2).trans y0
          have cl' : cb < W2.heap.size := by have := hb2.size; omega
          have gl2' : g2 < W2.heap.size := by have := hb2.size; omega
          have HS : Hid (∀ Wx, Below W2.heap.size W2 Wx → Wx.cell? ⟨wr.heap.size, 0, none⟩ = some (.int .i64 (rk : Nat)) ∧ Wx.cell? ⟨wr.heap.size, 1, none⟩ = some (.func (.func 72) #[] #[z1, z2, z3]) ∧ Wx.cell? ⟨cb, 5, none⟩ = some (.slice (some ⟨g2, o2, none⟩) f.regs.length rc) ∧ Wx.cell? ⟨g2, o2 + rk, none⟩ = some (.int .i64 tv) ∧ wr.heap.size < Wx.heap.size ∧ cb < Wx.heap.size ∧ g2 < Wx.heap.size) := Lib.hid fun Wx h => by
            have hz := h.size
            exact ⟨(h.cell (p := ⟨wr.heap.size, 0, none⟩) pl).trans p0, (h.cell (p := ⟨wr.heap.size, 1, none⟩) pl).trans p1, (h.cell (p := ⟨cb, 5, none⟩) cl').trans c5', (h.cell (p := ⟨g2, o2 + rk, none⟩) gl2').trans y0', by omega, by omega, by omega⟩
          have J : Below W2.heap.size W2 W2 := Below.refl _ _
          clear hb2 b2 x0 x1 c5 y0
          go_region_held3 (fun Wx => Wx.cell? ⟨wr.heap.size, 0, none⟩ = some (.int .i64 (rk : Nat)) ∧ Wx.cell? ⟨wr.heap.size, 1, none⟩ = some (.func (.func 72) #[] #[z1, z2, z3]) ∧ Wx.cell? ⟨cb, 5, none⟩ = some (.slice (some ⟨g2, o2, none⟩) f.regs.length rc) ∧ Wx.cell? ⟨g2, o2 + rk, none⟩ = some (.int .i64 tv) ∧ wr.heap.size < Wx.heap.size ∧ cb < Wx.heap.size ∧ g2 < Wx.heap.size)
            (first | exact ⟨p0, p1, c5', y0', pl, cl', gl2'⟩ | exact HS.out _ J)
            (first
              | (go_at_call 72; (with_reducible refine Calls.mono (HC.out _ ?hw) ?_); (case hw => first | exact HB2.out.trans (J.mono HB2.out.size) | exact HB2.out.trans (J.drew.mono HB2.out.size)); rintro e v1 ⟨rfl, b1⟩; have J : Below W2.heap.size W2 v1 := by first | exact J.trans (b1.mono J.size) | exact J.drew.trans (b1.mono J.drew.size)))
          all_goals
            have HJ := Lib.hid (HB2.out.trans (J.mono HB2.out.size))
            clear J
            go_wp2_with fail
            first
              | (go_roundw
                 case rel => exact ⟨j + 1, by omega, by go_num, by rw [HTS.out, HAL.out]; rfl, HBW.out.trans (HJ.out.mono HBW.out.size)⟩
                 case measure => simp [intOf]; omega)
              | (go_ret
                 refine ⟨?_, HBW.out.trans (HJ.out.mono HBW.out.size)⟩
                 rw [← HRES.out, fitL, all_take_false _ l (j + 1) (by rw [HTS.out, HAL.out]; rfl)]
                 rfl)
              | (refine ⟨?_, HBW.out.trans (HJ.out.mono HBW.out.size)⟩
                 rw [← HRES.out, fitL, all_take_false _ l (j + 1) (by rw [HTS.out, HAL.out]; rfl)]
                 rfl)
    · obtain rfl : n = j := by omega
      clear hbw
      go_wp2_with fail
      go_ret
      refine ⟨?_, HBW.out⟩
      rw [← HRES.out, fitL]
      have := HAL.out
      rw [List.take_of_length_le (by rw [HN.out]; exact Nat.le_refl _)] at this
      rw [this]
      rfl
end Go.Proofs.Ytjmlpbnejcfnhaa
