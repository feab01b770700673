/-
  Layer parse, printing: what the variables hold; nodes in memory; numbers, patterns, parentheses.
-/
import Derived.Test.YtlbjjpfhkgagiaaGreatDoorPrc
import Derived.Test.YtlbjjpfhkgagiaaGreatDoorParc
import Derived.Lib.SmallJoins
import Derived.BigQuiet
import Derived.Deep.QuietTactic
namespace Go.Proofs.YtlbjjpfhkgagiaaGreatDoor
open Go.RowKit Go.Shelf
set_option linter.unusedVariables false
set_option linter.unusedSimpArgs false

abbrev gP : Nat := 3
abbrev gA : Nat := 2
theorem nP : Tryz.prog.globalNamed "mortise/parse.patterns" = some gP := by kernel_rfl
theorem nA : Tryz.prog.globalNamed "strings.asciiSpace" = some gA := by kernel_rfl
/-- A pattern: its parts, a blank between any two. -/
def patS (l : Tx) : List UInt8 := [32].intercalate l
def patT : List (List UInt8) := (List.range 22).map fun k : Nat => patS (patL (k : Int) 0)
/-- What Print's walks want of the variables. -/
structure EnvW (B : Nat) (w : World) : Prop where
  en : Env w
  ty : EnvY w
  pt : w.var? Tryz.prog "mortise/parse.patterns" = some (patT.map fun z => Value.string (str z)).toArray
  sp : Lib.TabIs Tryz.prog w "strings.asciiSpace" .u8 Lib.asciiSpaceTab
  zS : gS < B
  zT : gT < B
  zR : gR < B
  zY : gY < B
  zP : gP < B
  zA : gA < B
theorem EnvW.below {B : Nat} {w w' : World} (h : EnvW B w) (hb : Below B w w') : EnvW B w' where
  en := by
    obtain ⟨tp, p, hr⟩ := h.en.rng
    exact ⟨(var?_same nT hb h.zT).trans h.en.tab, ⟨tp, p, (var?_same nR hb h.zR).trans hr⟩, (var?_same nS hb h.zS).trans h.en.sgn, Nat.lt_of_lt_of_le h.en.szS hb.size, Nat.lt_of_lt_of_le h.en.szT hb.size, Nat.lt_of_lt_of_le h.en.szR hb.size⟩
  ty := ⟨(var?_same nY hb h.zY).trans h.ty.ty, Nat.lt_of_lt_of_le h.ty.szY hb.size⟩
  pt := (var?_same nP hb h.zP).trans h.pt
  sp := (var?_same nA hb h.zA).trans h.sp
  zS := h.zS
  zT := h.zT
  zR := h.zR
  zY := h.zY
  zP := h.zP
  zA := h.zA
theorem EnvW.typeCell {B : Nat} {w : World} (h : EnvW B w) {k : Nat} (hk : k < 4) : w.cell? ⟨gY, k, none⟩ = some (.string (str (typeW k))) ∧ gY < w.heap.size := by
  refine ⟨?_, h.ty.szY⟩
  rw [World.var?_cell nY h.ty.ty k]
  rcases (by omega : k = 0 ∨ k = 1 ∨ k = 2 ∨ k = 3) with rfl | rfl | rfl | rfl <;> rfl
theorem EnvW.patCell {B : Nat} {w : World} (h : EnvW B w) {k : Nat} (hk : k < 22) : w.cell? ⟨gP, k, none⟩ = some (.string (str (patS (patL k 0)))) ∧ gP < w.heap.size := by
  refine ⟨?_, lt_of_var nP h.pt⟩
  rw [World.var?_cell nP h.pt k]
  simp only [patT, List.getElem?_toArray, List.getElem?_map, List.getElem?_range hk, Option.map_some]

/-! nodes in memory, as they are read -/
def RdI (w : World) (B : Nat) (A : Option Addr) (ks : List Nat) : Prop :=
  ks = [] ∨ ∃ g o, A = some ⟨g, o, none⟩ ∧ g < B ∧ ∀ i k, ks[i]? = some k → w.cell? ⟨g, o + i, none⟩ = some (.int .i64 (k : Nat))
theorem RdI.below {w w' : World} {B : Nat} {A : Option Addr} {ks : List Nat} (h : RdI w B A ks) (hb : Below B w w') : RdI w' B A ks := by
  rcases h with h | ⟨g, o, e, hg, hc⟩
  · exact .inl h
  · exact .inr ⟨g, o, e, hg, fun i k hk => (hb.cell (p := ⟨g, o + i, none⟩) hg).trans (hc i k hk)⟩
def RdN (w : World) (B : Nat) (A : Option Addr) (ns : List NV) : Prop :=
  ns = [] ∨ ∃ g o, A = some ⟨g, o, none⟩ ∧ g < B ∧ ∀ i x, ns[i]? = some x → ∀ j, j < 8 → w.cell? ⟨g, o + i * 8 + j, none⟩ = (cells8 x)[j]?
theorem RdN.below {w w' : World} {B : Nat} {A : Option Addr} {ns : List NV} (h : RdN w B A ns) (hb : Below B w w') : RdN w' B A ns := by
  rcases h with h | ⟨g, o, e, hg, hc⟩
  · exact .inl h
  · exact .inr ⟨g, o, e, hg, fun i x hx j hj => (hb.cell (p := ⟨g, o + i * 8 + j, none⟩) hg).trans (hc i x hx j hj)⟩
/-- A node's kids are a slice that can be read. -/
def NdI (w : World) (B : Nat) (x : NV) : Prop := ∃ A c, x.v = .slice A x.kids.length c ∧ x.kids.length ≤ c ∧ c ≤ maxLen ∧ RdI w B A x.kids
/-- All nodes, behind the slice nv. -/
structure Nds (w : World) (B : Nat) (nv : Value) (ns : List NV) : Prop where
  len : ns.length ≤ 4000
  sl : ∃ A c, nv = .slice A ns.length c ∧ RdN w B A ns
  kids : ∀ x ∈ ns, NdI w B x
theorem NdI.below {w w' : World} {B : Nat} {x : NV} (h : NdI w B x) (hb : Below B w w') : NdI w' B x := by
  obtain ⟨A, c, h1, h2, h3, h4⟩ := h
  exact ⟨A, c, h1, h2, h3, h4.below hb⟩
theorem Nds.below {w w' : World} {B : Nat} {nv : Value} {ns : List NV} (h : Nds w B nv ns) (hb : Below B w w') : Nds w' B nv ns where
  len := h.len
  sl := by obtain ⟨A, c, h1, h2⟩ := h.sl; exact ⟨A, c, h1, h2.below hb⟩
  kids := fun x hx => (h.kids x hx).below hb
theorem cellsN_at (ns : List NV) (i j : Nat) (hj : j < 8) : (cellsN ns)[i * 8 + j]? = (ns[i]?).bind fun t => (cells8 t)[j]? := by
  induction ns generalizing i with
  | nil => simp [cellsN]
  | cons t l ih =>
    have e : cellsN (t :: l) = cells8 t ++ cellsN l := by simp [cellsN]
    rw [e]
    cases i with
    | zero => rw [List.getElem?_append_left (by simp [cells8]; omega)]; simp
    | succ i =>
      rw [List.getElem?_append_right (by simp [cells8]; omega)]
      have : (i + 1) * 8 + j - (cells8 t).length = i * 8 + j := by simp [cells8]; omega
      rw [this, ih]
      simp
theorem NdI.of_own {w : World} {base : Nat} {x : NV} (h : w.ownsRow base tI 1 x.v x.kids.length (kidCells x.kids)) : NdI w w.heap.size x := by
  rcases h.2 with ⟨hv, h0⟩ | ⟨g, cap, cur, hv, _, hh, hnc, hcm, hsz, hcur⟩
  · have : x.kids = [] := List.eq_nil_of_length_eq_zero h0
    exact ⟨none, 0, by rw [hv, this]; rfl, by rw [this]; exact Nat.le_refl _, by unfold maxLen; omega, .inl this⟩
  · refine ⟨some ⟨g, 0, none⟩, cap, hv, hnc, hcm, .inr ⟨g, 0, rfl, (Array.getElem?_eq_some_iff.1 hh).1, fun i k hk => ?_⟩⟩
    have hi : i < x.kids.length := (List.getElem?_eq_some_iff.1 hk).1
    rw [cell_of_row w g _ cur tI (0, 0) hh, Nat.zero_add]
    have : (cur.toList.take (x.kids.length * 1))[i]? = (kidCells x.kids)[i]? := by rw [hcur]
    rw [List.getElem?_take_of_lt (by omega), Array.getElem?_toList] at this
    rw [this]
    simp [kidCells, hk]
theorem Nds.of_own {w : World} {base : Nat} {nv : Value} {ns : List NV} (h : w.ownsRow base tN 8 nv ns.length (cellsN ns)) (hl : ns.length ≤ 4000) (hk : ∀ x ∈ ns, w.ownsRow base tI 1 x.v x.kids.length (kidCells x.kids)) : Nds w w.heap.size nv ns where
  len := hl
  sl := by
    rcases h.2 with ⟨hv, h0⟩ | ⟨g, cap, cur, hv, _, hh, hnc, hcm, hsz, hcur⟩
    · have : ns = [] := List.eq_nil_of_length_eq_zero h0
      exact ⟨none, 0, by rw [hv, this]; rfl, .inl this⟩
    · refine ⟨some ⟨g, 0, none⟩, cap, hv, .inr ⟨g, 0, rfl, (Array.getElem?_eq_some_iff.1 hh).1, fun i x hx j hj => ?_⟩⟩
      have hi : i < ns.length := (List.getElem?_eq_some_iff.1 hx).1
      rw [cell_of_row w g _ cur tN (0, 0) hh]
      have e1 := cellsN_at ns i j hj
      rw [hx] at e1
      simp only [Option.bind_some] at e1
      rw [← e1, ← hcur, List.getElem?_take_of_lt (by omega), Array.getElem?_toList]
      congr 1
      omega
  kids := fun x hx => NdI.of_own (hk x hx)

set_option maxHeartbeats 2000000 in
set_option maxRecDepth 100000 in
theorem digits_any (x : NV) (w : World) (hE : Env w) (h0 : -9223372036854775808 ≤ x.h.n) (h1 : x.h.n ≤ 9223372036854775807) :
    Calls Tryz.prog 137 #[nodeV x] w fun e w' => e = .returned (.string (str (digL x.h))) ∧ Below w.heap.size w w' := by
  have hz := Lib.itoa_length_le x.h.n h0 h1
  have hE1 : Env (w.alloc (.cells (cells8 x).toArray tN)) := hE.of ((Below.refl _ _).alloc (Nat.le_refl _) _)
  have HE := Lib.hid hE1
  have hB := fun (o : Obj) => (Below.refl w.heap.size w).alloc (Nat.le_refl _) o
  have HB := Lib.hid hB
  clear hE hE1 hB
  by_cases hL : x.h.ty = 2
  · have hd : (x.h.ty == 2) = true := by simpa using hL
    have hzz : (str (Lib.itoa x.h.n)).size + (str [76]).size ≤ 9223372036854775807 := by rw [str_size, str_size]; simp; omega
    have hadd := fun W : World => run_string_add_sum (P := Tryz.prog) W (str (Lib.itoa x.h.n)) (str [76]) hzz
    have hD : digL x.h = Lib.itoa x.h.n ++ [76] := by rw [digL, if_pos hL]
    simp only [str_append] at hadd
    rw [hD]
    unfold nodeV cells8
    unfold cells8 at HE
    clear hzz hz hL hD
    go_enter Tryz.func137, Tryz.ntmps137
    go_wp2_with fail
    refine (itoa_any _ h0 h1 _ HE.out).mono ?_
    rintro e w1 ⟨rfl, hb1⟩
    obtain ⟨hcl, hfr⟩ := bcell hb1
    have HB1 := Lib.hid ((HB.out _).trans (hb1.mono (by simp)))
    have hs1 := hb1.size
    clear hb1
    go_wp2
    go_ret
    exact ⟨rfl, HB1.out⟩
  · have hd : (x.h.ty == 2) = false := by simpa using hL
    have hD : digL x.h = Lib.itoa x.h.n := by rw [digL, if_neg hL, List.append_nil]
    rw [hD]
    unfold nodeV cells8
    unfold cells8 at HE
    clear hz hL hD
    go_enter Tryz.func137, Tryz.ntmps137
    go_wp2_with fail
    refine (itoa_any _ h0 h1 _ HE.out).mono ?_
    rintro e w1 ⟨rfl, hb1⟩
    obtain ⟨hcl, hfr⟩ := bcell hb1
    have HB1 := Lib.hid ((HB.out _).trans (hb1.mono (by simp)))
    have hs1 := hb1.size
    clear hb1
    go_wp2
    go_ret
    exact ⟨rfl, HB1.out⟩

set_option maxHeartbeats 4000000 in
set_option maxRecDepth 100000 in
theorem enclosed_any' (x y : NV) (i : Nat) (w : World) :
    Calls Tryz.prog 159 #[nodeV x, .int .i64 i, nodeV y] w fun e w' => e = .returned (.bool (encl x.h i y.h)) ∧ Below w.heap.size w w' := by
  have hB := fun (o o' : Obj) => ((Below.refl w.heap.size w).alloc (Nat.le_refl _) o).alloc (by simp) o'
  have HB := Lib.hid hB
  unfold nodeV cells8
  clear hB
  by_cases h5 : y.h.op = 5
  · have d5 : (y.h.op != 5) = false := by simpa using h5
    have e5 : decide (y.h.op = 5) = true := by simpa using h5
    by_cases h4 : x.h.op = 4
    · have d4 : (x.h.op == 4) = true := by simpa using h4
      have hr : encl x.h i y.h = true := by simp [encl, h5, h4]
      rw [hr]
      clear h4 h5
      go_enter Tryz.func159, Tryz.ntmps159
      go_wp2
      go_ret
      exact ⟨rfl, HB.out _ _⟩
    · have d4 : (x.h.op == 4) = false := by simpa using h4
      by_cases h6 : x.h.op = 6
      · have d6 : (x.h.op == 6) = true := by simpa using h6
        have hr : encl x.h i y.h = true := by simp [encl, h5, h6]
        rw [hr]
        clear h4 h5 h6
        go_enter Tryz.func159, Tryz.ntmps159
        go_wp2
        go_ret
        exact ⟨rfl, HB.out _ _⟩
      · have d6 : (x.h.op == 6) = false := by simpa using h6
        by_cases h55 : x.h.op = 5
        · have d55 : (x.h.op != 5) = false := by simpa using h55
          by_cases hi : i = 0
          · have hr : encl x.h i y.h = decide (lvl y.h.s < lvl x.h.s) := by simp [encl, h5, h55, hi]
            rw [hr]
            subst hi
            clear h4 h5 h6 h55
            go_enter Tryz.func159, Tryz.ntmps159
            go_wp2
            go_quiet ((go_at_call 171; exact Calls.quiet_of_same ((level_any _ _ (str_list _) _).mono fun _ _ h => ⟨h.1, h.2.symm⟩)))
            go_wp2
            go_ret
            exact ⟨ret_bool (by rw [Bool.eq_iff_iff]), (HB.out _ _).trans (below_drewN _ _ _)⟩
          · have hr : encl x.h i y.h = decide (lvl y.h.s ≤ lvl x.h.s) := by simp [encl, h5, h55, hi]
            have di : ((i : Int) == 0) = false := by simpa using hi
            rw [hr]
            clear h4 h5 h6 h55
            go_enter Tryz.func159, Tryz.ntmps159
            go_wp2
            go_quiet ((go_at_call 171; exact Calls.quiet_of_same ((level_any _ _ (str_list _) _).mono fun _ _ h => ⟨h.1, h.2.symm⟩)))
            go_wp2
            go_ret
            exact ⟨ret_bool (by rw [Bool.eq_iff_iff]), (HB.out _ _).trans (below_drewN _ _ _)⟩
        · have d55 : (x.h.op != 5) = true := by simpa using h55
          have hr : encl x.h i y.h = false := by simp [encl, h5, h4, h6, h55]
          rw [hr]
          clear h4 h5 h6 h55
          go_enter Tryz.func159, Tryz.ntmps159
          go_wp2
          go_ret
          exact ⟨rfl, HB.out _ _⟩
  · have d5 : (y.h.op != 5) = true := by simpa using h5
    have hr : encl x.h i y.h = false := by simp [encl, h5]
    rw [hr]
    clear h5
    go_enter Tryz.func159, Tryz.ntmps159
    go_wp2
    go_ret
    exact ⟨rfl, HB.out _ _⟩
end Go.Proofs.YtlbjjpfhkgagiaaGreatDoor
