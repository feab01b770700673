/-
  Layer check: a slice that is read is cloned (slices.Clone at five element types), and a text (strings.Clone). Layer check: a program is copied, without what checking tells: views, and the copies of its three lists. Layer check: unchecked: a program is copied, without what checking tells. Layer check: newChecker. Layer check: Check's deferred function. Layer check: Check, of a program that has functions.
-/
import Derived.Test.YtfaoiajhoifalaaGreatDoorMt5
import Derived.Lib.SliceRun
import Derived.Defers
import Derived.Recover
import Derived.Laws.Pointers
/-! Cla -/
namespace Go.Proofs.YtfaoiajhoifalaaGreatDoor
open Go Go.RowKit Go.Maps
set_option linter.unusedVariables false
set_option linter.unusedSimpArgs false

/-- A slice that is read: its n elements' cells. -/
def RdS (w : World) (v : Value) (n : Nat) (xs : List Value) : Prop := ∃ A c, v = .slice A n c ∧ ((A = none ∧ xs = []) ∨ ∃ b o, A = some ⟨b, o, none⟩ ∧ ∀ (j : Nat) (u : Value), xs[j]? = some u → b < w.heap.size ∧ w.cell? ⟨b, o + j, none⟩ = some u)
theorem RdS.on {w w' : World} {v : Value} {n : Nat} {xs : List Value} (h : RdS w v n xs) (hb : Below w.heap.size w w') : RdS w' v n xs := by
  obtain ⟨A, c, e, h⟩ := h
  refine ⟨A, c, e, h.imp id ?_⟩
  rintro ⟨b, o, e, hc⟩
  refine ⟨b, o, e, fun j u hj => ?_⟩
  obtain ⟨h1, h2⟩ := hc j u hj
  exact ⟨Nat.lt_of_lt_of_le h1 hb.size, (hb.cell (p := ⟨b, _, none⟩) h1).trans h2⟩
theorem RdS.of_row {w : World} {B n sz : Nat} {t : TypeId} {v : Value} {xs : List Value} (h : w.ownsRow B t sz v n xs) : RdS w v n xs := by
  have hl := h.1
  rcases h.2 with ⟨rfl, rfl⟩ | ⟨g, cap, cur, rfl, h1, h2, h3⟩
  · exact ⟨none, 0, rfl, .inl ⟨rfl, by simpa using hl⟩⟩
  · refine ⟨_, cap, rfl, .inr ⟨g, 0, rfl, fun j u hj => ⟨(Array.getElem?_eq_some_iff.1 h2).1, ?_⟩⟩⟩
    rw [Nat.zero_add, h.cellAt j (by have := (List.getElem?_eq_some_iff.1 hj).1; omega)]
    exact hj
theorem infoClG : (Tryz.prog.info? tGb).map (fun i => (i.zero, i.size, i.bytes)) = some (some (.agg #[.string ⟨#[]⟩, .int .i64 0, .int .i64 0, .int .i64 0]), 4, 40) := by kernel_rfl
set_option maxHeartbeats 1000000 in
set_option maxRecDepth 100000 in
theorem cloneClG_any {w : World} {v : Value} {n : Nat} {xs : List Value} (h : RdS w v n xs) (hl : xs.length = n * 4) (hn : n ≤ 1000000) (h1 : ∀ u ∈ xs, u.oneCell' = true) :
    Calls Tryz.prog 87 #[v] w fun e w' => ∃ v', e = .returned v' ∧ w'.ownsRow w.heap.size tGb 4 v' n xs ∧ (1 ≤ n → ∃ g c, v' = .slice (some ⟨g, 0, none⟩) n c) ∧ Below w.heap.size w w' := by
  obtain ⟨i0, hi, hz0, hz1, hz2⟩ := info_pk infoClG
  have q22 : ∀ (w : World) (a : Option Addr) (n c n' c' : Nat), (binOp .eql 23 (.slice a n c) (.slice none n' c')).run Tryz.prog w = .ok (.bool a.isNone) w := fun w a n c n' c' => Lib.run_eql_slice_nil w _ _ a n c n' c' Tryz.underlying23
  obtain ⟨A, c, rfl, h⟩ := h
  rcases h with ⟨rfl, rfl⟩ | ⟨b, o, rfl, hc⟩
  · obtain rfl : n = 0 := by simp only [List.length_nil] at hl; omega
    go_enter Tryz.func87, Tryz.ntmps87
    go_wp2_with fail
    go_ret
    exact ⟨_, rfl, World.ownsRow_nil _ _ _ _, fun e => by omega, Below.refl _ _⟩
  · have HC := Lib.hid hc
    clear hc
    go_enter Tryz.func87, Tryz.ntmps87
    go_wp2_with (at_builtin; refine wpList_append_own _ rfl _ _ 23 rfl w.heap.size tGb i0 _ 4 40 Tryz.underlying23 hi hz0 hz1 hz2 rfl (by omega) _ _ _ rfl (World.ownsRow_made w #[] 0 (Nat.le_refl _) (Nat.zero_le _) (by simp)) ⟨b, o, none⟩ n c xs rfl ?qc1 ?qc2 ?qc3 ?qc4 ?qc5 ?qc6 ?_)
    case qc1 => exact hl
    case qc2 =>
      intro j u hj
      rw [Addr.add_lit]
      exact (((Below.refl _ w).alloc (Nat.le_refl _) _).cell (p := ⟨b, _, none⟩) (HC.out j u hj).1).trans (HC.out j u hj).2
    case qc3 => exact h1
    case qc4 => rw [Nat.zero_add]; unfold maxLen; omega
    case qc5 => rw [Nat.zero_add]; omega
    case qc6 => simp
    intro v' w1 hown hgrow hnil
    have HF := Lib.hid (And.intro hown (And.intro hgrow hnil))
    clear hown hgrow hnil
    go_wp2_with fail
    go_ret
    obtain ⟨hown, hgrow, hnil⟩ := HF.out
    refine ⟨v', rfl, by simpa using hown, fun hn1 => ?_, ((Below.refl _ w).alloc (Nat.le_refl _) _).grown hgrow (by simp) (by intro k hk; simp [Value.ownBlock] at hk; omega)⟩
    rcases hown.2 with ⟨-, e⟩ | ⟨g, cap, cur, e, _⟩
    · omega
    · exact ⟨g, cap, by simpa using e⟩
theorem infoClF : (Tryz.prog.info? tFu).map (fun i => (i.zero, i.size, i.bytes)) = some (some (.agg #[.string ⟨#[]⟩, .int .i64 0, .slice none 0 0, .int .i64 0, .int .i64 0, .slice none 0 0]), 6, 88) := by kernel_rfl
set_option maxHeartbeats 1000000 in
set_option maxRecDepth 100000 in
theorem cloneClF_any {w : World} {v : Value} {n : Nat} {xs : List Value} (h : RdS w v n xs) (hl : xs.length = n * 6) (hn : n ≤ 1000000) (h1 : ∀ u ∈ xs, u.oneCell' = true) :
    Calls Tryz.prog 88 #[v] w fun e w' => ∃ v', e = .returned v' ∧ w'.ownsRow w.heap.size tFu 6 v' n xs ∧ (1 ≤ n → ∃ g c, v' = .slice (some ⟨g, 0, none⟩) n c) ∧ Below w.heap.size w w' := by
  obtain ⟨i0, hi, hz0, hz1, hz2⟩ := info_pk infoClF
  have q22 : ∀ (w : World) (a : Option Addr) (n c n' c' : Nat), (binOp .eql 24 (.slice a n c) (.slice none n' c')).run Tryz.prog w = .ok (.bool a.isNone) w := fun w a n c n' c' => Lib.run_eql_slice_nil w _ _ a n c n' c' Tryz.underlying24
  obtain ⟨A, c, rfl, h⟩ := h
  rcases h with ⟨rfl, rfl⟩ | ⟨b, o, rfl, hc⟩
  · obtain rfl : n = 0 := by simp only [List.length_nil] at hl; omega
    go_enter Tryz.func88, Tryz.ntmps88
    go_wp2_with fail
    go_ret
    exact ⟨_, rfl, World.ownsRow_nil _ _ _ _, fun e => by omega, Below.refl _ _⟩
  · have HC := Lib.hid hc
    clear hc
    go_enter Tryz.func88, Tryz.ntmps88
    go_wp2_with (at_builtin; refine wpList_append_own _ rfl _ _ 24 rfl w.heap.size tFu i0 _ 6 88 Tryz.underlying24 hi hz0 hz1 hz2 rfl (by omega) _ _ _ rfl (World.ownsRow_made w #[] 0 (Nat.le_refl _) (Nat.zero_le _) (by simp)) ⟨b, o, none⟩ n c xs rfl ?qc1 ?qc2 ?qc3 ?qc4 ?qc5 ?qc6 ?_)
    case qc1 => exact hl
    case qc2 =>
      intro j u hj
      rw [Addr.add_lit]
      exact (((Below.refl _ w).alloc (Nat.le_refl _) _).cell (p := ⟨b, _, none⟩) (HC.out j u hj).1).trans (HC.out j u hj).2
    case qc3 => exact h1
    case qc4 => rw [Nat.zero_add]; unfold maxLen; omega
    case qc5 => rw [Nat.zero_add]; omega
    case qc6 => simp
    intro v' w1 hown hgrow hnil
    have HF := Lib.hid (And.intro hown (And.intro hgrow hnil))
    clear hown hgrow hnil
    go_wp2_with fail
    go_ret
    obtain ⟨hown, hgrow, hnil⟩ := HF.out
    refine ⟨v', rfl, by simpa using hown, fun hn1 => ?_, ((Below.refl _ w).alloc (Nat.le_refl _) _).grown hgrow (by simp) (by intro k hk; simp [Value.ownBlock] at hk; omega)⟩
    rcases hown.2 with ⟨-, e⟩ | ⟨g, cap, cur, e, _⟩
    · omega
    · exact ⟨g, cap, by simpa using e⟩
theorem infoClN : (Tryz.prog.info? tNd).map (fun i => (i.zero, i.size, i.bytes)) = some (some (.agg #[.int .i64 0, .int .i64 0, .int .i64 0, .string ⟨#[]⟩, .int .i64 0, .slice none 0 0, .int .i64 0, .int .i64 0]), 8, 88) := by kernel_rfl
set_option maxHeartbeats 1000000 in
set_option maxRecDepth 100000 in
theorem cloneClN_any {w : World} {v : Value} {n : Nat} {xs : List Value} (h : RdS w v n xs) (hl : xs.length = n * 8) (hn : n ≤ 1000000) (h1 : ∀ u ∈ xs, u.oneCell' = true) :
    Calls Tryz.prog 89 #[v] w fun e w' => ∃ v', e = .returned v' ∧ w'.ownsRow w.heap.size tNd 8 v' n xs ∧ (1 ≤ n → ∃ g c, v' = .slice (some ⟨g, 0, none⟩) n c) ∧ Below w.heap.size w w' := by
  obtain ⟨i0, hi, hz0, hz1, hz2⟩ := info_pk infoClN
  have q22 : ∀ (w : World) (a : Option Addr) (n c n' c' : Nat), (binOp .eql 25 (.slice a n c) (.slice none n' c')).run Tryz.prog w = .ok (.bool a.isNone) w := fun w a n c n' c' => Lib.run_eql_slice_nil w _ _ a n c n' c' Tryz.underlying25
  obtain ⟨A, c, rfl, h⟩ := h
  rcases h with ⟨rfl, rfl⟩ | ⟨b, o, rfl, hc⟩
  · obtain rfl : n = 0 := by simp only [List.length_nil] at hl; omega
    go_enter Tryz.func89, Tryz.ntmps89
    go_wp2_with fail
    go_ret
    exact ⟨_, rfl, World.ownsRow_nil _ _ _ _, fun e => by omega, Below.refl _ _⟩
  · have HC := Lib.hid hc
    clear hc
    go_enter Tryz.func89, Tryz.ntmps89
    go_wp2_with (at_builtin; refine wpList_append_own _ rfl _ _ 25 rfl w.heap.size tNd i0 _ 8 88 Tryz.underlying25 hi hz0 hz1 hz2 rfl (by omega) _ _ _ rfl (World.ownsRow_made w #[] 0 (Nat.le_refl _) (Nat.zero_le _) (by simp)) ⟨b, o, none⟩ n c xs rfl ?qc1 ?qc2 ?qc3 ?qc4 ?qc5 ?qc6 ?_)
    case qc1 => exact hl
    case qc2 =>
      intro j u hj
      rw [Addr.add_lit]
      exact (((Below.refl _ w).alloc (Nat.le_refl _) _).cell (p := ⟨b, _, none⟩) (HC.out j u hj).1).trans (HC.out j u hj).2
    case qc3 => exact h1
    case qc4 => rw [Nat.zero_add]; unfold maxLen; omega
    case qc5 => rw [Nat.zero_add]; omega
    case qc6 => simp
    intro v' w1 hown hgrow hnil
    have HF := Lib.hid (And.intro hown (And.intro hgrow hnil))
    clear hown hgrow hnil
    go_wp2_with fail
    go_ret
    obtain ⟨hown, hgrow, hnil⟩ := HF.out
    refine ⟨v', rfl, by simpa using hown, fun hn1 => ?_, ((Below.refl _ w).alloc (Nat.le_refl _) _).grown hgrow (by simp) (by intro k hk; simp [Value.ownBlock] at hk; omega)⟩
    rcases hown.2 with ⟨-, e⟩ | ⟨g, cap, cur, e, _⟩
    · omega
    · exact ⟨g, cap, by simpa using e⟩
theorem infoClP : (Tryz.prog.info? tPr).map (fun i => (i.zero, i.size, i.bytes)) = some (some (.agg #[.string ⟨#[]⟩, .int .i64 0]), 2, 24) := by kernel_rfl
set_option maxHeartbeats 1000000 in
set_option maxRecDepth 100000 in
theorem cloneClP_any {w : World} {v : Value} {n : Nat} {xs : List Value} (h : RdS w v n xs) (hl : xs.length = n * 2) (hn : n ≤ 1000000) (h1 : ∀ u ∈ xs, u.oneCell' = true) :
    Calls Tryz.prog 91 #[v] w fun e w' => ∃ v', e = .returned v' ∧ w'.ownsRow w.heap.size tPr 2 v' n xs ∧ (1 ≤ n → ∃ g c, v' = .slice (some ⟨g, 0, none⟩) n c) ∧ Below w.heap.size w w' := by
  obtain ⟨i0, hi, hz0, hz1, hz2⟩ := info_pk infoClP
  have q22 : ∀ (w : World) (a : Option Addr) (n c n' c' : Nat), (binOp .eql 39 (.slice a n c) (.slice none n' c')).run Tryz.prog w = .ok (.bool a.isNone) w := fun w a n c n' c' => Lib.run_eql_slice_nil w _ _ a n c n' c' Tryz.underlying39
  obtain ⟨A, c, rfl, h⟩ := h
  rcases h with ⟨rfl, rfl⟩ | ⟨b, o, rfl, hc⟩
  · obtain rfl : n = 0 := by simp only [List.length_nil] at hl; omega
    go_enter Tryz.func91, Tryz.ntmps91
    go_wp2_with fail
    go_ret
    exact ⟨_, rfl, World.ownsRow_nil _ _ _ _, fun e => by omega, Below.refl _ _⟩
  · have HC := Lib.hid hc
    clear hc
    go_enter Tryz.func91, Tryz.ntmps91
    go_wp2_with (at_builtin; refine wpList_append_own _ rfl _ _ 39 rfl w.heap.size tPr i0 _ 2 24 Tryz.underlying39 hi hz0 hz1 hz2 rfl (by omega) _ _ _ rfl (World.ownsRow_made w #[] 0 (Nat.le_refl _) (Nat.zero_le _) (by simp)) ⟨b, o, none⟩ n c xs rfl ?qc1 ?qc2 ?qc3 ?qc4 ?qc5 ?qc6 ?_)
    case qc1 => exact hl
    case qc2 =>
      intro j u hj
      rw [Addr.add_lit]
      exact (((Below.refl _ w).alloc (Nat.le_refl _) _).cell (p := ⟨b, _, none⟩) (HC.out j u hj).1).trans (HC.out j u hj).2
    case qc3 => exact h1
    case qc4 => rw [Nat.zero_add]; unfold maxLen; omega
    case qc5 => rw [Nat.zero_add]; omega
    case qc6 => simp
    intro v' w1 hown hgrow hnil
    have HF := Lib.hid (And.intro hown (And.intro hgrow hnil))
    clear hown hgrow hnil
    go_wp2_with fail
    go_ret
    obtain ⟨hown, hgrow, hnil⟩ := HF.out
    refine ⟨v', rfl, by simpa using hown, fun hn1 => ?_, ((Below.refl _ w).alloc (Nat.le_refl _) _).grown hgrow (by simp) (by intro k hk; simp [Value.ownBlock] at hk; omega)⟩
    rcases hown.2 with ⟨-, e⟩ | ⟨g, cap, cur, e, _⟩
    · omega
    · exact ⟨g, cap, by simpa using e⟩
theorem infoClI : (Tryz.prog.info? tInt).map (fun i => (i.zero, i.size, i.bytes)) = some (some (.int .i64 0), 1, 8) := by kernel_rfl
set_option maxHeartbeats 1000000 in
set_option maxRecDepth 100000 in
theorem cloneClI_any {w : World} {v : Value} {n : Nat} {xs : List Value} (h : RdS w v n xs) (hl : xs.length = n * 1) (hn : n ≤ 1000000) (h1 : ∀ u ∈ xs, u.oneCell' = true) :
    Calls Tryz.prog 92 #[v] w fun e w' => ∃ v', e = .returned v' ∧ w'.ownsRow w.heap.size tInt 1 v' n xs ∧ (1 ≤ n → ∃ g c, v' = .slice (some ⟨g, 0, none⟩) n c) ∧ Below w.heap.size w w' := by
  obtain ⟨i0, hi, hz0, hz1, hz2⟩ := info_pk infoClI
  have q22 : ∀ (w : World) (a : Option Addr) (n c n' c' : Nat), (binOp .eql 40 (.slice a n c) (.slice none n' c')).run Tryz.prog w = .ok (.bool a.isNone) w := fun w a n c n' c' => Lib.run_eql_slice_nil w _ _ a n c n' c' Tryz.underlying40
  obtain ⟨A, c, rfl, h⟩ := h
  rcases h with ⟨rfl, rfl⟩ | ⟨b, o, rfl, hc⟩
  · obtain rfl : n = 0 := by simp only [List.length_nil] at hl; omega
    go_enter Tryz.func92, Tryz.ntmps92
    go_wp2_with fail
    go_ret
    exact ⟨_, rfl, World.ownsRow_nil _ _ _ _, fun e => by omega, Below.refl _ _⟩
  · have HC := Lib.hid hc
    clear hc
    go_enter Tryz.func92, Tryz.ntmps92
    go_wp2_with (at_builtin; refine wpList_append_own _ rfl _ _ 40 rfl w.heap.size tInt i0 _ 1 8 Tryz.underlying40 hi hz0 hz1 hz2 rfl (by omega) _ _ _ rfl (World.ownsRow_made w #[] 0 (Nat.le_refl _) (Nat.zero_le _) (by simp)) ⟨b, o, none⟩ n c xs rfl ?qc1 ?qc2 ?qc3 ?qc4 ?qc5 ?qc6 ?_)
    case qc1 => exact hl
    case qc2 =>
      intro j u hj
      rw [Addr.add_lit]
      exact (((Below.refl _ w).alloc (Nat.le_refl _) _).cell (p := ⟨b, _, none⟩) (HC.out j u hj).1).trans (HC.out j u hj).2
    case qc3 => exact h1
    case qc4 => rw [Nat.zero_add]; unfold maxLen; omega
    case qc5 => rw [Nat.zero_add]; omega
    case qc6 => simp
    intro v' w1 hown hgrow hnil
    have HF := Lib.hid (And.intro hown (And.intro hgrow hnil))
    clear hown hgrow hnil
    go_wp2_with fail
    go_ret
    obtain ⟨hown, hgrow, hnil⟩ := HF.out
    refine ⟨v', rfl, by simpa using hown, fun hn1 => ?_, ((Below.refl _ w).alloc (Nat.le_refl _) _).grown hgrow (by simp) (by intro k hk; simp [Value.ownBlock] at hk; omega)⟩
    rcases hown.2 with ⟨-, e⟩ | ⟨g, cap, cur, e, _⟩
    · omega
    · exact ⟨g, cap, by simpa using e⟩
theorem sclone_any (s : List UInt8) (hs : s.length ≤ 1000000) (w : World) : Calls Tryz.prog 90 #[.string (str s)] w fun e w' => e = .returned (.string (str s)) ∧ Below w.heap.size w w' := by
  have hsz : (str s).size ≤ 281474976710656 := by rw [str_size]; omega
  have HC := Lib.hid (Tryz.stringslite_Clone (str s) w hsz)
  clear hsz
  go_enter Tryz.func90, Tryz.ntmps90
  go_wp2_with fail
  refine HC.out.mono ?_
  clear HC
  rintro e w1 ⟨rfl, hb1⟩
  go_wp2_with fail
  go_ret
  exact ⟨rfl, hb1⟩
end Go.Proofs.YtfaoiajhoifalaaGreatDoor
/-! Clb -/
namespace Go.Proofs.YtfaoiajhoifalaaGreatDoor
open Go Go.RowKit Go.Maps
set_option linter.unusedVariables false
set_option linter.unusedSimpArgs false

abbrev tPro : TypeId := 27
/-- A program that is read. -/
structure PgI (w : World) (gA fA nA : Option Addr) (gc fc nc : Nat) (gs : List Gl) (fl : List (Fn' × Value)) (vls : List Value) (ns : List CN) (tr : List (Int × Int)) : Prop where
  g : RdS w (.slice gA gs.length gc) gs.length (gs.flatMap glC)
  f : RdS w (.slice fA fl.length fc) fl.length (fnCs fl vls)
  n : RdS w (.slice nA ns.length nc) ns.length (cellsTr ns tr)
  vl : vls.length = fl.length
  tl : tr.length = ns.length
  vs : ∀ v ∈ vls, ∃ A n c, v = .slice A n c
  ps : ∀ x ∈ fl, RdS w x.2 x.1.ps.length (x.1.ps.flatMap pmC')
  ks : ∀ x ∈ ns, RdS w x.v x.kids.length (ints (natI x.kids))
abbrev pgV (gA fA nA : Option Addr) (gn gc fn fc nn nc : Nat) : Value := .agg #[.slice gA gn gc, .slice fA fn fc, .slice nA nn nc]
theorem RdS.one {w : World} {v : Value} {n : Nat} {xs : List Value} (h : RdS w v n xs) : v.oneCell' = true := by
  obtain ⟨A, c, rfl, _⟩ := h
  rfl
theorem row_base {w : World} {B B' sz n : Nat} {t : TypeId} {v : Value} {xs : List Value} (h : w.ownsRow B t sz v n xs) (hB : B' ≤ B) : w.ownsRow B' t sz v n xs :=
  ⟨h.1, h.2.imp id fun ⟨g, cap, cur, e, h5, h6⟩ => ⟨g, cap, cur, e, Nat.le_trans hB h5, h6⟩⟩
theorem glC_one (gs : List Gl) : ∀ u ∈ gs.flatMap glC, u.oneCell' = true := by
  intro u hu
  obtain ⟨g, -, hg⟩ := List.mem_flatMap.1 hu
  simp only [glC, List.mem_cons, List.not_mem_nil, or_false] at hg
  rcases hg with rfl | rfl | rfl | rfl <;> rfl
theorem pmC_one (ps : List Pm) : ∀ u ∈ ps.flatMap pmC', u.oneCell' = true := by
  intro u hu
  obtain ⟨g, -, hg⟩ := List.mem_flatMap.1 hu
  simp only [pmC', List.mem_cons, List.not_mem_nil, or_false] at hg
  rcases hg with rfl | rfl <;> rfl
theorem ints_one (l : List Int) : ∀ u ∈ ints l, u.oneCell' = true := by
  intro u hu
  obtain ⟨i, -, rfl⟩ := List.mem_map.1 hu
  rfl
theorem fnCs_one {fl : List (Fn' × Value)} {vls : List Value} (h : ∀ x ∈ fl, x.2.oneCell' = true) (hv : ∀ v ∈ vls, v.oneCell' = true) : ∀ u ∈ fnCs fl vls, u.oneCell' = true := by
  intro u hu
  obtain ⟨⟨x, v⟩, hxv, hg⟩ := List.mem_flatMap.1 hu
  have hx := List.of_mem_zip hxv
  simp only [fnC, List.mem_cons, List.not_mem_nil, or_false] at hg
  rcases hg with rfl | rfl | rfl | rfl | rfl | rfl
  · rfl
  · rfl
  · exact h _ hx.1
  · rfl
  · rfl
  · exact hv _ hx.2
theorem cellsTr_one {ns : List CN} {tr : List (Int × Int)} (h : ∀ x ∈ ns, x.v.oneCell' = true) : ∀ u ∈ cellsTr ns tr, u.oneCell' = true := by
  intro u hu
  obtain ⟨⟨x, v⟩, hxv, hg⟩ := List.mem_flatMap.1 hu
  have hx := List.of_mem_zip hxv
  simp only [cellT, List.mem_cons, List.not_mem_nil, or_false] at hg
  rcases hg with rfl | rfl | rfl | rfl | rfl | rfl | rfl | rfl
  · rfl
  · rfl
  · rfl
  · rfl
  · rfl
  · exact h _ hx.1
  · rfl
  · rfl
theorem fnCs_len {fl : List (Fn' × Value)} {vls : List Value} (h : vls.length = fl.length) : (fnCs fl vls).length = fl.length * 6 := by
  unfold fnCs
  rw [flat_len' _ 6 (fun _ => rfl), List.length_zip, h, Nat.min_self]
theorem cellsTr_len {ns : List CN} {tr : List (Int × Int)} (h : tr.length = ns.length) : (cellsTr ns tr).length = ns.length * 8 := by
  unfold cellsTr
  rw [flat_len' _ 8 (fun _ => rfl), List.length_zip, h, Nat.min_self]
section
variable {w : World} {gA fA nA : Option Addr} {gc fc nc : Nat} {gs : List Gl} {fl : List (Fn' × Value)} {vls : List Value} {ns : List CN} {tr : List (Int × Int)}
theorem PgI.on {w' : World} (h : PgI w gA fA nA gc fc nc gs fl vls ns tr) (hb : Below w.heap.size w w') : PgI w' gA fA nA gc fc nc gs fl vls ns tr :=
  ⟨h.g.on hb, h.f.on hb, h.n.on hb, h.vl, h.tl, h.vs, fun x hx => (h.ps x hx).on hb, fun x hx => (h.ks x hx).on hb⟩
/-- The three lists, copied: rows of their own; 'out' lies in block k. -/
structure UnO (B k : Nat) (gv fv nv : Value) (gs : List Gl) (fl : List (Fn' × Value)) (vls : List Value) (ns : List CN) (tr : List (Int × Int)) (w : World) : Prop where
  out : Blk w k tPro #[gv, fv, nv]
  g : w.ownsRow B tGb 4 gv gs.length (gs.flatMap glC)
  f : w.ownsRow B tFu 6 fv fl.length (fnCs fl vls)
  n : w.ownsRow B tNd 8 nv ns.length (cellsTr ns tr)
  kB : B ≤ k
  BH : B ≤ w.heap.size
theorem row_set1 {B sz n k : Nat} {t : TypeId} {v : Value} {xs : List Value} {u : Value} {j : Nat} {cs : Array Value} (h : w.ownsRow B t sz v n xs) (Z : Blk w k tPro cs) (ht : t ≠ tPro) : (w.setCell ⟨k, j, none⟩ u).ownsRow B t sz v n xs := by
  have hg : w.grownBy (w.setCell ⟨k, j, none⟩ u) (some k) := ⟨rfl, rfl, rfl, by simp, fun m _ hm => heap_setCell_other w ⟨k, j, none⟩ m u (fun e => hm (by simp [e]))⟩
  refine gr_row hg h (fun r e1 e2 => ?_)
  cases e1
  exact kind_ne (row_kind h e2) Z.kind ht rfl
theorem uno_new {B : Nat} {gv fv nv : Value} (RG : w.ownsRow B tGb 4 gv gs.length (gs.flatMap glC)) (RF : w.ownsRow B tFu 6 fv fl.length (fnCs fl vls)) (RN : w.ownsRow B tNd 8 nv ns.length (cellsTr ns tr)) (hB : B ≤ w.heap.size) :
    UnO B w.heap.size gv fv nv gs fl vls ns tr (w.alloc (.cells #[gv, fv, nv] tPro)) :=
  ⟨Blk.new _ _ _, RG.alloc _, RF.alloc _, RN.alloc _, hB, by simp; omega⟩
theorem uno_set {B k : Nat} {gv fv nv : Value} {cs : Array Value} (hc : cs.size = 3) (Z : Blk w k tPro cs) (RG : w.ownsRow B tGb 4 gv gs.length (gs.flatMap glC)) (RF : w.ownsRow B tFu 6 fv fl.length (fnCs fl vls)) (RN : w.ownsRow B tNd 8 nv ns.length (cellsTr ns tr)) (hk : B ≤ k) (hB : B ≤ w.heap.size) :
    UnO B k gv fv nv gs fl vls ns tr (((w.setCell ⟨k, 0, none⟩ gv).setCell ⟨k, 1, none⟩ fv).setCell ⟨k, 2, none⟩ nv) := by
  have Z1 := Z.set_ 0 gv
  have Z2 := Z1.set_ 1 fv
  have Z3 := Z2.set_ 2 nv
  refine ⟨?_, row_set1 (row_set1 (row_set1 RG Z (by decide)) Z1 (by decide)) Z2 (by decide), row_set1 (row_set1 (row_set1 RF Z (by decide)) Z1 (by decide)) Z2 (by decide), row_set1 (row_set1 (row_set1 RN Z (by decide)) Z1 (by decide)) Z2 (by decide), hk, by simp; omega⟩
  obtain ⟨l⟩ := cs
  match l, hc with
  | [a, b, c], _ => exact Z3
/-- What is stored already may be stored again. -/
theorem row_same {B sz n g cap j : Nat} {t : TypeId} {xs : List Value} {u : Value} (h : w.ownsRow B t sz (.slice (some ⟨g, 0, none⟩) n cap) n xs) (hj : xs[j]? = some u) : w.setCell ⟨g, j, none⟩ u = w := by
  rcases h.2 with ⟨e, _⟩ | ⟨g', cap', cur, e, hb, hg, h1, h2, h3, h4⟩
  · cases e
  simp only [Value.slice.injEq, Option.some.injEq, Addr.mk.injEq, and_true, true_and] at e
  obtain ⟨rfl, rfl⟩ := e
  have hjl := (List.getElem?_eq_some_iff.1 hj).1
  have hcj : cur[j]? = some u := by
    rw [← h4, List.getElem?_take] at hj
    split at hj
    · simpa using hj
    · cases hj
  have hcur : cur.setIfInBounds j u = cur := by
    apply Array.ext_getElem?
    intro m
    by_cases hm : j = m
    · subst hm
      rw [Array.getElem?_setIfInBounds_self_of_lt (Array.getElem?_eq_some_iff.1 hcj).1, hcj]
    · rw [Array.getElem?_setIfInBounds_ne hm]
  have eh : (w.setCell ⟨g, j, none⟩ u).heap = w.heap := by
    apply Array.ext_getElem?
    intro m
    by_cases hm : m = g
    · subst hm
      rw [heap_setCell_same w m j cur t u hg, hg, hcur]
    · exact heap_setCell_other w ⟨g, j, none⟩ m u hm
  calc w.setCell ⟨g, j, none⟩ u = { w with heap := (w.setCell ⟨g, j, none⟩ u).heap } := rfl
    _ = w := by rw [eh]
theorem fnCs_setP (fl : List (Fn' × Value)) (vls : List Value) (i : Nat) {f : Fn'} {p v : Value} (hx : fl[i]? = some (f, p)) (hv : vls[i]? = some v) (u : Value) : (fnCs fl vls).set (i * 6 + 2) u = fnCs (fl.set i (f, u)) vls := by
  unfold fnCs
  have h1 := (List.getElem?_eq_some_iff.1 hx).1
  have h2 := (List.getElem?_eq_some_iff.1 hv).1
  have hz : (fl.zip vls)[i]? = some ((f, p), v) := by rw [List.getElem?_zip_eq_some]; exact ⟨hx, hv⟩
  have hzl := (List.getElem?_eq_some_iff.1 hz).1
  have hzi : (fl.zip vls)[i] = ((f, p), v) := (List.getElem?_eq_some_iff.1 hz).2
  rw [flat_set _ 6 (by omega) (fun _ => rfl) (fl.zip vls) i 2 hzl (by omega) ((f, u), v) u (by rw [hzi]; rfl)]
  congr 1
  apply List.ext_getElem?
  intro k
  by_cases hk : i = k
  · subst hk
    rw [List.getElem?_set_self hzl]
    symm
    rw [List.getElem?_zip_eq_some]
    exact ⟨List.getElem?_set_self h1, hv⟩
  · rw [List.getElem?_set_ne hk]
    apply Option.ext
    intro y
    rw [List.getElem?_zip_eq_some, List.getElem?_zip_eq_some, List.getElem?_set_ne hk]
theorem cellsTr_setV (nc : List CN) (tc : List (Int × Int)) (i : Nat) {x : CN} {t : Int × Int} (hx : nc[i]? = some x) (ht : tc[i]? = some t) (u : Value) : (cellsTr nc tc).set (i * 8 + 5) u = cellsTr (nc.set i { x with v := u }) tc := by
  unfold cellsTr
  have h1 := (List.getElem?_eq_some_iff.1 hx).1
  have h2 := (List.getElem?_eq_some_iff.1 ht).1
  have hz : (nc.zip tc)[i]? = some (x, t) := by rw [List.getElem?_zip_eq_some]; exact ⟨hx, ht⟩
  have hzl := (List.getElem?_eq_some_iff.1 hz).1
  have hzi : (nc.zip tc)[i] = (x, t) := (List.getElem?_eq_some_iff.1 hz).2
  rw [flat_set _ 8 (by omega) (fun _ => rfl) (nc.zip tc) i 5 hzl (by omega) ({ x with v := u }, t) u (by rw [hzi]; rfl)]
  congr 1
  apply List.ext_getElem?
  intro k
  by_cases hk : i = k
  · subst hk
    rw [List.getElem?_set_self hzl]
    symm
    rw [List.getElem?_zip_eq_some]
    exact ⟨List.getElem?_set_self h1, ht⟩
  · rw [List.getElem?_set_ne hk]
    apply Option.ext
    intro y
    rw [List.getElem?_zip_eq_some, List.getElem?_zip_eq_some, List.getElem?_set_ne hk]
/-- A row of another type is written. -/
theorem row_far {B B2 sz n sz2 n2 g cap j : Nat} {t t2 : TypeId} {v : Value} {xs xs2 : List Value} {u : Value} (h : w.ownsRow B t sz v n xs) (h2 : w.ownsRow B2 t2 sz2 (.slice (some ⟨g, 0, none⟩) n2 cap) n2 xs2) (ht : t ≠ t2) : (w.setCell ⟨g, j, none⟩ u).ownsRow B t sz v n xs := by
  refine gr_row (h2.stored j u).2 h (fun r e1 e2 => ?_)
  cases e1
  exact kind_ne (row_kind h e2) (row_kind h2 rfl) ht rfl
theorem UnO.on {B k : Nat} {gv fv nv : Value} {w' : World} (h : UnO B k gv fv nv gs fl vls ns tr w) (hb : Below w.heap.size w w') : UnO B k gv fv nv gs fl vls ns tr w' :=
  have hg := grown_of_below hb
  ⟨h.out.below hb h.out.lt, gr_row hg h.g (by simp), gr_row hg h.f (by simp), gr_row hg h.n (by simp), h.kB, Nat.le_trans h.BH hb.size⟩
/-- The functions' row is written: parameters. -/
theorem UnO.fp {B k fb fc j : Nat} {gv nv p v u : Value} {f : Fn'} (h : UnO B k gv (.slice (some ⟨fb, 0, none⟩) fl.length fc) nv gs fl vls ns tr w) (hx : fl[j]? = some (f, p)) (hv : vls[j]? = some v) :
    UnO B k gv (.slice (some ⟨fb, 0, none⟩) (fl.set j (f, u)).length fc) nv gs (fl.set j (f, u)) vls ns tr (w.setCell ⟨fb, j * 6 + 2, none⟩ u) := by
  have hs := h.f.stored (j * 6 + 2) u
  rw [fnCs_setP fl vls j hx hv u] at hs
  exact ⟨by rw [List.length_set]; exact gr_blk hs.2 h.out (fun e => kind_ne h.out.kind (row_kind h.f rfl) (by decide) (Option.some.inj e).symm), row_far h.g h.f (by decide), by rw [List.length_set]; exact hs.1, row_far h.n h.f (by decide), h.kB, by have := h.BH; simp; omega⟩
theorem UnO.fv {B k fb fc j : Nat} {gv nv v u : Value} {x : Fn' × Value} (h : UnO B k gv (.slice (some ⟨fb, 0, none⟩) fl.length fc) nv gs fl vls ns tr w) (hx : fl[j]? = some x) (hv : vls[j]? = some v) :
    UnO B k gv (.slice (some ⟨fb, 0, none⟩) fl.length fc) nv gs fl (vls.set j u) ns tr (w.setCell ⟨fb, j * 6 + 5, none⟩ u) := by
  have hs := h.f.stored (j * 6 + 5) u
  rw [fnCs_set fl vls j hx hv u] at hs
  exact ⟨gr_blk hs.2 h.out (fun e => kind_ne h.out.kind (row_kind h.f rfl) (by decide) (Option.some.inj e).symm), row_far h.g h.f (by decide), hs.1, row_far h.n h.f (by decide), h.kB, by have := h.BH; simp; omega⟩
/-- The nodes' row is written: kids. -/
theorem UnO.nk {B k nb nc j : Nat} {gv fv u : Value} {x : CN} {t : Int × Int} (h : UnO B k gv fv (.slice (some ⟨nb, 0, none⟩) ns.length nc) gs fl vls ns tr w) (hx : ns[j]? = some x) (ht : tr[j]? = some t) :
    UnO B k gv fv (.slice (some ⟨nb, 0, none⟩) (ns.set j { x with v := u }).length nc) gs fl vls (ns.set j { x with v := u }) tr (w.setCell ⟨nb, j * 8 + 5, none⟩ u) := by
  have hs := h.n.stored (j * 8 + 5) u
  rw [cellsTr_setV ns tr j hx ht u] at hs
  exact ⟨by rw [List.length_set]; exact gr_blk hs.2 h.out (fun e => kind_ne h.out.kind (row_kind h.n rfl) (by decide) (Option.some.inj e).symm), row_far h.g h.n (by decide), row_far h.f h.n (by decide), by rw [List.length_set]; exact hs.1, h.kB, by have := h.BH; simp; omega⟩
theorem UnO.nt {B k nb nc j i : Nat} {gv fv : Value} {x : CN} {t t' : Int × Int} (h : UnO B k gv fv (.slice (some ⟨nb, 0, none⟩) ns.length nc) gs fl vls ns tr w) (hi : i < 8) (hx : ns[j]? = some x) (ht : tr[j]? = some t) (u : Value) (hu : cellT x t' = (cellT x t).set i u) :
    UnO B k gv fv (.slice (some ⟨nb, 0, none⟩) ns.length nc) gs fl vls ns (tr.set j t') (w.setCell ⟨nb, j * 8 + i, none⟩ u) := by
  have hs := h.n.stored (j * 8 + i) u
  rw [cellsTr_set ns tr j i hi hx ht u hu] at hs
  exact ⟨gr_blk hs.2 h.out (fun e => kind_ne h.out.kind (row_kind h.n rfl) (by decide) (Option.some.inj e).symm), row_far h.g h.n (by decide), row_far h.f h.n (by decide), hs.1, h.kB, by have := h.BH; simp; omega⟩
/-- The functions before j are copied. -/
structure FnSt (W1 : World) (k : Nat) (gv fv nv : Value) (gs : List Gl) (fl : List (Fn' × Value)) (ns : List CN) (tr : List (Int × Int)) (j : Nat) (fc : List (Fn' × Value)) (vc : List Value) (w : World) : Prop where
  o : UnO W1.heap.size k gv fv nv gs fc vc ns tr w
  e : fc.map (·.1) = fl.map (·.1)
  u : ∀ i, j ≤ i → fc[i]? = fl[i]?
  vl : vc.length = fl.length
  v : ∀ i, i < j → vc[i]? = some (.slice none 0 0)
  p : ∀ (i : Nat) (x : Fn' × Value), i < j → fc[i]? = some x → w.ownsRow W1.heap.size tPr 2 x.2 x.1.ps.length (x.1.ps.flatMap pmC')
  bl : Below W1.heap.size W1 w
theorem FnSt.len {W1 : World} {k : Nat} {gv fv nv : Value} {j : Nat} {fc : List (Fn' × Value)} {vc : List Value} (h : FnSt W1 k gv fv nv gs fl ns tr j fc vc w) : fc.length = fl.length := by
  have := congrArg List.length h.e
  simpa using this
theorem FnSt.on {W1 : World} {k : Nat} {gv fv nv : Value} {j : Nat} {fc : List (Fn' × Value)} {vc : List Value} {w' : World} (h : FnSt W1 k gv fv nv gs fl ns tr j fc vc w) (hb : Below w.heap.size w w') : FnSt W1 k gv fv nv gs fl ns tr j fc vc w' :=
  ⟨h.o.on hb, h.e, h.u, h.vl, h.v, fun i x hi hx => gr_row (grown_of_below hb) (h.p i x hi hx) (by simp), h.bl.trans (hb.mono h.o.BH)⟩
theorem FnSt.step {W1 : World} {k : Nat} {gv fv nv : Value} {fb fcap j : Nat} {fc : List (Fn' × Value)} {vc : List Value} {f : Fn'} {p pv : Value} (h : FnSt W1 k gv fv nv gs fl ns tr j fc vc w) (hfv : fv = .slice (some ⟨fb, 0, none⟩) fl.length fcap) (hx : fc[j]? = some (f, p)) (hp : w.ownsRow W1.heap.size tPr 2 pv f.ps.length (f.ps.flatMap pmC')) :
    FnSt W1 k gv fv nv gs fl ns tr (j + 1) (fc.set j (f, pv)) (vc.set j (.slice none 0 0)) (((w.setCell ⟨fb, j * 6, none⟩ (.string (str f.s))).setCell ⟨fb, j * 6 + 2, none⟩ pv).setCell ⟨fb, j * 6 + 5, none⟩ (.slice none 0 0)) := by
  have hjl := (List.getElem?_eq_some_iff.1 hx).1
  have ho : UnO W1.heap.size k gv (.slice (some ⟨fb, 0, none⟩) fc.length fcap) nv gs fc vc ns tr w := by rw [h.len, ← hfv]; exact h.o
  obtain ⟨v0, hv0⟩ : ∃ v, vc[j]? = some v := ⟨_, List.getElem?_eq_getElem (by rw [h.vl, ← h.len]; exact hjl)⟩
  have hn : (fnCs fc vc)[j * 6]? = some (.string (str f.s)) := by
    have := fnCs_at fc vc j 0 (by omega) hx hv0
    rw [Nat.add_zero] at this
    exact this
  rw [row_same ho.f hn]
  have h1 := ho.fp hx hv0 (u := pv)
  have hx1 : (fc.set j (f, pv))[j]? = some (f, pv) := List.getElem?_set_self hjl
  have h2 := h1.fv hx1 hv0 (u := .slice none 0 0)
  have hfb : W1.heap.size ≤ fb := (ho.f.lt fb rfl).1
  refine ⟨by rw [List.length_set, h.len, ← hfv] at h2; exact h2, ?_, ?_, by rw [List.length_set]; exact h.vl, ?_, ?_, (h.bl.setCell (p := ⟨fb, _, none⟩) hfb _).setCell (p := ⟨fb, _, none⟩) hfb _⟩
  · rw [List.map_set, ← h.e]
    apply List.ext_getElem?
    intro m
    by_cases hm : j = m
    · subst hm
      rw [List.getElem?_set_self (by simpa using hjl), List.getElem?_map, hx]
      rfl
    · rw [List.getElem?_set_ne hm]
  · intro i hi
    rw [List.getElem?_set_ne (by omega)]
    exact h.u i (by omega)
  · intro i hi
    by_cases hm : j = i
    · subst hm
      exact List.getElem?_set_self (by rw [h.vl, ← h.len]; exact hjl)
    · rw [List.getElem?_set_ne hm]
      exact h.v i (by omega)
  · intro i x hi hxi
    have hrow : w.ownsRow W1.heap.size tPr 2 x.2 x.1.ps.length (x.1.ps.flatMap pmC') := by
      by_cases hm : j = i
      · subst hm
        rw [hx1] at hxi
        cases hxi
        exact hp
      · rw [List.getElem?_set_ne hm] at hxi
        exact h.p i x (by omega) hxi
    exact row_far (row_far hrow ho.f (by decide)) h1.f (by decide)
/-- The nodes before j are copied. -/
structure NdSt (W1 : World) (k : Nat) (gv fv nv : Value) (gs : List Gl) (fl : List (Fn' × Value)) (vls : List Value) (ns : List CN) (tr : List (Int × Int)) (j : Nat) (nc : List CN) (tc : List (Int × Int)) (w : World) : Prop where
  o : UnO W1.heap.size k gv fv nv gs fl vls nc tc w
  e : nc.map CN.nd = ns.map CN.nd
  u : ∀ i, j ≤ i → nc[i]? = ns[i]? ∧ tc[i]? = tr[i]?
  tl : tc.length = ns.length
  t : ∀ (i : Nat) (x : CN) (t : Int × Int), i < j → ns[i]? = some x → tr[i]? = some t → tc[i]? = some (if x.h.op = 1 then t.1 else 0, 0)
  kd : ∀ (i : Nat) (x : CN), i < j → nc[i]? = some x → w.ownsRow W1.heap.size tInt 1 x.v x.kids.length (ints (natI x.kids))
  p : ∀ x ∈ fl, w.ownsRow W1.heap.size tPr 2 x.2 x.1.ps.length (x.1.ps.flatMap pmC')
  bl : Below W1.heap.size W1 w
theorem NdSt.len {W1 : World} {k : Nat} {gv fv nv : Value} {j : Nat} {nc : List CN} {tc : List (Int × Int)} (h : NdSt W1 k gv fv nv gs fl vls ns tr j nc tc w) : nc.length = ns.length := by
  have := congrArg List.length h.e
  simpa using this
theorem NdSt.on {W1 : World} {k : Nat} {gv fv nv : Value} {j : Nat} {nc : List CN} {tc : List (Int × Int)} {w' : World} (h : NdSt W1 k gv fv nv gs fl vls ns tr j nc tc w) (hb : Below w.heap.size w w') : NdSt W1 k gv fv nv gs fl vls ns tr j nc tc w' :=
  ⟨h.o.on hb, h.e, h.u, h.tl, h.t, fun i x hi hx => gr_row (grown_of_below hb) (h.kd i x hi hx) (by simp), fun x hx => gr_row (grown_of_below hb) (h.p x hx) (by simp), h.bl.trans (hb.mono h.o.BH)⟩
theorem NdSt.fin {W1 : World} {k : Nat} {gv fv nv kv : Value} {j : Nat} {nc : List CN} {tc : List (Int × Int)} {x : CN} {t : Int × Int} {w' : World} (h : NdSt W1 k gv fv nv gs fl vls ns tr j nc tc w) (hx : nc[j]? = some x) (ht : tc[j]? = some t) (hk : w.ownsRow W1.heap.size tInt 1 kv x.kids.length (ints (natI x.kids)))
    (ho : UnO W1.heap.size k gv fv nv gs fl vls (nc.set j { x with v := kv }) (tc.set j (if x.h.op = 1 then t.1 else 0, 0)) w')
    (hf : ∀ (t : TypeId) (sz n : Nat) (v : Value) (xs : List Value), t ≠ tNd → w.ownsRow W1.heap.size t sz v n xs → w'.ownsRow W1.heap.size t sz v n xs) (hb : Below W1.heap.size w w') :
    NdSt W1 k gv fv nv gs fl vls ns tr (j + 1) (nc.set j { x with v := kv }) (tc.set j (if x.h.op = 1 then t.1 else 0, 0)) w' := by
  have hjl := (List.getElem?_eq_some_iff.1 hx).1
  have htl := (List.getElem?_eq_some_iff.1 ht).1
  have hu := h.u j (Nat.le_refl _)
  refine ⟨ho, ?_, ?_, by rw [List.length_set]; exact h.tl, ?_, ?_, fun y hy => hf _ _ _ _ _ (by decide) (h.p y hy), h.bl.trans hb⟩
  · rw [List.map_set, ← h.e]
    apply List.ext_getElem?
    intro m
    by_cases hm : j = m
    · subst hm
      rw [List.getElem?_set_self (by simpa using hjl), List.getElem?_map, hx]
      rfl
    · rw [List.getElem?_set_ne hm]
  · intro i hi
    rw [List.getElem?_set_ne (by omega), List.getElem?_set_ne (by omega)]
    exact h.u i (by omega)
  · intro i y s hi hy hs
    by_cases hm : j = i
    · subst hm
      rw [← hu.1, hx] at hy
      rw [← hu.2, ht] at hs
      cases hy
      cases hs
      exact List.getElem?_set_self htl
    · rw [List.getElem?_set_ne hm]
      exact h.t i y s (by omega) hy hs
  · intro i y hi hy
    refine hf _ _ _ _ _ (by decide) ?_
    by_cases hm : j = i
    · subst hm
      rw [List.getElem?_set_self hjl] at hy
      cases hy
      exact hk
    · rw [List.getElem?_set_ne hm] at hy
      exact h.kd i y (by omega) hy
/-- A node's text, kids, Ref are stored; and its Type, where it is no number. -/
theorem NdSt.step {W1 : World} {k : Nat} {gv fv nv kv : Value} {nb ncap j : Nat} {nc : List CN} {tc : List (Int × Int)} {x : CN} {t : Int × Int} (h : NdSt W1 k gv fv nv gs fl vls ns tr j nc tc w) (hnv : nv = .slice (some ⟨nb, 0, none⟩) ns.length ncap) (hx : nc[j]? = some x) (ht : tc[j]? = some t) (hk : w.ownsRow W1.heap.size tInt 1 kv x.kids.length (ints (natI x.kids))) :
    (x.h.op = 1 → NdSt W1 k gv fv nv gs fl vls ns tr (j + 1) (nc.set j { x with v := kv }) (tc.set j (if x.h.op = 1 then t.1 else 0, 0)) (((w.setCell ⟨nb, j * 8 + 3, none⟩ (.string (str x.h.s))).setCell ⟨nb, j * 8 + 5, none⟩ kv).setCell ⟨nb, j * 8 + 7, none⟩ (.int .i64 0))) ∧
    (x.h.op ≠ 1 → NdSt W1 k gv fv nv gs fl vls ns tr (j + 1) (nc.set j { x with v := kv }) (tc.set j (if x.h.op = 1 then t.1 else 0, 0)) ((((w.setCell ⟨nb, j * 8 + 3, none⟩ (.string (str x.h.s))).setCell ⟨nb, j * 8 + 5, none⟩ kv).setCell ⟨nb, j * 8 + 7, none⟩ (.int .i64 0)).setCell ⟨nb, j * 8 + 6, none⟩ (.int .i64 0))) := by
  have hjl := (List.getElem?_eq_some_iff.1 hx).1
  have hO : UnO W1.heap.size k gv fv (.slice (some ⟨nb, 0, none⟩) nc.length ncap) gs fl vls nc tc w := by rw [h.len, ← hnv]; exact h.o
  have htl := (List.getElem?_eq_some_iff.1 ht).1
  rw [row_same hO.n (show (cellsTr nc tc)[j * 8 + 3]? = some (.string (str x.h.s)) from cellsTr_at nc tc j 3 (by omega) hx ht)]
  have hnb : W1.heap.size ≤ nb := (hO.n.lt nb rfl).1
  have o1 := hO.nk hx ht (u := kv)
  have hx1 : (nc.set j { x with v := kv })[j]? = some { x with v := kv } := List.getElem?_set_self hjl
  have o2 := o1.nt (i := 7) (t' := (t.1, 0)) (by omega) hx1 ht (.int .i64 0) rfl
  have ht2 : (tc.set j (t.1, 0))[j]? = some (t.1, 0) := List.getElem?_set_self htl
  have hcv : ∀ {tt : List (Int × Int)} {w' : World}, UnO W1.heap.size k gv fv (.slice (some ⟨nb, 0, none⟩) (nc.set j { x with v := kv }).length ncap) gs fl vls (nc.set j { x with v := kv }) tt w' → UnO W1.heap.size k gv fv nv gs fl vls (nc.set j { x with v := kv }) tt w' := fun h9 => by rw [List.length_set, h.len, ← hnv] at h9; exact h9
  have hb2 : Below W1.heap.size w ((w.setCell ⟨nb, j * 8 + 5, none⟩ kv).setCell ⟨nb, j * 8 + 7, none⟩ (.int .i64 0)) := ((Below.refl _ _).setCell (p := ⟨nb, _, none⟩) hnb _).setCell (p := ⟨nb, _, none⟩) hnb _
  constructor
  · intro ho
    refine h.fin hx ht hk (by rw [if_pos ho]; exact hcv o2) (fun T sz n v xs hT hr => row_far (row_far hr hO.n hT) o1.n hT) hb2
  · intro ho
    have o3 := o2.nt (i := 6) (t' := (0, 0)) (by omega) hx1 ht2 (.int .i64 0) rfl
    rw [List.set_set] at o3
    refine h.fin hx ht hk (by rw [if_neg ho]; exact hcv o3) (fun T sz n v xs hT hr => row_far (row_far (row_far hr hO.n hT) o1.n hT) o2.n hT) (hb2.setCell (p := ⟨nb, _, none⟩) hnb _)
end
end Go.Proofs.YtfaoiajhoifalaaGreatDoor
/-! Clc -/
namespace Go.Proofs.YtfaoiajhoifalaaGreatDoor
open Go Go.RowKit Go.Maps
set_option linter.unusedVariables false
set_option linter.unusedSimpArgs false

/-- Each node's Type and Ref as unchecked leaves them. -/
def trZ (ns : List CN) (tr : List (Int × Int)) : List (Int × Int) := (ns.zip tr).map fun y => (if y.1.h.op = 1 then y.2.1 else 0, 0)
theorem trZ_of {ns : List CN} {tr tc : List (Int × Int)} (hl : tr.length = ns.length) (h1 : tc.length = ns.length) (h2 : ∀ (i : Nat) (x : CN) (t : Int × Int), i < ns.length → ns[i]? = some x → tr[i]? = some t → tc[i]? = some (if x.h.op = 1 then t.1 else 0, 0)) : tc = trZ ns tr := by
  apply List.ext_getElem?
  intro i
  unfold trZ
  rw [List.getElem?_map]
  by_cases hi : i < ns.length
  · obtain ⟨x, hx⟩ : ∃ x, ns[i]? = some x := ⟨_, List.getElem?_eq_getElem hi⟩
    obtain ⟨t, ht⟩ : ∃ t, tr[i]? = some t := ⟨_, List.getElem?_eq_getElem (by omega)⟩
    rw [h2 i x t hi hx ht, show (ns.zip tr)[i]? = some (x, t) by rw [List.getElem?_zip_eq_some]; exact ⟨hx, ht⟩]
    rfl
  · rw [List.getElem?_eq_none (by omega), List.getElem?_eq_none (by simp; omega)]
    rfl
/-- What unchecked answers. -/
def UnP (gs : List Gl) (fl : List (Fn' × Value)) (ns : List CN) (tr : List (Int × Int)) (w : World) (e : Ending) (w' : World) : Prop :=
  ∃ (gA fA nA : Option Addr) (gc fc nc : Nat) (fl' : List (Fn' × Value)) (ns' : List CN), e = .returned (pgV gA fA nA gs.length gc fl.length fc ns.length nc) ∧ Below w.heap.size w w' ∧
    w'.ownsRow w.heap.size tGb 4 (.slice gA gs.length gc) gs.length (gs.flatMap glC) ∧ w'.ownsRow w.heap.size tFu 6 (.slice fA fl.length fc) fl.length (fnCs fl' (List.replicate fl.length (.slice none 0 0))) ∧ w'.ownsRow w.heap.size tNd 8 (.slice nA ns.length nc) ns.length (cellsTr ns' (trZ ns tr)) ∧
    fl'.map (·.1) = fl.map (·.1) ∧ (∀ x ∈ fl', w'.ownsRow w.heap.size tPr 2 x.2 x.1.ps.length (x.1.ps.flatMap pmC')) ∧ ns'.map CN.nd = ns.map CN.nd ∧ (∀ x ∈ ns', w'.ownsRow w.heap.size tInt 1 x.v x.kids.length (ints (natI x.kids))) ∧
    (1 ≤ gs.length → ∃ b, gA = some ⟨b, 0, none⟩) ∧ (1 ≤ fl.length → ∃ b, fA = some ⟨b, 0, none⟩) ∧ (1 ≤ ns.length → ∃ b, nA = some ⟨b, 0, none⟩)
section
variable {w : World} {gA fA nA : Option Addr} {gc fc nc : Nat} {gs : List Gl} {fl : List (Fn' × Value)} {vls : List Value} {ns : List CN} {tr : List (Int × Int)}
theorem pgInfC : (Tryz.prog.info? tPro).map (·.size) = some 3 := by kernel_rfl
theorem ret_pgC {fn : Func} {R : Ending → World → Prop} {a : Act} {w : World} {p : Tmp} {b : Nat} {T : TypeId} {fr : Nat × Nat} {x y z : Value} (hf : fn.results = #[.cell p tPro]) (h2 : a.tmps.getD p undef = .pointer (some ⟨b, 0, none⟩)) (hb : w.heap[b]? = some (.cells #[x, y, z] T fr)) (hd : a.defers = []) (hR : R (.returned (.agg #[x, y, z])) w) : bodyPost Tryz.prog fn R .ret a w :=
  bodyPost_ret (v := .agg #[x, y, z]) (results_cell_row hf _ _ b T _ fr _ h2 hb Tryz.underlying27 rfl pgInfC) hd hR
theorem row_cell3 {B sz n g cap a b c i : Nat} {t : TypeId} {xs : List Value} {u x y z : Value} (h : w.ownsRow B t sz (.slice (some ⟨g, 0, none⟩) n cap) n xs) (hi : i < n * sz) (hu : xs[i]? = some u) (ha : a ≠ i) (hb : b ≠ i) (hc : c ≠ i) :
    (((w.setCell ⟨g, a, none⟩ x).setCell ⟨g, b, none⟩ y).setCell ⟨g, c, none⟩ z).cell? ⟨g, i, none⟩ = some u ∧ (((w.setCell ⟨g, a, none⟩ x).setCell ⟨g, b, none⟩ y).setCell ⟨g, c, none⟩ z).frozen? ⟨g, i, none⟩ = false := by
  have h3 := (((h.stored a x).1.stored b y).1.stored c z).1
  refine ⟨?_, h3.frozenAt i⟩
  rw [h3.cellAt i hi, List.getElem?_set_ne hc, List.getElem?_set_ne hb, List.getElem?_set_ne ha]
  exact hu
set_option maxHeartbeats 8000000 in
set_option maxRecDepth 100000 in
theorem unch_any (h : PgI w gA fA nA gc fc nc gs fl vls ns tr) (hg : gs.length ≤ 1000000) (hf : fl.length ≤ 1000000) (hn : ns.length ≤ 1000000) (hgm : ∀ g ∈ gs, g.s.length ≤ 1000000) (hfm : ∀ x ∈ fl, x.1.s.length ≤ 1000000 ∧ x.1.ps.length ≤ 1000000 ∧ ∀ p ∈ x.1.ps, p.s.length ≤ 1000000) (hnm : ∀ x ∈ ns, x.h.s.length ≤ 1000000 ∧ x.kids.length ≤ 1000000) :
    Calls Tryz.prog 47 #[pgV gA fA nA gs.length gc fl.length fc ns.length nc] w (UnP gs fl ns tr w) := by
  obtain ⟨R, hR⟩ : ∃ R : Ending → World → Prop, UnP gs fl ns tr w = R := ⟨_, rfl⟩
  rw [hR]
  have HR := Lib.hid hR
  have HM := Lib.hid (And.intro hgm (And.intro hfm hnm))
  clear hR hgm hfm hnm
  have h1 : Below w.heap.size w ((w.alloc (.cells #[.slice gA gs.length gc, .slice fA fl.length fc, .slice nA ns.length nc] tPro)).alloc (.cells #[.slice none 0 0, .slice none 0 0, .slice none 0 0] tPro)) :=
    ((Below.refl _ _).alloc (Nat.le_refl _) _).alloc (by simp) _
  have hk1 := (Blk.new w tPro #[.slice gA gs.length gc, .slice fA fl.length fc, .slice nA ns.length nc]).alloc (.cells #[.slice none 0 0, .slice none 0 0, .slice none 0 0] tPro)
  have hk2 := Blk.new (w.alloc (.cells #[.slice gA gs.length gc, .slice fA fl.length fc, .slice nA ns.length nc] tPro)) tPro #[.slice none 0 0, .slice none 0 0, .slice none 0 0]
  have H := Lib.hid h
  obtain ⟨gn, hgn⟩ : ∃ n, gs.length = n := ⟨_, rfl⟩
  obtain ⟨fn, hfn⟩ : ∃ n, fl.length = n := ⟨_, rfl⟩
  obtain ⟨nn, hnn⟩ : ∃ n, ns.length = n := ⟨_, rfl⟩
  rw [hgn, hfn, hnn] at h1 hk1 hk2 ⊢
  have HN := Lib.hid (And.intro hgn (And.intro hfn hnn))
  rw [hgn] at hg
  rw [hfn] at hf
  rw [hnn] at hn
  clear h hgn hfn hnn
  go_enter Tryz.func47, Tryz.ntmps47
  go_upto_region 1 with (fail)
  obtain ⟨H0, hH0⟩ : ∃ x, w.heap.size = x := ⟨_, rfl⟩
  rw [show (w.alloc (.cells #[.slice gA gn gc, .slice fA fn fc, .slice nA nn nc] tPro)).heap.size = H0 + 1 by simp [hH0]] at hk2
  rw [hH0] at hk1
  generalize (w.alloc (.cells #[.slice gA gn gc, .slice fA fn fc, .slice nA nn nc] tPro)).alloc (.cells #[.slice none 0 0, .slice none 0 0, .slice none 0 0] tPro) = W1 at *
  simp only [hH0]
  have q0 : W1.cell? ⟨H0, 0, none⟩ = some (.slice gA gn gc) := hk1.cell 0
  have q1 : W1.cell? ⟨H0, 1, none⟩ = some (.slice fA fn fc) := hk1.cell 1
  have q2 : W1.cell? ⟨H0, 2, none⟩ = some (.slice nA nn nc) := hk1.cell 2
  have ql := hk1.lt
  have HI := Lib.hid (H.out.on h1)
  have HCG : Hid (∀ W, Below W1.heap.size W1 W → Calls Tryz.prog 87 #[.slice gA gn gc] W fun e w' => ∃ gA' gc', e = .returned (.slice gA' gn gc') ∧ w'.ownsRow W1.heap.size tGb 4 (.slice gA' gn gc') gn (gs.flatMap glC) ∧ (1 ≤ gn → ∃ b, gA' = some ⟨b, 0, none⟩) ∧ Below W1.heap.size W1 w' ∧ Below W.heap.size W w') := Lib.hid fun W hW => by
    have hr := (HI.out.on hW).g
    rw [HN.out.1] at hr
    refine (cloneClG_any hr (by rw [flat_len' _ 4 (fun _ => rfl), HN.out.1]) hg (glC_one gs)).mono fun e w' ⟨v', e1, hr', hne, hb⟩ => ?_
    obtain ⟨A', c', rfl⟩ := own_ex hr'
    exact ⟨A', c', e1, row_base hr' hW.size, fun h9 => by obtain ⟨b, c, e⟩ := hne h9; simp only [Value.slice.injEq] at e; exact ⟨b, e.1⟩, hW.trans (hb.mono hW.size), hb⟩
  have HCF : Hid (∀ W, Below W1.heap.size W1 W → Calls Tryz.prog 88 #[.slice fA fn fc] W fun e w' => ∃ fA' fc', e = .returned (.slice fA' fn fc') ∧ w'.ownsRow W1.heap.size tFu 6 (.slice fA' fn fc') fn (fnCs fl vls) ∧ (1 ≤ fn → ∃ b, fA' = some ⟨b, 0, none⟩) ∧ Below W1.heap.size W1 w' ∧ Below W.heap.size W w') := Lib.hid fun W hW => by
    have hr := (HI.out.on hW).f
    rw [HN.out.2.1] at hr
    refine (cloneClF_any hr (by rw [fnCs_len HI.out.vl, HN.out.2.1]) hf (fnCs_one (fun x hx => (HI.out.ps x hx).one) (fun v hv => by obtain ⟨A, n, c, rfl⟩ := HI.out.vs v hv; rfl))).mono fun e w' ⟨v', e1, hr', hne, hb⟩ => ?_
    obtain ⟨A', c', rfl⟩ := own_ex hr'
    exact ⟨A', c', e1, row_base hr' hW.size, fun h9 => by obtain ⟨b, c, e⟩ := hne h9; simp only [Value.slice.injEq] at e; exact ⟨b, e.1⟩, hW.trans (hb.mono hW.size), hb⟩
  have HCN : Hid (∀ W, Below W1.heap.size W1 W → Calls Tryz.prog 89 #[.slice nA nn nc] W fun e w' => ∃ nA' nc', e = .returned (.slice nA' nn nc') ∧ w'.ownsRow W1.heap.size tNd 8 (.slice nA' nn nc') nn (cellsTr ns tr) ∧ (1 ≤ nn → ∃ b, nA' = some ⟨b, 0, none⟩) ∧ Below W1.heap.size W1 w' ∧ Below W.heap.size W w') := Lib.hid fun W hW => by
    have hr := (HI.out.on hW).n
    rw [HN.out.2.2] at hr
    refine (cloneClN_any hr (by rw [cellsTr_len HI.out.tl, HN.out.2.2]) hn (cellsTr_one (fun x hx => (HI.out.ks x hx).one))).mono fun e w' ⟨v', e1, hr', hne, hb⟩ => ?_
    obtain ⟨A', c', rfl⟩ := own_ex hr'
    exact ⟨A', c', e1, row_base hr' hW.size, fun h9 => by obtain ⟨b, c, e⟩ := hne h9; simp only [Value.slice.injEq] at e; exact ⟨b, e.1⟩, hW.trans (hb.mono hW.size), hb⟩
  have HS : Hid (∀ Wx, Below W1.heap.size W1 Wx → Wx.cell? ⟨H0, 0, none⟩ = some (.slice gA gn gc) ∧ Wx.cell? ⟨H0, 1, none⟩ = some (.slice fA fn fc) ∧ Wx.cell? ⟨H0, 2, none⟩ = some (.slice nA nn nc) ∧ H0 < Wx.heap.size) := Lib.hid fun Wx hW => by
    have hz := hW.size
    exact ⟨(hW.cell (p := ⟨H0, 0, none⟩) ql).trans q0, (hW.cell (p := ⟨H0, 1, none⟩) ql).trans q1, (hW.cell (p := ⟨H0, 2, none⟩) ql).trans q2, by omega⟩
  have HK := Lib.hid (And.intro hk1 (And.intro hk2 (And.intro h1 hH0)))
  have J : Below W1.heap.size W1 W1 := Below.refl _ _
  clear hk1 hk2 h1 hH0
  go_cut [3] (fun v3 wx => ∃ (k3 : Nat) (gA' fA' nA' : Option Addr) (gc' fc' nc' : Nat), v3 = .pointer (some ⟨k3, 0, none⟩) ∧ UnO W1.heap.size k3 (.slice gA' gn gc') (.slice fA' fn fc') (.slice nA' nn nc') gs fl vls ns tr wx ∧ Below W1.heap.size W1 wx ∧ (1 ≤ gn → ∃ b, gA' = some ⟨b, 0, none⟩) ∧ (1 ≤ fn → ∃ b, fA' = some ⟨b, 0, none⟩) ∧ (1 ≤ nn → ∃ b, nA' = some ⟨b, 0, none⟩))
  case first =>
    go_region_held2 (fun Wx => Wx.cell? ⟨H0, 0, none⟩ = some (.slice gA gn gc) ∧ Wx.cell? ⟨H0, 1, none⟩ = some (.slice fA fn fc) ∧ Wx.cell? ⟨H0, 2, none⟩ = some (.slice nA nn nc) ∧ H0 < Wx.heap.size)
      (first | exact ⟨q0, q1, q2, ql⟩ | exact HS.out _ J | exact HS.out _ (J.alloc J.size _) | exact HS.out _ (J.alloc J.size _).drew | exact HS.out _ (((J.setCell (by first | exact SF | exact SG | exact Nat.le_refl _) _).setCell (by first | exact SF | exact SG | exact Nat.le_refl _) _).setCell (by first | exact SF | exact SG | exact Nat.le_refl _) _))
      (first
            | (go_at_call 87; (with_reducible refine Calls.mono (HCG.out _ (by first | exact J | exact J.drew | exact J.alloc J.size _ | exact (J.alloc J.size _).drew | exact J.drew.alloc J.size _)) ?_); rintro e vG ⟨gA', gc', rfl, RG, NG, J, KG⟩; have SG := J.size; (first | (have Z := Z.below KG Z.lt) | (have Z := Blk.below (Blk.new _ _ _) KG (Blk.lt (Blk.new _ _ _))) | (have Z := Blk.below (show Blk (World.drew (World.alloc _ _)) _ _ _ from Blk.new _ _ _) KG (Blk.lt (Blk.new _ _ _))) | skip))
            | (go_at_call 88; (with_reducible refine Calls.mono (HCF.out _ (by first | exact J | exact J.drew | exact J.alloc J.size _ | exact (J.alloc J.size _).drew | exact J.drew.alloc J.size _)) ?_); rintro e vF ⟨fA', fc', rfl, RF, NF, J, KF⟩; have SF := J.size; (first | (have Z := Z.below KF Z.lt) | (have Z := Blk.below (Blk.new _ _ _) KF (Blk.lt (Blk.new _ _ _))) | (have Z := Blk.below (show Blk (World.drew (World.alloc _ _)) _ _ _ from Blk.new _ _ _) KF (Blk.lt (Blk.new _ _ _))) | skip); have RG := gr_row (grown_of_below KF) (by first | exact RG | exact RG.drew | exact RG.alloc _) (by simp))
            | (go_at_call 89; (with_reducible refine Calls.mono (HCN.out _ (by first | exact J | exact J.drew | exact J.alloc J.size _ | exact (J.alloc J.size _).drew | exact J.drew.alloc J.size _)) ?_); rintro e vN ⟨nA', nc', rfl, RN, NN, J, KN⟩; have SN := J.size; (first | (have Z := Z.below KN Z.lt; have z0 : _ = some (Value.slice none 0 0) := Z.cell 0; have z1 : _ = some (Value.slice none 0 0) := Z.cell 1; have z2 : _ = some (Value.slice none 0 0) := Z.cell 2; have zf0 := Z.frozen 0; have zf1 := Z.frozen 1; have zf2 := Z.frozen 2; have zl := Z.lt) | (have Z := Blk.below (Blk.new _ _ _) KN (Blk.lt (Blk.new _ _ _)); have z0 : _ = some (Value.slice none 0 0) := Z.cell 0; have z1 : _ = some (Value.slice none 0 0) := Z.cell 1; have z2 : _ = some (Value.slice none 0 0) := Z.cell 2; have zf0 := Z.frozen 0; have zf1 := Z.frozen 1; have zf2 := Z.frozen 2; have zl := Z.lt) | (have Z := Blk.below (show Blk (World.drew (World.alloc _ _)) _ _ _ from Blk.new _ _ _) KN (Blk.lt (Blk.new _ _ _)); have z0 : _ = some (Value.slice none 0 0) := Z.cell 0; have z1 : _ = some (Value.slice none 0 0) := Z.cell 1; have z2 : _ = some (Value.slice none 0 0) := Z.cell 2; have zf0 := Z.frozen 0; have zf1 := Z.frozen 1; have zf2 := Z.frozen 2; have zl := Z.lt) | skip); have RG := gr_row (grown_of_below KN) (by first | exact RG | exact RG.drew | exact RG.alloc _) (by simp); have RF := gr_row (grown_of_below KN) (by first | exact RF | exact RF.drew | exact RF.alloc _) (by simp)))
    all_goals
      go_wp2_with fail
      go_meet
      refine ⟨_, gA', fA', nA', gc', fc', nc', rfl, ?_, ?_, NG, NF, NN⟩
      · first
          | exact uno_new (by rw [HN.out.1]; exact RG) (by rw [HN.out.2.1]; exact RF) (by rw [HN.out.2.2]; exact RN) SN
          | exact uno_set (by rfl) Z (by rw [HN.out.1]; exact RG) (by rw [HN.out.2.1]; exact RF) (by rw [HN.out.2.2]; exact RN) (by first | exact SF | exact SG | exact Nat.le_refl _) SN
      · first
          | exact J.alloc SN _
          | exact (((J.setCell (by first | exact SF | exact SG | exact Nat.le_refl _) _).setCell (by first | exact SF | exact SG | exact Nat.le_refl _) _).setCell (by first | exact SF | exact SG | exact Nat.le_refl _) _)
  case rest =>
    obtain ⟨k3, gA', fA', nA', gc', fc', nc', rfl, hO, hb, hNG, hNF, hNN⟩ := hcut
    obtain ⟨W2, hW2⟩ : ∃ x, x = wc := ⟨_, rfl⟩
    subst hW2
    have z0 : W2.cell? ⟨k3, 0, none⟩ = some (.slice gA' gn gc') := hO.out.cell 0
    have zl := hO.out.lt
    have HO := Lib.hid (And.intro hO (And.intro hb (And.intro hNG (And.intro hNF hNN))))
    clear hO hb hNG hNF hNN q0 q1 q2 ql J HCG HCF HCN HS
    go_wp2_with fail
    go_loopw [24] (fun v24 wr => ∃ j : Nat, v24 = .int .i64 j ∧ j ≤ gn ∧ UnO W1.heap.size k3 (.slice gA' gn gc') (.slice fA' fn fc') (.slice nA' nn nc') gs fl vls ns tr wr ∧ Below W1.heap.size W1 wr) (fun v _ => gn - (intOf v).toNat)
    case atStart => exact ⟨0, rfl, by omega, HO.out.1, HO.out.2.1⟩
    case round =>
      obtain ⟨j, rfl, hj, hU, hbw⟩ := hrel
      by_cases hlt : j < gn
      · obtain ⟨gb, rfl⟩ := HO.out.2.2.1 (by omega)
        obtain ⟨g, hg1⟩ : ∃ g, gs[j]? = some g := ⟨_, List.getElem?_eq_getElem (by rw [HN.out.1]; exact hlt)⟩
        have hrow := hU.g
        rw [HN.out.1] at hrow
        have hat : (gs.flatMap glC)[j * 4]? = some (.string (str g.s)) := by
          have := flat_at' glC 4 (fun _ => rfl) gs j 0 (by omega)
          rw [hg1, Nat.add_zero] at this
          exact this
        have q0 : wr.cell? ⟨gb, j * 4, none⟩ = some (.string (str g.s)) := by
          rw [hrow.cellAt (j * 4) (by omega)]
          exact hat
        have qf := hrow.frozenAt (j * 4)
        have ql : gb < wr.heap.size := (row_kind hrow rfl).lt
        have z0 : wr.cell? ⟨k3, 0, none⟩ = some (.slice (some ⟨gb, 0, none⟩) gn gc') := hU.out.cell 0
        have zl := hU.out.lt
        have hltI : (j : Int) < gn := by omega
        have HSC := Lib.hid (sclone_any g.s (HM.out.1 g (List.mem_of_getElem? hg1)))
        have HU := Lib.hid (And.intro hU (And.intro hbw (And.intro hrow hat)))
        clear hU hbw hrow hat hg1
        go_wp2_with fail
        refine (HSC.out _).mono ?_
        rintro e v5 ⟨rfl, hb5⟩
        have q5 := (hb5.cell (p := ⟨gb, j * 4, none⟩) ql).trans q0
        have qf5 := (hb5.frozen (p := ⟨gb, j * 4, none⟩) ql).trans qf
        have ql5 : gb < v5.heap.size := Nat.lt_of_lt_of_le ql hb5.size
        have HB5 := Lib.hid hb5
        clear hb5
        go_wp2_with fail
        go_roundw
        case rel =>
          obtain ⟨hU, hbw, hrow, hat⟩ := HU.out
          rw [row_same (gr_row (grown_of_below HB5.out) hrow (by simp)) hat]
          exact ⟨j + 1, by go_num, by omega, hU.on HB5.out, hbw.trans (HB5.out.mono hU.BH)⟩
        case measure => simp [intOf]; omega
      · obtain rfl : gn = j := by omega
        have z1 : wr.cell? ⟨k3, 1, none⟩ = some (.slice fA' fn fc') := hU.out.cell 1
        have zl1 := hU.out.lt
        have HU := Lib.hid (And.intro hU hbw)
        clear hU hbw z0 zl
        obtain ⟨W3, hW3⟩ : ∃ x, x = wr := ⟨_, rfl⟩
        subst hW3
        go_wp2_with fail
        go_loopw [43] (fun v43 w4 => ∃ (j : Nat) (fcur : List (Fn' × Value)) (vcur : List Value), v43 = .int .i64 j ∧ j ≤ fn ∧ FnSt W1 k3 (.slice gA' gn gc') (.slice fA' fn fc') (.slice nA' nn nc') gs fl ns tr j fcur vcur w4) (fun v _ => fn - (intOf v).toNat)
        case atStart => exact ⟨0, fl, vls, rfl, by omega, HU.out.1, rfl, fun i _ => rfl, H.out.vl, fun i hi => absurd hi (by omega), fun i x hi => absurd hi (by omega), HU.out.2⟩
        case round =>
          obtain ⟨j, fcur, vcur, rfl, hj, hF⟩ := hrel
          by_cases hlt : j < fn
          · obtain ⟨fb, rfl⟩ := HO.out.2.2.2.1 (by omega)
            have hjl : j < fcur.length := by rw [hF.len, HN.out.2.1]; exact hlt
            obtain ⟨⟨f, p0⟩, hx⟩ : ∃ x, fcur[j]? = some x := ⟨_, List.getElem?_eq_getElem hjl⟩
            have hxl : fl[j]? = some (f, p0) := by rw [← hF.u j (Nat.le_refl _)]; exact hx
            have hfl := List.mem_of_getElem? hxl
            obtain ⟨v0, hv0⟩ : ∃ v, vcur[j]? = some v := ⟨_, List.getElem?_eq_getElem (by rw [hF.vl, HN.out.2.1]; exact hlt)⟩
            have hps := HI.out.ps _ hfl
            simp only at hps
            have hfm := HM.out.2.1 _ hfl
            simp only at hfm
            obtain ⟨pn, hpn⟩ : ∃ n, f.ps.length = n := ⟨_, rfl⟩
            rw [hpn] at hps hfm
            obtain ⟨pA, pc, rfl⟩ : ∃ A c, p0 = .slice A pn c := by obtain ⟨A, c, e, -⟩ := hps; exact ⟨A, c, e⟩
            have hrow := hF.o.f
            rw [hF.len, HN.out.2.1] at hrow
            have y0 : wr.cell? ⟨fb, j * 6, none⟩ = some (.string (str f.s)) := by
              rw [hrow.cellAt (j * 6) (by omega)]
              exact fnCs_at fcur vcur j 0 (by omega) hx hv0
            have y2 : wr.cell? ⟨fb, j * 6 + 2, none⟩ = some (.slice pA pn pc) := by
              rw [hrow.cellAt (j * 6 + 2) (by omega)]
              exact fnCs_at fcur vcur j 2 (by omega) hx hv0
            have y5 : wr.cell? ⟨fb, j * 6 + 5, none⟩ = some v0 := by
              rw [hrow.cellAt (j * 6 + 5) (by omega)]
              exact fnCs_at fcur vcur j 5 (by omega) hx hv0
            have f0 := hrow.frozenAt (j * 6)
            have f2 := hrow.frozenAt (j * 6 + 2)
            have f5 := hrow.frozenAt (j * 6 + 5)
            have ql : fb < wr.heap.size := (row_kind hrow rfl).lt
            have z1 : wr.cell? ⟨k3, 1, none⟩ = some (.slice (some ⟨fb, 0, none⟩) fn fc') := hF.o.out.cell 1
            have zl := hF.o.out.lt
            have hltI : (j : Int) < fn := by omega
            have HSC : Hid (∀ W, Below wr.heap.size wr W → Calls Tryz.prog 90 #[.string (str f.s)] W fun e w' => e = .returned (.string (str f.s)) ∧ Below wr.heap.size wr w') := Lib.hid fun W hW => (sclone_any f.s hfm.1 W).mono fun e w' h => ⟨h.1, hW.trans (h.2.mono hW.size)⟩
            have HCP : Hid (∀ W, Below wr.heap.size wr W → Calls Tryz.prog 91 #[.slice pA pn pc] W fun e w' => ∃ A c, e = .returned (.slice A pn c) ∧ w'.ownsRow W1.heap.size tPr 2 (.slice A pn c) pn (f.ps.flatMap pmC') ∧ Below wr.heap.size wr w') := Lib.hid fun W hW => by
              have hr := (hps.on (hF.bl.trans (hW.mono hF.o.BH)))
              refine (cloneClP_any hr (by rw [flat_len' _ 2 (fun _ => rfl), hpn]) hfm.2.1 (pmC_one f.ps)).mono fun e w' ⟨v', e1, hr', hne, hb⟩ => ?_
              obtain ⟨A', c', rfl⟩ := own_ex hr'
              exact ⟨A', c', e1, row_base hr' (Nat.le_trans hF.o.BH hW.size), hW.trans (hb.mono hW.size)⟩
            have HS : Hid (∀ Wx, Below wr.heap.size wr Wx → Wx.cell? ⟨fb, j * 6, none⟩ = some (.string (str f.s)) ∧ Wx.cell? ⟨fb, j * 6 + 2, none⟩ = some (.slice pA pn pc) ∧ Wx.cell? ⟨fb, j * 6 + 5, none⟩ = some v0 ∧ Wx.frozen? ⟨fb, j * 6, none⟩ = false ∧ Wx.frozen? ⟨fb, j * 6 + 2, none⟩ = false ∧ Wx.frozen? ⟨fb, j * 6 + 5, none⟩ = false ∧ fb < Wx.heap.size) := Lib.hid fun Wx hW =>
              ⟨(hW.cell (p := ⟨fb, _, none⟩) ql).trans y0, (hW.cell (p := ⟨fb, _, none⟩) ql).trans y2, (hW.cell (p := ⟨fb, _, none⟩) ql).trans y5, (hW.frozen (p := ⟨fb, _, none⟩) ql).trans f0, (hW.frozen (p := ⟨fb, _, none⟩) ql).trans f2, (hW.frozen (p := ⟨fb, _, none⟩) ql).trans f5, Nat.lt_of_lt_of_le ql hW.size⟩
            have J : Below wr.heap.size wr wr := Below.refl _ _
            have HF := Lib.hid (And.intro hF (And.intro hx (And.intro hpn hfm)))
            clear hF hx hxl hfl hv0 hps hfm hpn hrow hjl
            go_upto_region 12 with (fail)
            go_cut [] (fun wx => ∃ A c, FnSt W1 k3 (.slice gA' gn gc') (.slice (some ⟨fb, 0, none⟩) fn fc') (.slice nA' nn nc') gs fl ns tr (j + 1) (fcur.set j (f, .slice A pn c)) (vcur.set j (.slice none 0 0)) wx)
            case first =>
              go_region_law (first
                | (go_simp; go_at_call 90; (with_reducible refine Calls.mono (HSC.out _ (by first | exact J | exact J.drew)) ?_); rintro e v1 ⟨rfl, J⟩; obtain ⟨y0, y2, y5, f0, f2, f5, ql⟩ := HS.out _ J)
                | (go_simp; go_at_call 91; (with_reducible refine Calls.mono (HCP.out _ (by first | exact J | exact J.drew)) ?_); rintro e v2 ⟨A2, c2, rfl, R2, J⟩; obtain ⟨y0, y2, y5, f0, f2, f5, ql⟩ := HS.out _ J))
              all_goals
                go_wp2_with fail
                go_meet
                exact ⟨A2, c2, (HF.out.1.on J).step (by rw [HN.out.2.1]) HF.out.2.1 (by rw [HF.out.2.2.1]; exact R2)⟩
            case rest =>
              obtain ⟨A5, c5, hF5⟩ := hcut
              obtain ⟨W5, hW5⟩ : ∃ x, x = wc := ⟨_, rfl⟩
              subst hW5
              have hjl5 : j < fcur.length := (List.getElem?_eq_some_iff.1 HF.out.2.1).1
              have hx5 : (fcur.set j (f, .slice A5 pn c5))[j]? = some (f, .slice A5 pn c5) := List.getElem?_set_self hjl5
              obtain ⟨fcc, hfcc⟩ : ∃ l, fcur.set j (f, .slice A5 pn c5) = l := ⟨_, rfl⟩
              obtain ⟨vcc, hvcc⟩ : ∃ l, vcur.set j (.slice none 0 0) = l := ⟨_, rfl⟩
              rw [hfcc] at hx5
              rw [hfcc, hvcc] at hF5
              obtain ⟨v5, hv5⟩ : ∃ v, vcc[j]? = some v := ⟨_, List.getElem?_eq_getElem (by rw [hF5.vl, HN.out.2.1]; exact hlt)⟩
              have y2 : W5.cell? ⟨fb, j * 6 + 2, none⟩ = some (.slice A5 pn c5) := by
                have hrow := hF5.o.f
                rw [hF5.len, HN.out.2.1] at hrow
                rw [hrow.cellAt (j * 6 + 2) (by omega)]
                exact fnCs_at fcc vcc j 2 (by omega) hx5 hv5
              have ql : fb < W5.heap.size := (row_kind hF5.o.f rfl).lt
              have HX5 := Lib.hid (And.intro hx5 hv5)
              have hpnb : pn ≤ 1000000 := HF.out.2.2.2.2.1
              have HF5 := Lib.hid hF5
              clear hF5 hx5 hv5 hjl5 hfcc hvcc J HSC HCP HS y0 y5 f0 f2 f5 z1 zl
              go_wp2_with fail
              go_loopw [74] (fun v74 wi => ∃ i : Nat, v74 = .int .i64 i ∧ i ≤ pn ∧ FnSt W1 k3 (.slice gA' gn gc') (.slice (some ⟨fb, 0, none⟩) fn fc') (.slice nA' nn nc') gs fl ns tr (j + 1) fcc vcc wi) (fun v _ => pn - (intOf v).toNat)
              case atStart => exact ⟨0, rfl, by omega, HF5.out⟩
              case round =>
                obtain ⟨i, rfl, hi, hFi⟩ := hrel
                by_cases hil : i < pn
                · have hrow := hFi.p j _ (by omega) HX5.out.1
                  simp only [HF.out.2.2.1] at hrow
                  obtain ⟨p, hp⟩ : ∃ p, f.ps[i]? = some p := ⟨_, List.getElem?_eq_getElem (by rw [HF.out.2.2.1]; exact hil)⟩
                  obtain ⟨pb, rfl⟩ : ∃ pb, A5 = some ⟨pb, 0, none⟩ := by
                    rcases hrow.2 with ⟨-, e⟩ | ⟨g, cap, cur, e, _⟩
                    · omega
                    · simp only [Value.slice.injEq] at e; exact ⟨g, e.1⟩
                  have hat : (f.ps.flatMap pmC')[i * 2]? = some (.string (str p.s)) := by
                    have := flat_at' pmC' 2 (fun _ => rfl) f.ps i 0 (by omega)
                    rw [hp, Nat.add_zero] at this
                    exact this
                  have q0 : wr.cell? ⟨pb, i * 2, none⟩ = some (.string (str p.s)) := by
                    rw [hrow.cellAt (i * 2) (by omega)]
                    exact hat
                  have qf := hrow.frozenAt (i * 2)
                  have pl : pb < wr.heap.size := (row_kind hrow rfl).lt
                  have y2 : wr.cell? ⟨fb, j * 6 + 2, none⟩ = some (.slice (some ⟨pb, 0, none⟩) pn c5) := by
                    have hrw := hFi.o.f
                    rw [hFi.len, HN.out.2.1] at hrw
                    rw [hrw.cellAt (j * 6 + 2) (by omega)]
                    exact fnCs_at fcc vcc j 2 (by omega) HX5.out.1 HX5.out.2
                  have ql : fb < wr.heap.size := (row_kind hFi.o.f rfl).lt
                  have hiI : (i : Int) < pn := by omega
                  have HSC : Hid (∀ W, Below wr.heap.size wr W → Calls Tryz.prog 90 #[.string (str p.s)] W fun e w' => e = .returned (.string (str p.s)) ∧ Below wr.heap.size wr w') := Lib.hid fun W hW => (sclone_any p.s (HF.out.2.2.2.2.2 p (List.mem_of_getElem? hp)) W).mono fun e w' h => ⟨h.1, hW.trans (h.2.mono hW.size)⟩
                  have HS : Hid (∀ Wx, Below wr.heap.size wr Wx → Wx.cell? ⟨fb, j * 6 + 2, none⟩ = some (.slice (some ⟨pb, 0, none⟩) pn c5) ∧ Wx.cell? ⟨pb, i * 2, none⟩ = some (.string (str p.s)) ∧ Wx.frozen? ⟨pb, i * 2, none⟩ = false ∧ fb < Wx.heap.size ∧ pb < Wx.heap.size) := Lib.hid fun Wx hW =>
                    ⟨(hW.cell (p := ⟨fb, _, none⟩) ql).trans y2, (hW.cell (p := ⟨pb, _, none⟩) pl).trans q0, (hW.frozen (p := ⟨pb, _, none⟩) pl).trans qf, Nat.lt_of_lt_of_le ql hW.size, Nat.lt_of_lt_of_le pl hW.size⟩
                  have J : Below wr.heap.size wr wr := Below.refl _ _
                  have HFi := Lib.hid (And.intro hFi (And.intro hrow hat))
                  clear hFi hrow hat hp
                  go_upto_region 16 with (fail)
                  go_region_law (go_simp; go_at_call 90; (with_reducible refine Calls.mono (HSC.out _ (by first | exact J | exact J.drew)) ?_); rintro e v1 ⟨rfl, J⟩; obtain ⟨y2, q0, qf, ql, pl⟩ := HS.out _ J)
                  all_goals
                    have HFw := Lib.hid (show FnSt W1 k3 (.slice gA' gn gc') (.slice (some ⟨fb, 0, none⟩) fn fc') (.slice nA' nn nc') gs fl ns tr (j + 1) fcc vcc (v1.setCell ⟨pb, i * 2, none⟩ (.string (str p.s))) by
                      rw [row_same (gr_row (grown_of_below J) HFi.out.2.1 (by simp)) HFi.out.2.2]
                      exact HFi.out.1.on J)
                    go_wp2_with fail
                    go_roundw
                    case rel => exact ⟨i + 1, by go_num, by omega, HFw.out⟩
                    case measure => simp [intOf]; omega
                · obtain rfl : pn = i := by omega
                  have HFi := Lib.hid hFi
                  clear hFi
                  go_wp2_with fail
                  go_roundw
                  case rel => exact ⟨j + 1, fcc, vcc, by go_num, by omega, HFi.out⟩
                  case measure => simp [intOf]; omega
          · obtain rfl : fn = j := by omega
            have z2 : wr.cell? ⟨k3, 2, none⟩ = some (.slice nA' nn nc') := hF.o.out.cell 2
            have zl2 := hF.o.out.lt
            have HF := Lib.hid hF
            clear hF
            obtain ⟨W4, hW4⟩ : ∃ x, x = wr := ⟨_, rfl⟩
            subst hW4
            go_wp2_with fail
            go_loopw [98] (fun v98 wi => ∃ (j : Nat) (nc : List CN) (tc : List (Int × Int)), v98 = .int .i64 j ∧ j ≤ nn ∧ NdSt W1 k3 (.slice gA' gn gc') (.slice fA' fn fc') (.slice nA' nn nc') gs fcur vcur ns tr j nc tc wi) (fun v _ => nn - (intOf v).toNat)
            case atStart =>
              refine ⟨0, ns, tr, rfl, by omega, HF.out.o, rfl, fun i _ => ⟨rfl, rfl⟩, H.out.tl, fun i _ _ hi => absurd hi (by omega), fun i _ hi => absurd hi (by omega), fun x hx => ?_, HF.out.bl⟩
              obtain ⟨i, hi, rfl⟩ := List.getElem_of_mem hx
              exact HF.out.p i _ (by rw [HF.out.len, HN.out.2.1] at hi; exact hi) (List.getElem?_eq_getElem hi)
            case round =>
              obtain ⟨j, nc, tc, rfl, hj, hD⟩ := hrel
              by_cases hlt : j < nn
              · obtain ⟨nb, rfl⟩ := HO.out.2.2.2.2 (by omega)
                have hjl : j < nc.length := by rw [hD.len, HN.out.2.2]; exact hlt
                obtain ⟨x, hx⟩ : ∃ x, nc[j]? = some x := ⟨_, List.getElem?_eq_getElem hjl⟩
                obtain ⟨t, ht⟩ : ∃ t, tc[j]? = some t := ⟨_, List.getElem?_eq_getElem (by rw [hD.tl, HN.out.2.2]; exact hlt)⟩
                have hxl : ns[j]? = some x := by rw [← (hD.u j (Nat.le_refl _)).1]; exact hx
                have hxm := List.mem_of_getElem? hxl
                have hks := HI.out.ks _ hxm
                have hnm := HM.out.2.2 _ hxm
                obtain ⟨kn, hkn⟩ : ∃ n, x.kids.length = n := ⟨_, rfl⟩
                rw [hkn] at hks hnm
                obtain ⟨kA, kc, hkv⟩ : ∃ A c, x.v = .slice A kn c := by obtain ⟨A, c, e, -⟩ := hks; exact ⟨A, c, e⟩
                rw [hkv] at hks
                have hrow := hD.o.n
                rw [hD.len, HN.out.2.2] at hrow
                have hy : ∀ i u, i < 8 → (cellT x t)[i]? = some u → (cellsTr nc tc)[j * 8 + i]? = some u := fun i u hi hu => (cellsTr_at nc tc j i hi hx ht).trans hu
                have y0 : wr.cell? ⟨nb, j * 8, none⟩ = some (.int .i64 x.h.op) := by
                  rw [hrow.cellAt (j * 8) (by omega)]
                  exact hy 0 _ (by omega) rfl
                have y3 : wr.cell? ⟨nb, j * 8 + 3, none⟩ = some (.string (str x.h.s)) := by
                  rw [hrow.cellAt (j * 8 + 3) (by omega)]
                  exact hy 3 _ (by omega) rfl
                have y5 : wr.cell? ⟨nb, j * 8 + 5, none⟩ = some (.slice kA kn kc) := by
                  rw [hrow.cellAt (j * 8 + 5) (by omega)]
                  exact hy 5 _ (by omega) (by rw [← hkv]; rfl)
                have y7 : wr.cell? ⟨nb, j * 8 + 7, none⟩ = some (.int .i64 t.2) := by
                  rw [hrow.cellAt (j * 8 + 7) (by omega)]
                  exact hy 7 _ (by omega) rfl
                have f3 := hrow.frozenAt (j * 8 + 3)
                have f5 := hrow.frozenAt (j * 8 + 5)
                have f7 := hrow.frozenAt (j * 8 + 7)
                have ql : nb < wr.heap.size := (row_kind hrow rfl).lt
                have z2 : wr.cell? ⟨k3, 2, none⟩ = some (.slice (some ⟨nb, 0, none⟩) nn nc') := hD.o.out.cell 2
                have zl := hD.o.out.lt
                have hltI : (j : Int) < nn := by omega
                have HSC : Hid (∀ W, Below wr.heap.size wr W → Calls Tryz.prog 90 #[.string (str x.h.s)] W fun e w' => e = .returned (.string (str x.h.s)) ∧ Below wr.heap.size wr w') := Lib.hid fun W hW => (sclone_any x.h.s hnm.1 W).mono fun e w' h => ⟨h.1, hW.trans (h.2.mono hW.size)⟩
                have HCP : Hid (∀ W, Below wr.heap.size wr W → Calls Tryz.prog 92 #[.slice kA kn kc] W fun e w' => ∃ A c, e = .returned (.slice A kn c) ∧ w'.ownsRow W1.heap.size tInt 1 (.slice A kn c) kn (ints (natI x.kids)) ∧ Below wr.heap.size wr w') := Lib.hid fun W hW => by
                  have hr := (hks.on (hD.bl.trans (hW.mono hD.o.BH)))
                  refine (cloneClI_any hr (by simp [ints, natI, hkn]) hnm.2 (ints_one _)).mono fun e w' ⟨v', e1, hr', hne, hb⟩ => ?_
                  obtain ⟨A', c', rfl⟩ := own_ex hr'
                  exact ⟨A', c', e1, row_base hr' (Nat.le_trans hD.o.BH hW.size), hW.trans (hb.mono hW.size)⟩
                have HS : Hid (∀ Wx, Below wr.heap.size wr Wx → Wx.cell? ⟨nb, j * 8 + 3, none⟩ = some (.string (str x.h.s)) ∧ Wx.cell? ⟨nb, j * 8 + 5, none⟩ = some (.slice kA kn kc) ∧ Wx.cell? ⟨nb, j * 8 + 7, none⟩ = some (.int .i64 t.2) ∧ Wx.frozen? ⟨nb, j * 8 + 3, none⟩ = false ∧ Wx.frozen? ⟨nb, j * 8 + 5, none⟩ = false ∧ Wx.frozen? ⟨nb, j * 8 + 7, none⟩ = false ∧ nb < Wx.heap.size) := Lib.hid fun Wx hW =>
                  ⟨(hW.cell (p := ⟨nb, _, none⟩) ql).trans y3, (hW.cell (p := ⟨nb, _, none⟩) ql).trans y5, (hW.cell (p := ⟨nb, _, none⟩) ql).trans y7, (hW.frozen (p := ⟨nb, _, none⟩) ql).trans f3, (hW.frozen (p := ⟨nb, _, none⟩) ql).trans f5, (hW.frozen (p := ⟨nb, _, none⟩) ql).trans f7, Nat.lt_of_lt_of_le ql hW.size⟩
                have J : Below wr.heap.size wr wr := Below.refl _ _
                have HD := Lib.hid (And.intro hD (And.intro hx (And.intro ht (And.intro hkn (And.intro hrow hy)))))
                clear hD hx ht hxl hxm hks hnm hkn hkv hrow hy hjl y0
                go_upto_region 23 with (fail)
                go_cut [] (fun wx => ∃ A c, (x.h.op = 1 → NdSt W1 k3 (.slice gA' gn gc') (.slice fA' fn fc') (.slice (some ⟨nb, 0, none⟩) nn nc') gs fcur vcur ns tr (j + 1) (nc.set j { x with v := .slice A kn c }) (tc.set j (if x.h.op = 1 then t.1 else 0, 0)) wx) ∧
                  (x.h.op ≠ 1 → NdSt W1 k3 (.slice gA' gn gc') (.slice fA' fn fc') (.slice (some ⟨nb, 0, none⟩) nn nc') gs fcur vcur ns tr (j + 1) (nc.set j { x with v := .slice A kn c }) (tc.set j (if x.h.op = 1 then t.1 else 0, 0)) (wx.setCell ⟨nb, j * 8 + 6, none⟩ (.int .i64 0))) ∧
                  wx.cell? ⟨nb, j * 8, none⟩ = some (.int .i64 x.h.op) ∧ wx.cell? ⟨nb, j * 8 + 6, none⟩ = some (.int .i64 t.1) ∧ wx.frozen? ⟨nb, j * 8 + 6, none⟩ = false ∧ nb < wx.heap.size)
                case first =>
                  go_region_law (first
                    | (go_simp; go_at_call 90; (with_reducible refine Calls.mono (HSC.out _ (by first | exact J | exact J.drew)) ?_); rintro e v1 ⟨rfl, J⟩; obtain ⟨y3, y5, y7, f3, f5, f7, ql⟩ := HS.out _ J)
                    | (go_simp; go_at_call 92; (with_reducible refine Calls.mono (HCP.out _ (by first | exact J | exact J.drew)) ?_); rintro e v2 ⟨A2, c2, rfl, R2, J⟩; obtain ⟨y3, y5, y7, f3, f5, f7, ql⟩ := HS.out _ J))
                  all_goals
                    go_wp2_with fail
                    go_meet
                    have hst := (HD.out.1.on J).step (by rw [HN.out.2.2]) HD.out.2.1 HD.out.2.2.1 (show v2.ownsRow W1.heap.size tInt 1 (.slice A2 kn c2) x.kids.length (ints (natI x.kids)) by rw [HD.out.2.2.2.1]; exact R2)
                    have hrw := gr_row (grown_of_below J) HD.out.2.2.2.2.1 (by simp)
                    have h0 := row_cell3 (x := .string (str x.h.s)) (y := .slice A2 kn c2) (z := .int .i64 0) hrw (i := j * 8) (a := j * 8 + 3) (b := j * 8 + 5) (c := j * 8 + 7) (by omega) (HD.out.2.2.2.2.2 0 _ (by omega) rfl) (by omega) (by omega) (by omega)
                    have h6 := row_cell3 (x := .string (str x.h.s)) (y := .slice A2 kn c2) (z := .int .i64 0) hrw (i := j * 8 + 6) (a := j * 8 + 3) (b := j * 8 + 5) (c := j * 8 + 7) (by omega) (HD.out.2.2.2.2.2 6 _ (by omega) rfl) (by omega) (by omega) (by omega)
                    exact ⟨A2, c2, hst.1, hst.2, h0.1, h6.1, h6.2, by simp; exact ql⟩
                case rest =>
                  obtain ⟨A6, c6, h1, h2, y0, y6, f6, ql⟩ := hcut
                  obtain ⟨W6, hW6⟩ : ∃ x, x = wc := ⟨_, rfl⟩
                  subst hW6
                  by_cases ho : x.h.op = 1
                  · have d1 : (x.h.op != 1) = false := by simp [ho]
                    have HE := Lib.hid (h1 ho)
                    clear h1 h2 ho J HS HSC HCP y3 y5 y7 f3 f5 f7 z2 zl
                    go_wp2_with fail
                    go_roundw
                    case rel => exact ⟨j + 1, _, _, by go_num, by omega, HE.out⟩
                    case measure => simp [intOf]; omega
                  · have d1 : (x.h.op != 1) = true := by simp [ho]
                    have HE := Lib.hid (h2 ho)
                    clear h1 h2 ho J HS HSC HCP y3 y5 y7 f3 f5 f7 z2 zl
                    go_wp2_with fail
                    go_roundw
                    case rel => exact ⟨j + 1, _, _, by go_num, by omega, HE.out⟩
                    case measure => simp [intOf]; omega
              · obtain rfl : nn = j := by omega
                have z0 : wr.cell? ⟨k3, 0, none⟩ = some (.slice gA' gn gc') := hD.o.out.cell 0
                have z1 : wr.cell? ⟨k3, 1, none⟩ = some (.slice fA' fn fc') := hD.o.out.cell 1
                have z2 : wr.cell? ⟨k3, 2, none⟩ = some (.slice nA' nn nc') := hD.o.out.cell 2
                have zl := hD.o.out.lt
                have hk2 := HK.out.2.1.below hD.bl HK.out.2.1.lt
                have r0 : wr.cell? ⟨H0 + 1, 0, none⟩ = some (.slice none 0 0) := hk2.cell 0
                have r1 : wr.cell? ⟨H0 + 1, 1, none⟩ = some (.slice none 0 0) := hk2.cell 1
                have r2 : wr.cell? ⟨H0 + 1, 2, none⟩ = some (.slice none 0 0) := hk2.cell 2
                have g0 := hk2.frozen 0
                have g1 := hk2.frozen 1
                have g2 := hk2.frozen 2
                have rl := hk2.lt
                have hk9 := ((hk2.set_ 0 (.slice gA' gn gc')).set_ 1 (.slice fA' fn fc')).set_ 2 (.slice nA' nn nc')
                have HE := Lib.hid (And.intro (show R (.returned (pgV gA' fA' nA' gn gc' fn fc' nn nc')) (((wr.setCell ⟨H0 + 1, 0, none⟩ (.slice gA' gn gc')).setCell ⟨H0 + 1, 1, none⟩ (.slice fA' fn fc')).setCell ⟨H0 + 1, 2, none⟩ (.slice nA' nn nc')) by
                  rw [← HR.out]
                  have hH0 := HK.out.2.2.2
                  have hW1 := HK.out.2.2.1
                  have hB1 : w.heap.size ≤ W1.heap.size := hW1.size
                  have hs1 := hk2.set_ 0 (.slice gA' gn gc')
                  have hs2 := hs1.set_ 1 (.slice fA' fn fc')
                  have hro : ∀ {t : TypeId} {sz n : Nat} {v : Value} {xs : List Value}, t ≠ tPro → wr.ownsRow W1.heap.size t sz v n xs → (((wr.setCell ⟨H0 + 1, 0, none⟩ (.slice gA' gn gc')).setCell ⟨H0 + 1, 1, none⟩ (.slice fA' fn fc')).setCell ⟨H0 + 1, 2, none⟩ (.slice nA' nn nc')).ownsRow w.heap.size t sz v n xs := fun ht hr => row_base (row_set1 (row_set1 (row_set1 hr hk2 ht) hs1 ht) hs2 ht) hB1
                  refine ⟨gA', fA', nA', gc', fc', nc', fcur, nc, ?_, ?_, ?_, ?_, ?_, HF.out.e, ?_, hD.e, ?_, ?_, ?_, ?_⟩
                  · rw [HN.out.1, HN.out.2.1, HN.out.2.2]
                  · exact (((hW1.trans (hD.bl.mono hB1)).setCell (p := ⟨H0 + 1, 0, none⟩) (by simp only; omega) _).setCell (p := ⟨H0 + 1, 1, none⟩) (by simp only; omega) _).setCell (p := ⟨H0 + 1, 2, none⟩) (by simp only; omega) _
                  · have h9 := hD.o.g
                    rw [HN.out.1] at h9 ⊢
                    exact hro (by decide) h9
                  · have h9 := hD.o.f
                    have e9 : vcur = List.replicate fl.length (.slice none 0 0) := by
                      apply List.ext_getElem?
                      intro i
                      rw [List.getElem?_replicate]
                      by_cases hi : i < fl.length
                      · rw [if_pos hi]
                        exact HF.out.v i (by rw [← HN.out.2.1]; exact hi)
                      · rw [if_neg hi, List.getElem?_eq_none (by rw [HF.out.vl]; omega)]
                    rw [e9, HF.out.len] at h9
                    rw [HN.out.2.1] at h9 ⊢
                    exact hro (by decide) h9
                  · have h9 := hD.o.n
                    rw [trZ_of H.out.tl hD.tl (fun i x t hi hx ht => hD.t i x t (by rw [← HN.out.2.2]; exact hi) hx ht), hD.len] at h9
                    rw [HN.out.2.2] at h9 ⊢
                    exact hro (by decide) h9
                  · exact fun x hx => hro (by decide) (hD.p x hx)
                  · intro x hx
                    obtain ⟨i, hi, rfl⟩ := List.getElem_of_mem hx
                    exact hro (by decide) (hD.kd i _ (by rw [hD.len, HN.out.2.2] at hi; exact hi) (List.getElem?_eq_getElem hi))
                  · rw [HN.out.1]; exact HO.out.2.2.1
                  · rw [HN.out.2.1]; exact HO.out.2.2.2.1
                  · rw [HN.out.2.2]; exact HO.out.2.2.2.2) hk9)
                clear hD hk2 hk9
                go_wp2_with fail
                exact ret_pgC rfl rfl HE.out.2 rfl HE.out.1
end
end Go.Proofs.YtfaoiajhoifalaaGreatDoor
/-! Cld -/
namespace Go.Proofs.YtfaoiajhoifalaaGreatDoor
open Go Go.RowKit Go.Maps
set_option linter.unusedVariables false
set_option linter.unusedSimpArgs false

theorem infoBo : (Tryz.prog.info? tBo).map (fun i => (i.zero, i.size, i.bytes)) = some (some (.bool false), 1, 1) := by kernel_rfl
theorem make_bools (n : Nat) (hn : n ≤ 1000000) (W : World) : (Instr.makeSlice 64 (.int .i64 (n : Int)) (.int .i64 (n : Int))).run Tryz.prog W = .ok (.slice (some ⟨W.heap.size, 0, none⟩) n n) (W.alloc (.cells (madeCells #[.bool false] n) tBo)) := by
  obtain ⟨i0, hi, hz0, hz1, hz2⟩ := info_pk infoBo
  have hr := run_make (P := Tryz.prog) W 64 tBo i0 (.bool false) Tryz.underlying64 hi hz0 .i64 .i64 n n (by omega) (Int.le_refl _) (by rw [hz2]; omega) (by omega)
  simp only [Int.toNat_natCast, hz1, Nat.mul_one] at hr
  exact hr
theorem mp_alloc {α : Type} {R : Rdr'} {enc : α → DataW Unit} {W : World} {m n : Nat} {l : List (Nm' × α)} (h : Mpv R enc W m n l) (o : Obj) : Mpv R enc (W.alloc o) m n l := gr_map (World.grownBy_alloc W o none) h (by simp)
theorem mp_on {α : Type} {R : Rdr'} {enc : α → DataW Unit} {W W' : World} {m n : Nat} {l : List (Nm' × α)} (hb : Below W.heap.size W W') (h : Mpv R enc W m n l) : Mpv R enc W' m n l := gr_map (grown_of_below hb) h (by simp)
theorem row_on {W W' : World} {B sz n : Nat} {t : TypeId} {v : Value} {xs : List Value} (hb : Below W.heap.size W W') (h : W.ownsRow B t sz v n xs) : W'.ownsRow B t sz v n xs := gr_row (grown_of_below hb) h (by simp)
theorem row_mp {B : Nat} {W : World} (m : Nat) (hB : B ≤ W.heap.size) : (W.alloc (.cells #[.map (some m)] tMm)).ownsRow B tMm 1 (.slice (some ⟨W.heap.size, 0, none⟩) 1 1) 1 [.map (some m)] :=
  World.ownsRow_lit W #[.map (some m)] 1 hB (by decide) rfl
theorem row_bools {B : Nat} {W : World} (n : Nat) (hn : n ≤ 1000000) (hB : B ≤ W.heap.size) : (W.alloc (.cells (madeCells #[.bool false] n) tBo)).ownsRow B tBo 1 (.slice (some ⟨W.heap.size, 0, none⟩) n n) n ((List.replicate n false).map Value.bool) := by
  have h := World.ownsRow_lit (base := B) (e := tBo) (size := 1) W (madeCells #[.bool false] n) n hB (by unfold maxLen; omega) (by simp [madeCells])
  rw [toList_madeCells_one] at h
  rw [List.map_replicate]
  exact h
theorem blk_new' {W : World} {b : Nat} {t : TypeId} {cs : Array Value} (hb : W.heap.size = b) : Blk (W.alloc (.cells cs t)) b t cs := by
  subst hb
  exact Blk.new W t cs
theorem made' {W : World} {m : Nat} (hm : W.heap.size = m) : ScV (W.alloc (.map #[] 0)) m 0 [] := by
  subst hm
  exact Mpv.made W
theorem sc_alloc {W : World} {m n : Nat} {l : Scp} (h : ScV W m n l) (o : Obj) : ScV (W.alloc o) m n l := mp_alloc h o
theorem sc_on {W W' : World} {m n : Nat} {l : Scp} (hb : Below W.heap.size W W') (h : ScV W m n l) : ScV W' m n l := mp_on hb h
theorem sc_drew {W : World} {m n : Nat} {l : Scp} (h : ScV W m n l) : ScV W.drew m n l := h
theorem row_mp' {B : Nat} {W : World} {m g : Nat} (hg : W.heap.size = g) (hB : B ≤ W.heap.size) : (W.alloc (.cells #[.map (some m)] tMm)).ownsRow B tMm 1 (.slice (some ⟨g, 0, none⟩) 1 1) 1 [.map (some m)] := by
  subst hg
  exact row_mp m hB
theorem row_bools' {B : Nat} {W : World} {n g : Nat} (hn : n ≤ 1000000) (hg : W.heap.size = g) (hB : B ≤ W.heap.size) : (W.alloc (.cells (madeCells #[.bool false] n) tBo)).ownsRow B tBo 1 (.slice (some ⟨g, 0, none⟩) n n) n ((List.replicate n false).map Value.bool) := by
  subst hg
  exact row_bools n hn hB
theorem row_al {W : World} {B sz n : Nat} {t : TypeId} {v : Value} {xs : List Value} (h : W.ownsRow B t sz v n xs) (o : Obj) : (W.alloc o).ownsRow B t sz v n xs := h.alloc o
theorem row_dr {W : World} {B sz n : Nat} {t : TypeId} {v : Value} {xs : List Value} (h : W.ownsRow B t sz v n xs) : W.drew.ownsRow B t sz v n xs := h
/-- What newChecker answers. -/
def NewCP (gs : List Gl) (fl : List (Fn' × Value)) (ns : List CN) (tr : List (Int × Int)) (w : World) (e : Ending) (w' : World) : Prop :=
  ∃ (X : CkX) (S : CkS), e = .returned (ckp X) ∧ X.B = w.heap.size ∧ X.gs = gs ∧ X.fl.map (·.1) = fl.map (·.1) ∧ X.ns.map CN.nd = ns.map CN.nd ∧ CkV X S ⟨trZ ns tr, [[]], []⟩ w' ∧ Below w.heap.size w w' ∧
    S.on = false ∧ S.fi = 0 ∧ S.done = [] ∧ S.vls = List.replicate fl.length (.slice none 0 0) ∧ S.sb = List.replicate ns.length false
theorem newCP_of {gs : List Gl} {fl fl' : List (Fn' × Value)} {ns ns' : List CN} {tr : List (Int × Int)} {w W : World} {gA : Option Addr} {gn fn nn gc fc nc fB nB b g sB sc : Nat} (hl : gs.length = gn ∧ fl.length = fn ∧ ns.length = nn) (htl : tr.length = ns.length)
    (hk : Blk W b tCk #[.slice gA gn gc, .slice (some ⟨fB, 0, none⟩) fn fc, .slice (some ⟨nB, 0, none⟩) nn nc, .slice (some ⟨g, 0, none⟩) 1 1, .slice (some ⟨sB, 0, none⟩) nn sc, .pointer none, .map none])
    (hg : W.ownsRow w.heap.size tGb 4 (.slice gA gn gc) gn (gs.flatMap glC)) (hf : W.ownsRow w.heap.size tFu 6 (.slice (some ⟨fB, 0, none⟩) fn fc) fn (fnCs fl' (List.replicate fn (.slice none 0 0)))) (hn : W.ownsRow w.heap.size tNd 8 (.slice (some ⟨nB, 0, none⟩) nn nc) nn (cellsTr ns' (trZ ns tr)))
    (he : fl'.map (·.1) = fl.map (·.1)) (hp : ∀ x ∈ fl', W.ownsRow w.heap.size tPr 2 x.2 x.1.ps.length (x.1.ps.flatMap pmC')) (hne : ns'.map CN.nd = ns.map CN.nd) (hkd : ∀ x ∈ ns', W.ownsRow w.heap.size tInt 1 x.v x.kids.length (ints (natI x.kids)))
    (hms : ∃ m, W.ownsRow w.heap.size tMm 1 (.slice (some ⟨g, 0, none⟩) 1 1) 1 [.map (some m)] ∧ ScV W m 0 [] ∧ w.heap.size ≤ m) (hse : W.ownsRow w.heap.size tBo 1 (.slice (some ⟨sB, 0, none⟩) nn sc) nn ((List.replicate nn false).map Value.bool))
    (hbB : w.heap.size ≤ b) (hb : Below w.heap.size w W) : NewCP gs fl ns tr w (.returned (.pointer (some ⟨b, 0, none⟩))) W := by
  obtain ⟨m, hsc, hm, hmB⟩ := hms
  obtain ⟨rfl, rfl, rfl⟩ := hl
  have hfl : fl'.length = fl.length := by have := congrArg List.length he; simpa using this
  have hnl : ns'.length = ns.length := by have := congrArg List.length hne; simpa using this
  have rb : ∀ {t : TypeId} {sz n : Nat} {v : Value} {xs : List Value}, W.ownsRow w.heap.size t sz v n xs → RowB W w.heap.size W.heap.size t sz v n xs := fun h => ⟨h, fun k hk => (h.lt k hk).2⟩
  refine ⟨⟨w.heap.size, b, gA, gc, nB, nc, fB, fc, sB, sc, gs, fl', ns'⟩, ⟨false, .pointer none, .map none, 0, W.heap.size, List.replicate fl.length (.slice none 0 0), [m], .slice (some ⟨g, 0, none⟩) 1 1, 0, [], List.replicate ns.length false, []⟩, rfl, rfl, rfl, he, hne, ?_, hb, rfl, rfl, rfl, rfl, rfl⟩
  exact {
    chk := by simp only [ckCells, hfl, hnl]; exact hk
    nod := by simp only [hnl]; exact hn
    fun_ := by simp only [hfl]; exact hf
    see := by simp only [hnl]; exact hse
    trl := by simp only [trZ, List.length_map, List.length_zip, htl, hnl, Nat.min_self]
    vll := by simp only [List.length_replicate, hfl]
    fil := fun e => by cases e
    var := fun e => by cases e
    sco := hsc
    scl := rfl
    map_ := fun j k s h1 h2 => by
      cases j with
      | zero =>
        simp only [List.getElem?_cons_zero, Option.some.injEq] at h1 h2
        subst h1 h2
        exact ⟨hmB, hm⟩
      | succ j => simp at h1
    nod2 := by simp
    lab := fun e => by cases e
    labn := fun e => by cases e
    kid_ := fun x hx => rb (hkd x hx)
    old := fun j v l _ h2 _ => by simp at h2
    prm := fun x hx => rb (hp x hx)
    glb := rb hg
    hB := ⟨hbB, (hn.lt nB rfl).1, (hf.lt fB rfl).1, (hse.lt sB rfl).1, hb.size, Nat.le_refl _⟩ }
set_option maxHeartbeats 8000000 in
set_option maxRecDepth 100000 in
theorem newChecker_any {w : World} {gA fA nA : Option Addr} {gc fc nc : Nat} {gs : List Gl} {fl : List (Fn' × Value)} {vls : List Value} {ns : List CN} {tr : List (Int × Int)} (h : PgI w gA fA nA gc fc nc gs fl vls ns tr) (hg : gs.length ≤ 1000000) (hf : fl.length ≤ 1000000) (hn : ns.length ≤ 1000000) (hgm : ∀ g ∈ gs, g.s.length ≤ 1000000) (hfm : ∀ x ∈ fl, x.1.s.length ≤ 1000000 ∧ x.1.ps.length ≤ 1000000 ∧ ∀ p ∈ x.1.ps, p.s.length ≤ 1000000) (hnm : ∀ x ∈ ns, x.h.s.length ≤ 1000000 ∧ x.kids.length ≤ 1000000) (hf1 : 1 ≤ fl.length) (hn1 : 1 ≤ ns.length) :
    Calls Tryz.prog 23 #[pgV gA fA nA gs.length gc fl.length fc ns.length nc] w (NewCP gs fl ns tr w) := by
  obtain ⟨R, hR⟩ : ∃ R : Ending → World → Prop, NewCP gs fl ns tr w = R := ⟨_, rfl⟩
  rw [hR]
  have HR := Lib.hid hR
  have hmm := @run_makeMap Tryz.prog
  have hk1 := Blk.new w tPro #[.slice gA gs.length gc, .slice fA fl.length fc, .slice nA ns.length nc]
  have h1 : Below w.heap.size w (w.alloc (.cells #[.slice gA gs.length gc, .slice fA fl.length fc, .slice nA ns.length nc] tPro)) := (Below.refl _ _).alloc (Nat.le_refl _) _
  have hmk := make_bools ns.length hn
  have HI := Lib.hid (h.on h1)
  have HU : Hid (∀ W, Below (w.alloc (.cells #[.slice gA gs.length gc, .slice fA fl.length fc, .slice nA ns.length nc] tPro)).heap.size (w.alloc (.cells #[.slice gA gs.length gc, .slice fA fl.length fc, .slice nA ns.length nc] tPro)) W → Calls Tryz.prog 47 #[pgV gA fA nA gs.length gc fl.length fc ns.length nc] W fun e w' => UnP gs fl ns tr W e w' ∧ Below (w.alloc (.cells #[.slice gA gs.length gc, .slice fA fl.length fc, .slice nA ns.length nc] tPro)).heap.size (w.alloc (.cells #[.slice gA gs.length gc, .slice fA fl.length fc, .slice nA ns.length nc] tPro)) w') := Lib.hid fun W hW => (unch_any (HI.out.on hW) hg hf hn hgm hfm hnm).mono fun e w' h9 => ⟨h9, by obtain ⟨_, _, _, _, _, _, _, _, _, hb9, _⟩ := h9; exact hW.trans (hb9.mono hW.size)⟩
  have HT := Lib.hid h.tl
  obtain ⟨gn, hgn⟩ : ∃ n, gs.length = n := ⟨_, rfl⟩
  obtain ⟨fn, hfn⟩ : ∃ n, fl.length = n := ⟨_, rfl⟩
  obtain ⟨nn, hnn⟩ : ∃ n, ns.length = n := ⟨_, rfl⟩
  have HN := Lib.hid (And.intro hgn (And.intro hfn hnn))
  have HF1 := Lib.hid (And.intro hf1 hn1)
  rw [hgn, hfn, hnn] at hk1 h1 HU ⊢
  rw [hnn] at hmk hn
  have hnb := hn
  clear hR h hgm hfm hnm hgn hfn hnn hg hf hf1 hn1 hn HI
  have HH1 := Lib.hid h1
  go_enter Tryz.func23, Tryz.ntmps23
  go_upto_region 1 with (fail)
  obtain ⟨H0, hH0⟩ : ∃ x, w.heap.size = x := ⟨_, rfl⟩
  rw [hH0] at hk1
  have HH0 := Lib.hid hH0
  have hsz : (w.alloc (.cells #[.slice gA gn gc, .slice fA fn fc, .slice nA nn nc] tPro)).heap.size = H0 + 1 := by simp [hH0]
  generalize w.alloc (.cells #[.slice gA gn gc, .slice fA fn fc, .slice nA nn nc] tPro) = W1 at *
  simp only [hH0]
  clear hH0 h1
  have q0 : W1.cell? ⟨H0, 0, none⟩ = some (.slice gA gn gc) := hk1.cell 0
  have q1 : W1.cell? ⟨H0, 1, none⟩ = some (.slice fA fn fc) := hk1.cell 1
  have q2 : W1.cell? ⟨H0, 2, none⟩ = some (.slice nA nn nc) := hk1.cell 2
  have ql := hk1.lt
  have HS : Hid (∀ Wx, Below W1.heap.size W1 Wx → Wx.cell? ⟨H0, 0, none⟩ = some (.slice gA gn gc) ∧ Wx.cell? ⟨H0, 1, none⟩ = some (.slice fA fn fc) ∧ Wx.cell? ⟨H0, 2, none⟩ = some (.slice nA nn nc) ∧ H0 < Wx.heap.size) := Lib.hid fun Wx hW =>
    ⟨(hW.cell (p := ⟨H0, 0, none⟩) ql).trans q0, (hW.cell (p := ⟨H0, 1, none⟩) ql).trans q1, (hW.cell (p := ⟨H0, 2, none⟩) ql).trans q2, Nat.lt_of_lt_of_le ql hW.size⟩
  have J : Below W1.heap.size W1 W1 := Below.refl _ _
  have HSZ := Lib.hid hsz
  clear hk1 hsz
  go_region_held2 (fun Wx => Wx.cell? ⟨H0, 0, none⟩ = some (.slice gA gn gc) ∧ Wx.cell? ⟨H0, 1, none⟩ = some (.slice fA fn fc) ∧ Wx.cell? ⟨H0, 2, none⟩ = some (.slice nA nn nc) ∧ H0 < Wx.heap.size)
    (first | exact ⟨q0, q1, q2, ql⟩ | exact HS.out _ J | exact HS.out _ (J.alloc J.size _) | exact HS.out _ (J.alloc J.size _).drew | exact HS.out _ ((J.alloc J.size _).alloc (by first | (simp; done) | (have := J.size; simp; omega)) _) | exact HS.out _ ((J.alloc J.size _).alloc (by first | (simp; done) | (have := J.size; simp; omega)) _).drew | exact HS.out _ (((J.alloc J.size _).alloc (by first | (simp; done) | (have := J.size; simp; omega)) _).alloc (by first | (simp; done) | (have := J.size; simp; omega)) _) | exact HS.out _ (((J.alloc J.size _).alloc (by first | (simp; done) | (have := J.size; simp; omega)) _).alloc (by first | (simp; done) | (have := J.size; simp; omega)) _).drew | exact HS.out _ ((((J.alloc J.size _).alloc (by first | (simp; done) | (have := J.size; simp; omega)) _).alloc (by first | (simp; done) | (have := J.size; simp; omega)) _).alloc (by first | (simp; done) | (have := J.size; simp; omega)) _))
    ((go_at_call 47; (with_reducible refine Calls.mono (HU.out _ (by first | exact J | exact J.drew | exact J.alloc J.size _ | exact (J.alloc J.size _).drew | exact (J.alloc J.size _).alloc (by simp) _ | exact ((J.alloc J.size _).alloc (by simp) _).drew | exact ((J.alloc J.size _).alloc (by simp) _).alloc (by simp; omega) _ | exact (((J.alloc J.size _).alloc (by simp) _).alloc (by first | (simp; done) | (simp; omega)) _).drew)) ?_); rintro e v2 ⟨⟨gA', fA', nA', gc', fc', nc', fl', ns', rfl, hbv, RG, RF, RN, he, hp, hne, hkd, hgx, hfx, hnx⟩, J⟩; obtain ⟨fB, rfl⟩ := hfx HF1.out.1; obtain ⟨nB, rfl⟩ := hnx HF1.out.2))
  all_goals
    go_wp2_with fail
    rw [← HR.out]
    have e1 := HSZ.out
    have e2 := HH0.out
    have e3 := hbv.size
    have e4 := J.size
    simp at e3
    obtain ⟨rfl, rfl, rfl⟩ := HN.out
    refine newCP_of ⟨rfl, rfl, rfl⟩ HT.out (blk_new' ?_) ?_ ?_ ?_ he ?_ hne ?_ ?_ ?_ ?_ ?_
    · (first | omega | (simp; done) | (simp; omega))
    · repeat (first | ((with_reducible refine row_base RG ?_); (first | omega | (simp; done) | (simp; omega))) | (with_reducible refine row_al ?_ _))
    · repeat (first | ((with_reducible refine row_base RF ?_); (first | omega | (simp; done) | (simp; omega))) | (with_reducible refine row_al ?_ _))
    · repeat (first | ((with_reducible refine row_base RN ?_); (first | omega | (simp; done) | (simp; omega))) | (with_reducible refine row_al ?_ _))
    · intro x hx
      repeat (first | ((with_reducible refine row_base (hp x hx) ?_); (first | omega | (simp; done) | (simp; omega))) | (with_reducible refine row_al ?_ _))
    · intro x hx
      repeat (first | ((with_reducible refine row_base (hkd x hx) ?_); (first | omega | (simp; done) | (simp; omega))) | (with_reducible refine row_al ?_ _))
    · refine ⟨?_, ?_, ?_, ?_⟩
      rotate_left
      · repeat (first | ((with_reducible refine row_mp' ?_ ?_) <;> (first | omega | (simp; done) | (simp; omega))) | (with_reducible refine row_al ?_ _) | (with_reducible refine row_on hbv ?_) | (with_reducible refine row_dr ?_))
      · repeat (first | ((with_reducible refine made' ?_); (first | omega | (simp; done) | (simp; omega))) | (with_reducible refine sc_alloc ?_ _) | (with_reducible refine sc_on hbv ?_) | (with_reducible refine sc_drew ?_))
      · (first | omega | (simp; done) | (simp; omega))
    · repeat (first | ((with_reducible refine row_bools' hnb ?_ ?_) <;> (first | omega | (simp; done) | (simp; omega))) | (with_reducible refine row_al ?_ _) | (with_reducible refine row_on hbv ?_) | (with_reducible refine row_dr ?_))
    · (first | omega | (simp; done) | (simp; omega))
    · repeat (first | (with_reducible exact HH1.out.trans (J.mono (by omega))) | ((with_reducible refine Below.alloc ?_ ?_ _); rotate_left; (first | omega | (simp; done) | (simp; omega))) | (with_reducible refine Below.drew ?_))
end Go.Proofs.YtfaoiajhoifalaaGreatDoor
/-! Cle -/
namespace Go.Proofs.YtfaoiajhoifalaaGreatDoor
open Go Go.RowKit Go.Maps
set_option linter.unusedVariables false
set_option linter.unusedSimpArgs false

abbrev tDg : TypeId := 33

theorem as_faultC (no p : Int) (w : World) : (Instr.typeAssert (.iface tFt (.agg #[.int .i64 no, .int .i64 p])) 20 tFt true).run Tryz.prog w = .ok (.tuple #[.agg #[.int .i64 no, .int .i64 p], .bool true]) w := by kernel_rfl
theorem as_noneC (w : World) : (Instr.typeAssert .nilIface 20 tFt true).run Tryz.prog w = .ok (.tuple #[.agg #[.int .i64 0, .int .i64 0], .bool false]) w := by kernel_rfl

set_option maxHeartbeats 2000000 in
theorem catchC_fault (b : Nat) (no p : Int) (w : World) (hb : Blk w b tDg #[.int .i64 0, .int .i64 0]) :
    CallsD Tryz.prog 22 #[.pointer (some ⟨b, 0, none⟩)] (.panicking [{ v := .iface tFt ((.agg #[.int .i64 no, .int .i64 p])), recovered := false }]) w fun e u' w' =>
      e = .returned (.tuple #[]) ∧ u' = .panicking [{ v := .iface tFt ((.agg #[.int .i64 no, .int .i64 p])), recovered := true }] ∧ w' = ((w.alloc (.cells #[.int .i64 no, .int .i64 p] tFt)).setCell ⟨b, 0, none⟩ (.int .i64 no)).setCell ⟨b, 1, none⟩ (.int .i64 p) := by
  have hf := as_faultC no p
  have HB := Lib.hid hb
  clear hb
  refine callsD_of_wpS Tryz.func22 rfl fun c₀ cs hu => ?_
  apply wpS_seq
  apply wpS_region
  simp [wpOpsS, go_sem, recoverD, hu, Tryz.ntmps22, Exit.thenS, hf]
  apply wpS_seq
  apply wpS_region
  simp [wpOpsS, go_sem, Exit.thenS]
  refine wpS_cond (t := true) (by simp [Act.eval]) ?_
  simp only [if_true]
  apply wpS_region
  have hbW : Blk (w.alloc (.cells #[.int .i64 no, .int .i64 p] tFt)) b tDg #[.int .i64 0, .int .i64 0] := HB.out.alloc _
  have hnW := heap_alloc_new w (.cells #[.int .i64 no, .int .i64 p] tFt)
  have hnB : Blk (w.alloc (.cells #[.int .i64 no, .int .i64 p] tFt)) w.heap.size tFt #[.int .i64 no, .int .i64 p] := hnW
  generalize w.alloc (.cells #[.int .i64 no, .int .i64 p] tFt) = W at *
  have c0 : W.cell? ⟨b, 0, none⟩ = some (.int .i64 0) := hbW.cell 0
  have c1 : W.cell? ⟨b, 1, none⟩ = some (.int .i64 0) := hbW.cell 1
  have f0 := hbW.frozen 0
  have f1 := hbW.frozen 1
  have n0 : W.cell? ⟨w.heap.size, 0, none⟩ = some (.int .i64 no) := hnB.cell 0
  have n1 : W.cell? ⟨w.heap.size, 1, none⟩ = some (.int .i64 p) := hnB.cell 1
  have d1 : (W.setCell ⟨b, 0, none⟩ (.int .i64 no)).cell? ⟨b, 1, none⟩ = some (.int .i64 0) := (hbW.set_ 0 _).cell 1
  have g1 := (hbW.set_ 0 (.int .i64 no)).frozen 1
  simp [wpOpsS, go_sem, c0, c1, f0, f1, n0, n1, d1, g1]
  cases c₀
  simp_all [bodyPostS, results, Tryz.results22]
set_option maxHeartbeats 2000000 in
theorem catchC_none (b : Nat) (w : World) :
    CallsD Tryz.prog 22 #[.pointer (some ⟨b, 0, none⟩)] .returning w fun e u' w' => e = .returned (.tuple #[]) ∧ u' = .returning ∧ w' = w.alloc (.cells #[.int .i64 0, .int .i64 0] tFt) := by
  have hf := as_noneC
  refine callsD_of_wpS Tryz.func22 rfl fun c₀ cs hu => ?_
  apply wpS_seq
  apply wpS_region
  simp [wpOpsS, go_sem, recoverD, hu, Tryz.ntmps22, Exit.thenS, hf]
  refine wpS_of_wp ?_
  go_wp2
  cases c₀
  simp_all [bodyPostS, results, Tryz.results22]
end Go.Proofs.YtfaoiajhoifalaaGreatDoor
/-! Clf -/
namespace Go.Proofs.YtfaoiajhoifalaaGreatDoor
open Go Go.RowKit Go.Maps
set_option linter.unusedVariables false
set_option linter.unusedSimpArgs false

/-- What is asked of a program that is checked. -/
structure CkIn (pg : Pg) (gs : List Gl) (fl : List (Fn' × Value)) (ns : List CN) (tr : List (Int × Int)) : Prop where
  g : gs = pg.g
  f : fl.map (·.1) = pg.f
  n : ns.map CN.nd = pg.t.flat 0
  rt : pg.f.map (·.b) = pg.t.roots 0
  tw : TrW pg.t
  ty : ∀ (i : Nat) (x : CN) (t : Int × Int), ns[i]? = some x → tr[i]? = some t → x.h.op = 1 → t.1 = x.h.ty
  sz : pg.t.size ≤ 50000
  gl : gs.length ≤ 500000 ∧ ∀ g ∈ gs, g.s.length ≤ 1000000 ∧ g.n ≤ 1000000
  fn : pg.f.length ≤ 500000 ∧ ∀ f ∈ pg.f, f.s.length ≤ 1000000 ∧ f.ps.length ≤ 1000000 ∧ ∀ p ∈ f.ps, p.s.length ≤ 1000000
  nn : ∀ x ∈ ns, x.h.s.length ≤ 1000000 ∧ x.kids.length ≤ 1000000
/-- A checked program in memory of its own. -/
structure PgC (B : Nat) (w : World) (gA fA nA : Option Addr) (gc fc nc : Nat) (pg : Pg) (fl : List (Fn' × Value)) (vls : List Value) (ns : List CN) (tr : List (Int × Int)) (vs : List (List Int)) : Prop where
  g : w.ownsRow B tGb 4 (.slice gA pg.g.length gc) pg.g.length (pg.g.flatMap glC)
  f : w.ownsRow B tFu 6 (.slice fA fl.length fc) fl.length (fnCs fl vls)
  n : w.ownsRow B tNd 8 (.slice nA ns.length nc) ns.length (cellsTr ns tr)
  vl : vls.length = fl.length
  tl : tr.length = ns.length
  vn : vs.length = fl.length
  ps : ∀ x ∈ fl, w.ownsRow B tPr 2 x.2 x.1.ps.length (x.1.ps.flatMap pmC')
  ks : ∀ x ∈ ns, w.ownsRow B tInt 1 x.v x.kids.length (ints (natI x.kids))
  vr : ∀ (j : Nat) (v : Value) (l : List Int), vls[j]? = some v → vs[j]? = some l → w.ownsRow B tInt 1 v l.length (ints l)
  fe : fl.map (·.1) = pg.f
  ne : ns.map CN.nd = pg.t.flat 0
/-- What Check answers. -/
def CkPost (pg : Pg) (w : World) (e : Ending) (w' : World) : Prop :=
  Below w.heap.size w w' ∧ ((∃ no p, checkM pg = .er no p ∧ e = .returned (.tuple #[.agg #[.slice none 0 0, .slice none 0 0, .slice none 0 0], .agg #[.int .i64 no, .int .i64 p]])) ∨
    (∃ tr vs gA fA nA gc fc nc fl vls ns, checkM pg = .ok (tr, vs) ∧ e = .returned (.tuple #[pgV gA fA nA pg.g.length gc fl.length fc ns.length nc, .agg #[.int .i64 0, .int .i64 0]]) ∧ PgC w.heap.size w' gA fA nA gc fc nc pg fl vls ns tr vs))
theorem tr0_trZ {pg : Pg} {gs : List Gl} {fl : List (Fn' × Value)} {ns : List CN} {tr : List (Int × Int)} (h : CkIn pg gs fl ns tr) (hl : tr.length = ns.length) : trZ ns tr = tr0 (pg.t.flat 0) := by
  rw [← h.n]
  unfold trZ tr0
  rw [List.map_map]
  apply List.ext_getElem?
  intro i
  rw [List.getElem?_map, List.getElem?_map]
  by_cases hi : i < ns.length
  · obtain ⟨x, hx⟩ : ∃ x, ns[i]? = some x := ⟨_, List.getElem?_eq_getElem hi⟩
    obtain ⟨t, ht⟩ : ∃ t, tr[i]? = some t := ⟨_, List.getElem?_eq_getElem (by omega)⟩
    rw [show (ns.zip tr)[i]? = some (x, t) by rw [List.getElem?_zip_eq_some]; exact ⟨hx, ht⟩, hx]
    show some ((if x.h.op = 1 then t.1 else 0), (0 : Int)) = some ((if x.nd.h.op = 1 then x.nd.h.ty else 0), (0 : Int))
    by_cases ho : x.h.op = 1
    · rw [if_pos ho, if_pos (show x.nd.h.op = 1 from ho), h.ty i x t hx ht ho]
      rfl
    · rw [if_neg ho, if_neg (show ¬ x.nd.h.op = 1 from ho)]
  · rw [List.getElem?_eq_none (by simp; omega), List.getElem?_eq_none (by omega)]
    rfl
theorem glob_fn : ∀ (gs : List Gl) (i : Nat) (b : Int) (s G : Scp), globM gs i b s = .ok G → ∀ p ∈ G, p ∈ s ∨ p.2.so ≠ 4 := by
  intro gs
  induction gs with
  | nil => intro i b s G e p hp; simp only [globM] at e; cases e; exact .inl hp
  | cons g l ih =>
    intro i b s G e p hp
    rw [glob_step] at e
    split at e
    · cases e
    split at e
    · cases e
    rcases ih _ _ _ _ e p hp with h1 | h1
    · rcases List.mem_cons.1 h1 with rfl | h1
      · right
        unfold gMg
        split <;> simp
      · exact .inl h1
    · exact .inr h1
theorem fun_fn : ∀ (fs : List Fn') (i : Nat) (s G : Scp), funM fs i s = .ok G → (∀ f ∈ fs, f.ps.length ≤ 8) ∧ ∀ p ∈ G, p ∈ s ∨ ∃ j : Nat, p.2.rf = j ∧ j < i + fs.length := by
  intro fs
  induction fs with
  | nil => intro i s G e; simp only [funM] at e; cases e; exact ⟨fun f hf => (by cases hf), fun p hp => .inl hp⟩
  | cons f l ih =>
    intro i s G e
    rw [fun_step] at e
    split at e
    · cases e
    split at e
    · cases e
    split at e
    · cases e
    next h8 =>
    split at e
    · cases e
    obtain ⟨h1, h2⟩ := ih _ _ _ e
    refine ⟨fun g hg => ?_, fun p hp => ?_⟩
    · rcases List.mem_cons.1 hg with rfl | hg
      · omega
      · exact h1 g hg
    · rcases h2 p hp with h3 | ⟨j, h3, h4⟩
      · rcases List.mem_cons.1 h3 with rfl | h3
        · exact .inr ⟨i, rfl, by simp⟩
        · exact .inl h3
      · exact .inr ⟨j, h3, by simp only [List.length_cons]; omega⟩
theorem bods_step (np : List Nat) (G : Scp) (f : Fn') (l : List Fn') (h : Hd) (k r : Fo) (c : Nat) (tr : List (Int × Int)) : bodsM np G (f :: l) (.cons h k r) c tr = (bodyM np G f h k c tr).bind fun x => (bodsM np G l r (c + k.size + 1) x.1).bind fun y => .ok (y.1, x.2 :: y.2) := rfl
theorem CkV.noVs {X : CkX} {S : CkS} {σ : Cs} {w : World} (h : CkV X S σ w) : ∀ v ∈ S.vls, S.fi = X.fl.length → S.done.length = S.fi → ∃ A n c, v = .slice A n c := by
  intro v hv h1 h2
  obtain ⟨j, hj, rfl⟩ := List.getElem_of_mem hv
  have hjl : j < S.fi := by rw [h1, ← h.vll]; exact hj
  obtain ⟨l, hl⟩ : ∃ l, S.done[j]? = some l := ⟨_, List.getElem?_eq_getElem (by omega)⟩
  obtain ⟨A, c, e⟩ := own_ex (h.old j _ l (List.getElem?_eq_getElem hj) hl hjl).1
  exact ⟨A, _, c, e⟩
theorem row_setD {w : World} {B sz n k : Nat} {t : TypeId} {v : Value} {xs : List Value} {u : Value} {j : Nat} {cs : Array Value} (h : w.ownsRow B t sz v n xs) (Z : Blk w k tDg cs) (ht : t ≠ tDg) : (w.setCell ⟨k, j, none⟩ u).ownsRow B t sz v n xs := by
  have hg : w.grownBy (w.setCell ⟨k, j, none⟩ u) (some k) := ⟨rfl, rfl, rfl, by simp, fun m _ hm => heap_setCell_other w ⟨k, j, none⟩ m u (fun e => hm (by simp [e]))⟩
  refine gr_row hg h (fun r e1 e2 => ?_)
  cases e1
  exact kind_ne (row_kind h e2) Z.kind ht rfl
theorem ck_panic {R : Ending → World → Prop} {a : Act} {W0 W : World} {k2 k3 B : Nat} (no p : Int) (hd : a.defers = [{ target := Target.fn (Fn.func 22) #[.pointer (some ⟨k3, 0, none⟩)], args := #[] }]) (h2 : a.tmps.getD 2 undef = .pointer (some ⟨k2, 0, none⟩)) (h3 : a.tmps.getD 3 undef = .pointer (some ⟨k3, 0, none⟩))
    (b2 : Blk W k2 tPro #[.slice none 0 0, .slice none 0 0, .slice none 0 0]) (b3 : Blk W k3 tDg #[.int .i64 0, .int .i64 0]) (hB : B ≤ k3) (hBW : B ≤ W.heap.size) (hb : Below B W0 W) (hR : ∀ W', Below B W0 W' → R (.returned (.tuple #[.agg #[.slice none 0 0, .slice none 0 0, .slice none 0 0], .agg #[.int .i64 no, .int .i64 p]])) W') :
    bodyPostD Tryz.prog Tryz.f10 R (.panic [{ v := .iface tFt (.agg #[.int .i64 no, .int .i64 p]), recovered := false }]) a W := by
  obtain ⟨tmps, defers⟩ := a
  simp only at hd h2 h3
  subst hd
  have h2' : tmps[2]?.getD undef = .pointer (some ⟨k2, 0, none⟩) := by simpa using h2
  have h3' : tmps[3]?.getD undef = .pointer (some ⟨k3, 0, none⟩) := by simpa using h3
  have hne : k2 ≠ k3 := fun e => by
    subst e
    have := b2.symm.trans b3
    simp at this
  refine leaves_cons (f := 22) (args := #[.pointer (some ⟨k3, 0, none⟩)]) (by simp) (by simp [go_sem]) ?_
  refine (catchC_fault k3 no p _ b3).mono ?_
  rintro e u' w'' ⟨rfl, rfl, rfl⟩
  have r0 := ((b2.alloc (.cells #[.int .i64 no, .int .i64 p] tFt)).far (p := ⟨k3, 0, none⟩) hne (.int .i64 no)).far (p := ⟨k3, 1, none⟩) hne (.int .i64 p)
  have r1 : Blk (((W.alloc (.cells #[.int .i64 no, .int .i64 p] tFt)).setCell ⟨k3, 0, none⟩ (.int .i64 no)).setCell ⟨k3, 1, none⟩ (.int .i64 p)) k3 tDg #[.int .i64 no, .int .i64 p] := ((b3.alloc _).set_ 0 _).set_ 1 _
  have hbl : Below B W0 (((W.alloc (.cells #[.int .i64 no, .int .i64 p] tFt)).setCell ⟨k3, 0, none⟩ (.int .i64 no)).setCell ⟨k3, 1, none⟩ (.int .i64 p)) := ((hb.alloc hBW _).setCell (p := ⟨k3, 0, none⟩) hB _).setCell (p := ⟨k3, 1, none⟩) hB _
  generalize ((W.alloc (.cells #[.int .i64 no, .int .i64 p] tFt)).setCell ⟨k3, 0, none⟩ (.int .i64 no)).setCell ⟨k3, 1, none⟩ (.int .i64 p) = W3 at *
  have q0 : W3.cell? ⟨k2, 0, none⟩ = some (.slice none 0 0) := r0.cell 0
  have q1 : W3.cell? ⟨k2, 1, none⟩ = some (.slice none 0 0) := r0.cell 1
  have q2 : W3.cell? ⟨k2, 2, none⟩ = some (.slice none 0 0) := r0.cell 2
  have d0 : W3.cell? ⟨k3, 0, none⟩ = some (.int .i64 no) := r1.cell 0
  have d1 : W3.cell? ⟨k3, 1, none⟩ = some (.int .i64 p) := r1.cell 1
  simp [Leaves, settle, results, Tryz.results10, go_sem, q0, q1, q2, d0, d1, h2', h3']
  exact hR _ hbl
theorem ck_return {R : Ending → World → Prop} {a : Act} {W : World} {k2 k3 : Nat} {x y z u v : Value} (hd : a.defers = [{ target := Target.fn (Fn.func 22) #[.pointer (some ⟨k3, 0, none⟩)], args := #[] }]) (h2 : a.tmps.getD 2 undef = .pointer (some ⟨k2, 0, none⟩)) (h3 : a.tmps.getD 3 undef = .pointer (some ⟨k3, 0, none⟩))
    (b2 : Blk W k2 tPro #[x, y, z]) (b3 : Blk W k3 tDg #[u, v]) (hR : R (.returned (.tuple #[.agg #[x, y, z], .agg #[u, v]])) (W.alloc (.cells #[.int .i64 0, .int .i64 0] tFt))) :
    bodyPostD Tryz.prog Tryz.f10 R .ret a W := by
  obtain ⟨tmps, defers⟩ := a
  simp only at hd h2 h3
  subst hd
  have h2' : tmps[2]?.getD undef = .pointer (some ⟨k2, 0, none⟩) := by simpa using h2
  have h3' : tmps[3]?.getD undef = .pointer (some ⟨k3, 0, none⟩) := by simpa using h3
  refine leaves_cons (f := 22) (args := #[.pointer (some ⟨k3, 0, none⟩)]) (by simp) (by simp [go_sem]) ?_
  refine (catchC_none k3 _).mono ?_
  rintro e u' w'' ⟨rfl, rfl, rfl⟩
  have r0 := b2.alloc (.cells #[.int .i64 0, .int .i64 0] tFt)
  have r1 := b3.alloc (.cells #[.int .i64 0, .int .i64 0] tFt)
  generalize W.alloc (.cells #[.int .i64 0, .int .i64 0] tFt) = W3 at *
  have q0 : W3.cell? ⟨k2, 0, none⟩ = some x := r0.cell 0
  have q1 : W3.cell? ⟨k2, 1, none⟩ = some y := r0.cell 1
  have q2 : W3.cell? ⟨k2, 2, none⟩ = some z := r0.cell 2
  have d0 : W3.cell? ⟨k3, 0, none⟩ = some u := r1.cell 0
  have d1 : W3.cell? ⟨k3, 1, none⟩ = some v := r1.cell 1
  simp [Leaves, settle, results, Tryz.results10, go_sem, q0, q1, q2, d0, d1, h2', h3']
  exact hR
set_option maxHeartbeats 1000000 in
set_option maxRecDepth 100000 in
theorem check_any {w : World} {gA fA nA : Option Addr} {gc fc nc : Nat} {pg : Pg} {gs : List Gl} {fl : List (Fn' × Value)} {vls : List Value} {ns : List CN} {tr : List (Int × Int)} (h : PgI w gA fA nA gc fc nc gs fl vls ns tr) (hin : CkIn pg gs fl ns tr) (hf1 : 1 ≤ fl.length) :
    Calls Tryz.prog 10 #[pgV gA fA nA gs.length gc fl.length fc ns.length nc] w (CkPost pg w) := by
  have hmf : ∀ (fn : Fn) (first cap : Array Value) (w : World), (Instr.makeFunc fn first cap).run Tryz.prog w = .ok (.func fn first cap) w := fun _ _ _ _ => rfl
  obtain ⟨R, hR⟩ : ∃ R : Ending → World → Prop, CkPost pg w = R := ⟨_, rfl⟩
  rw [hR]
  have HR := Lib.hid hR
  have hfl : fl.length = pg.f.length := by have := congrArg List.length hin.f; simpa using this
  have hnl : ns.length = pg.t.size := by have := congrArg List.length hin.n; simpa [Fo.flat_length] using this
  have hn1 : 1 ≤ ns.length := by
    rw [hnl]
    have hr := congrArg List.length hin.rt
    rw [List.length_map, len_roots] at hr
    have := len_size pg.t
    omega
  have hk1 := Blk.new w tPro #[.slice gA gs.length gc, .slice fA fl.length fc, .slice nA ns.length nc]
  have hk2 := Blk.new (w.alloc (.cells #[.slice gA gs.length gc, .slice fA fl.length fc, .slice nA ns.length nc] tPro)) tPro #[.slice none 0 0, .slice none 0 0, .slice none 0 0]
  have hk3 := Blk.new ((w.alloc (.cells #[.slice gA gs.length gc, .slice fA fl.length fc, .slice nA ns.length nc] tPro)).alloc (.cells #[.slice none 0 0, .slice none 0 0, .slice none 0 0] tPro)) tDg #[.int .i64 0, .int .i64 0]
  have h1 : Below w.heap.size w (((w.alloc (.cells #[.slice gA gs.length gc, .slice fA fl.length fc, .slice nA ns.length nc] tPro)).alloc (.cells #[.slice none 0 0, .slice none 0 0, .slice none 0 0] tPro)).alloc (.cells #[.int .i64 0, .int .i64 0] tDg)) :=
    (((Below.refl _ _).alloc (Nat.le_refl _) _).alloc (by simp) _).alloc (by simp; omega) _
  have hk1 := (hk1.alloc (.cells #[.slice none 0 0, .slice none 0 0, .slice none 0 0] tPro)).alloc (.cells #[.int .i64 0, .int .i64 0] tDg)
  have hk2 := hk2.alloc (.cells #[.int .i64 0, .int .i64 0] tDg)
  have HNC := Lib.hid (newChecker_any (h.on h1) (by have := hin.gl.1; omega) (by have := hin.fn.1; omega) (by rw [hnl]; have := hin.sz; omega) (fun g hg => (hin.gl.2 g hg).1) (fun x hx => hin.fn.2 x.1 (by rw [← hin.f]; exact List.mem_map_of_mem hx)) hin.nn hf1 hn1)
  have HTL := Lib.hid (tr0_trZ hin h.tl)
  have HIN := Lib.hid (And.intro hin (And.intro hfl (And.intro hnl hf1)))
  obtain ⟨gn, hgn⟩ : ∃ n, gs.length = n := ⟨_, rfl⟩
  obtain ⟨fn, hfn⟩ : ∃ n, fl.length = n := ⟨_, rfl⟩
  obtain ⟨nn, hnn⟩ : ∃ n, ns.length = n := ⟨_, rfl⟩
  have HN := Lib.hid (And.intro hgn (And.intro hfn hnn))
  rw [hgn, hfn, hnn] at hk1 hk2 hk3 h1 HNC ⊢
  clear hR h hin hfl hnl hn1 hgn hfn hnn hf1
  go_enter_defers Tryz.func10, Tryz.ntmps10
  go_upto_region 2 with (fail)
  obtain ⟨H0, hH0⟩ : ∃ x, w.heap.size = x := ⟨_, rfl⟩
  have hsz : (((w.alloc (.cells #[.slice gA gn gc, .slice fA fn fc, .slice nA nn nc] tPro)).alloc (.cells #[.slice none 0 0, .slice none 0 0, .slice none 0 0] tPro)).alloc (.cells #[.int .i64 0, .int .i64 0] tDg)).heap.size = H0 + 3 := by simp [hH0]
  rw [show ((w.alloc (.cells #[.slice gA gn gc, .slice fA fn fc, .slice nA nn nc] tPro)).alloc (.cells #[.slice none 0 0, .slice none 0 0, .slice none 0 0] tPro)).heap.size = H0 + 2 by simp [hH0]] at hk3
  rw [show (w.alloc (.cells #[.slice gA gn gc, .slice fA fn fc, .slice nA nn nc] tPro)).heap.size = H0 + 1 by simp [hH0]] at hk2
  rw [hH0] at hk1
  generalize ((w.alloc (.cells #[.slice gA gn gc, .slice fA fn fc, .slice nA nn nc] tPro)).alloc (.cells #[.slice none 0 0, .slice none 0 0, .slice none 0 0] tPro)).alloc (.cells #[.int .i64 0, .int .i64 0] tDg) = W1 at *
  simp only [hH0]
  have q0 : W1.cell? ⟨H0, 0, none⟩ = some (.slice gA gn gc) := hk1.cell 0
  have q1 : W1.cell? ⟨H0, 1, none⟩ = some (.slice fA fn fc) := hk1.cell 1
  have q2 : W1.cell? ⟨H0, 2, none⟩ = some (.slice nA nn nc) := hk1.cell 2
  have ql := hk1.lt
  have HK := Lib.hid (And.intro hk2 (And.intro hk3 (And.intro h1 (And.intro hsz hH0))))
  clear hk1 hk2 hk3 h1 hsz hH0
  go_wp2_with fail
  refine HNC.out.mono ?_
  clear HNC
  rintro e w1 ⟨X, S0, rfl, hXB, hXg, hXf, hXn, hC, hb1, off, fi0, done0, hvls, hsb⟩
  rw [HTL.out] at hC
  have hXfl : X.fl.length = fn := by have := congrArg List.length hXf; simpa [HN.out.2.1] using this
  have hXnl : X.ns.length = nn := by have := congrArg List.length hXn; simpa [HN.out.2.2] using this
  have hXf2 : X.fl.map (·.1) = pg.f := hXf.trans HIN.out.1.f
  have hXn2 : X.ns.map CN.nd = pg.t.flat 0 := hXn.trans HIN.out.1.n
  have hXg2 : X.gs = pg.g := hXg.trans HIN.out.1.g
  have HX := Lib.hid (And.intro hXB (And.intro hXg2 (And.intro hXf2 (And.intro hXn2 (And.intro hXfl hXnl)))))
  have HC := Lib.hid (And.intro hC (And.intro hb1 (And.intro off (And.intro fi0 (And.intro done0 (And.intro hvls hsb))))))
  have HGl := Lib.hid (globals_any hC (s0 := []) rfl (by simp) (by have := HIN.out.1.gl.1; rw [hXg]; omega) (by rw [hXg]; exact HIN.out.1.gl.2))
  have hXBe : H0 + 3 ≤ X.B := by rw [hXB, HK.out.2.2.2.1]; exact Nat.le_refl _
  -- what a panic leaves
  have HP : Hid (∀ (W : World) (no p : Int), Below X.B w1 W → checkM pg = .er no p → (Blk W (H0 + 1) tPro #[.slice none 0 0, .slice none 0 0, .slice none 0 0] ∧ Blk W (H0 + 2) tDg #[.int .i64 0, .int .i64 0] ∧ H0 ≤ H0 + 2 ∧ H0 ≤ W.heap.size ∧ Below H0 w W ∧ ∀ W', Below H0 w W' → R (.returned (.tuple #[.agg #[.slice none 0 0, .slice none 0 0, .slice none 0 0], .agg #[.int .i64 no, .int .i64 p]])) W')) := Lib.hid fun W no p hW he => by
    have hb : Below H0 w W := by
      have e1 := HK.out.2.2.1
      rw [HK.out.2.2.2.2] at e1
      exact (e1.trans (HC.out.2.1.mono (by have := HK.out.2.2.2.1; omega))).trans (hW.mono (by omega))
    refine ⟨(HK.out.1.below HC.out.2.1 HK.out.1.lt).below hW (by omega), (HK.out.2.1.below HC.out.2.1 HK.out.2.1.lt).below hW (by omega), by omega, ?_, hb, fun W' hW' => ?_⟩
    · have := hb.size
      have e1 := HK.out.2.2.2.2
      omega
    · rw [← HR.out]
      exact ⟨by rw [HK.out.2.2.2.2]; exact hW', .inl ⟨no, p, he, rfl⟩⟩
  clear hXB hXg hXf hXn hC hb1 off fi0 done0 hvls hsb hXf2 hXn2 hXg2 hXfl hXnl q0 q1 q2 ql
  go_wp2_with fail
  refine HGl.out.mono ?_
  clear HGl
  rintro e w2 (⟨s, hgm, rfl, hC2, hb2, hsl⟩ | ⟨no, p, hgm, rfl, hb2⟩)
  · have hlen : s.length ≤ 1000000 := by
      have e1 := HIN.out.1.gl.1
      have e2 := congrArg List.length HX.out.2.1
      have e3 := congrArg List.length HIN.out.1.g
      simp only [List.getLast?_singleton, Option.getD_some, List.length_nil] at hsl
      omega
    have HSL := Lib.hid (show s.length ≤ gn by
      have e2 := congrArg List.length HX.out.2.1
      have e3 := congrArg List.length HIN.out.1.g
      have e4 := HN.out.1
      simp only [List.getLast?_singleton, Option.getD_some, List.length_nil] at hsl
      omega)
    have HFn := Lib.hid (functions_any hC2 (s0 := s) rfl hlen (by have := HIN.out.1.fn.1; rw [HX.out.2.2.2.2.1, ← HN.out.2.1, HIN.out.2.1]; omega) (fun x hx => by
      have := HIN.out.1.fn.2 x.1 (by rw [← HX.out.2.2.1]; exact List.mem_map_of_mem hx)
      exact ⟨this.1, this.2.1⟩) (fun v hv => by rw [HC.out.2.2.2.2.2.1] at hv; exact ⟨none, 0, 0, List.eq_of_mem_replicate hv⟩))
    have HG2 := Lib.hid (And.intro hgm (And.intro hC2 (And.intro hb2 hlen)))
    clear hgm hC2 hb2 hsl hlen
    go_wp2_with fail
    refine HFn.out.mono ?_
    clear HFn
    rintro e w3 (⟨G, hfm, rfl, hC3, hb3, hGl⟩ | ⟨no, p, hfm, rfl, hb3⟩)
    · have hff := fun_fn _ _ _ _ hfm
      have HGf : Hid (∀ p ∈ G, p.2.so = 4 → ∃ j : Nat, p.2.rf = j ∧ j < X.fl.length) := Lib.hid fun p hp h4 => by
        rcases hff.2 p hp with h1 | ⟨j, h1, h2⟩
        · rcases glob_fn _ _ _ _ _ HG2.out.1 p h1 with h5 | h5
          · cases h5
          · exact absurd h4 h5
        · exact ⟨j, h1, by simpa using h2⟩
      have HGL : Hid (G.length ≤ 1000000) := Lib.hid (by
        have e1 := HSL.out
        have e2 := HIN.out.2.1
        have e4 := HN.out.2.1
        have e5 := HX.out.2.2.2.2.1
        have e6 := HIN.out.1.gl.1
        have e7 := HIN.out.1.fn.1
        have e8 := HN.out.1
        simp only [List.getLast?_singleton, Option.getD_some] at hGl
        omega)
      have HNP := Lib.hid (show (X.fl.map fun f => f.1.ps.length) = pg.f.map fun f => f.ps.length by rw [← HX.out.2.2.1, List.map_map]; rfl)
      have HFF := Lib.hid (show ∀ f ∈ pg.f, f.ps.length ≤ 8 by rw [← HX.out.2.2.1]; exact hff.1)
      have HBM : Hid (checkM pg = (bodsM (X.fl.map fun f => f.1.ps.length) G pg.f pg.t 0 (tr0 (pg.t.flat 0))).bind fun y => (mainM G pg.f).bind fun _ => .ok y) := Lib.hid (by
        unfold checkM
        rw [← HX.out.2.1, HG2.out.1, Ck.bind_ok, ← HX.out.2.2.1, hfm, Ck.bind_ok, HX.out.2.2.1, HNP.out])
      have c1 := hC3.c1
      have hbl := hC3.chk.lt
      rw [HX.out.2.2.2.2.1] at c1
      have hfnb : fn ≤ 1000000 := by have e2 := HIN.out.2.1; have e4 := HN.out.2.1; have e1 := HIN.out.1.fn.1; omega
      have HC3 := Lib.hid (And.intro hC3 (HG2.out.2.2.1.trans hb3))
      clear hff hfm hC3 hb3 hGl
      go_wp2_with fail
      go_loopw [19] (fun v19 wr => ∃ (i : Nat) (S : CkS) (F : Fo) (c : Nat) (tr : List (Int × Int)), v19 = .int .i64 i ∧ i ≤ fn ∧ CkV X S ⟨tr, [G], []⟩ wr ∧ S.on = false ∧ S.fi = i ∧ S.done.length = i ∧ (∀ j, i ≤ j → j < fn → S.vls[j]? = some (.slice none 0 0)) ∧ (∀ j, c ≤ j → j < nn → S.sb[j]? = some false) ∧ S.sb.length = nn ∧ Hld (X.ns.map CN.nd) F c ∧ TrW F ∧ F.size ≤ 50000 ∧ (pg.f.drop i).map (·.b) = F.roots c ∧
        (bodsM (X.fl.map fun f => f.1.ps.length) G pg.f pg.t 0 (tr0 (pg.t.flat 0)) = (bodsM (X.fl.map fun f => f.1.ps.length) G (pg.f.drop i) F c tr).bind fun y => .ok (y.1, S.done ++ y.2)) ∧ Below X.B w1 wr) (fun v _ => fn - (intOf v).toNat)
      case atStart =>
        obtain ⟨-, -, off, fi0, done0, hvls, hsb⟩ := HC.out
        refine ⟨0, S0, pg.t, 0, tr0 (pg.t.flat 0), rfl, by omega, HC3.out.1, off, fi0, by rw [done0]; rfl, fun j _ hj => ?_, fun j _ hj => ?_, ?_, ?_, HIN.out.1.tw, HIN.out.1.sz, by simpa using HIN.out.1.rt, ?_, HC3.out.2⟩
        · rw [hvls, List.getElem?_replicate, if_pos (by rw [HN.out.2.1]; exact hj)]
        · rw [hsb, List.getElem?_replicate, if_pos (by rw [HN.out.2.2]; exact hj)]
        · rw [hsb, List.length_replicate, HN.out.2.2]
        · have := hld_flat pg.t 0 [] [] rfl
          rw [HX.out.2.2.2.1]
          simpa using this
        · rw [done0, List.drop_zero]
          cases bodsM (X.fl.map fun f => f.1.ps.length) G pg.f pg.t 0 (tr0 (pg.t.flat 0)) <;> rfl
      case round =>
        obtain ⟨i, S, F, c, tr, rfl, hi, hCr, off, hfi, hdl, hvl, hsb, hsbl, hld, htw, hFs, hrt, hbm, hbw⟩ := hrel
        by_cases hlt : i < fn
        · have hipg : i < pg.f.length := by rw [← HIN.out.2.1, HN.out.2.1]; exact hlt
          obtain ⟨f, hf⟩ : ∃ f, pg.f[i]? = some f := ⟨_, List.getElem?_eq_getElem hipg⟩
          have hdr : pg.f.drop i = f :: pg.f.drop (i + 1) := by
            rw [List.drop_eq_getElem_cons hipg]
            congr 1
            exact (List.getElem?_eq_some_iff.1 hf).2
          obtain ⟨pv, hx⟩ : ∃ pv, X.fl[i]? = some (f, pv) := by
            have e := HX.out.2.2.1
            rw [← e, List.getElem?_map] at hf
            cases hx : X.fl[i]? with
            | none => rw [hx] at hf; cases hf
            | some y =>
              rw [hx] at hf
              simp only [Option.map_some, Option.some.injEq] at hf
              exact ⟨y.2, by rw [← hf]⟩
          rw [hdr] at hrt hbm
          cases F with
          | nil => simp [Fo.roots] at hrt
          | cons h0 k r =>
          simp only [List.map_cons, Fo.roots, List.cons.injEq] at hrt
          rw [bods_step] at hbm
          have hle : c + (k.size + 1 + r.size) ≤ nn := by
            rcases hld.le with e | e
            · cases e
            · rw [List.length_map, HX.out.2.2.2.2.2] at e; exact e
          simp only [Fo.size] at hFs
          have HB := Lib.hid (body_any hCr off (by rw [hdl, hfi]) rfl rfl (h0 := h0) (k := k) (c := c) ⟨hld.1, hld.2.1, trivial⟩ (fun j h1 h2 => hsb j h1 (by omega)) (by rw [hfi]; exact hx) hrt.1 (by rw [hfi]; exact hvl i (Nat.le_refl _) hlt) (by omega) (fun x hx => by
            have e := HX.out.2.2.2.1
            rw [← HIN.out.1.n] at e
            have hm := List.mem_map_of_mem (f := CN.nd) hx
            rw [e] at hm
            obtain ⟨y, hy, hyx⟩ := List.mem_map.1 hm
            have := (HIN.out.1.nn y hy).1
            rw [show x.h = y.h by have := congrArg Nd.h hyx; exact this.symm]
            exact this) htw.2.1 HGL.out HGf.out (HFF.out f (List.mem_of_getElem? hf)) (HIN.out.1.fn.2 f (List.mem_of_getElem? hf)).2.2)
          rw [hfi] at HB
          have c1 := hCr.c1
          have hbl := hCr.chk.lt
          rw [HX.out.2.2.2.2.1] at c1
          have hltI : (i : Int) < fn := by omega
          have HI := Lib.hid (And.intro hCr (And.intro hfi (And.intro hdl (And.intro hvl (And.intro hsb (And.intro hsbl (And.intro hld (And.intro htw (And.intro hFs (And.intro hrt (And.intro hbm (And.intro hbw hle))))))))))))
          clear hCr off hfi hdl hvl hsb hsbl hld htw hFs hrt hbm hbw hle hf hx hdr
          go_wp2_with fail
          refine HB.out.mono ?_
          clear HB
          rintro e w5 (⟨tr', vs', S', hbd, rfl, hC5, hb5, off5, hfi5, hdn5, hvl5, hsl5, hso5⟩ | ⟨no, p, hbd, rfl, hb5⟩)
          · have HST := Lib.hid (And.intro hbd (And.intro hC5 (And.intro hb5 (And.intro off5 (And.intro hfi5 (And.intro hdn5 (And.intro hvl5 (And.intro hsl5 hso5))))))))
            clear hbd hC5 hb5 off5 hfi5 hdn5 hvl5 hsl5 hso5
            go_wp2_with fail
            go_roundw
            case rel =>
              obtain ⟨hbd, hC5, hb5, off5, hfi5, hdn5, hvl5, hsl5, hso5⟩ := HST.out
              obtain ⟨hCr, hfi, hdl, hvl, hsb, hsbl, hld, htw, hFs, hrt, hbm, hbw, hle⟩ := HI.out
              refine ⟨i + 1, S', r, c + k.size + 1, tr', by go_num, by omega, hC5, off5, by rw [hfi5, hfi], by rw [hdn5]; simp [hdl], fun j h1 h2 => ?_, fun j h1 h2 => ?_, by rw [hsl5, hsbl], hld.2.2, htw.2.2, by omega, hrt.2, ?_, hbw.trans hb5⟩
              · rw [hvl5 j (by rw [hfi]; omega)]
                exact hvl j (by omega) h2
              · rw [hso5 j (by omega)]
                exact hsb j (by omega) h2
              · rw [hbm, hbd, Ck.bind_ok, Ck.bind_assoc, hdn5]
                congr 1
                funext y
                simp
            case measure => simp [intOf]; omega
          · have HE := Lib.hid (HP.out w5 no p (HI.out.2.2.2.2.2.2.2.2.2.2.2.1.trans hb5) (by rw [HBM.out, HI.out.2.2.2.2.2.2.2.2.2.2.1, hbd]; rfl))
            clear hbd hb5
            go_wp2_with fail
            exact ck_panic no p rfl rfl rfl HE.out.1 HE.out.2.1 HE.out.2.2.1 HE.out.2.2.2.1 HE.out.2.2.2.2.1 HE.out.2.2.2.2.2
        · obtain rfl : fn = i := by omega
          have hbod : bodsM (X.fl.map fun f => f.1.ps.length) G pg.f pg.t 0 (tr0 (pg.t.flat 0)) = .ok (tr, S.done) := by
            have hd0 : pg.f.drop fn = [] := List.drop_eq_nil_of_le (by rw [← HN.out.2.1, HIN.out.2.1]; exact Nat.le_refl _)
            rw [hbm, hd0]
            show (Ck.ok (tr, ([] : List (List Int)))).bind (fun y => Ck.ok (y.1, S.done ++ y.2)) = _
            rw [Ck.bind_ok]
            simp
          have HM := Lib.hid (mainCk_any hCr (G := G) rfl HGf.out (fun v hv => hCr.noVs v hv (by rw [hfi, HX.out.2.2.2.2.1]) (by rw [hdl, hfi])))
          have HI := Lib.hid (And.intro hCr (And.intro hfi (And.intro hdl (And.intro hbod hbw))))
          clear hCr off hfi hdl hvl hsb hsbl hld htw hFs hrt hbm hbw hbod
          go_wp2_with fail
          refine HM.out.mono ?_
          clear HM
          rintro e w6 ⟨⟨hmm, rfl⟩ | ⟨no, p, hmm, rfl⟩, hb6⟩
          · rw [HX.out.2.2.1] at hmm
            have hC6 := HI.out.1.on hb6
            have hbw6 : Below X.B w1 w6 := HI.out.2.2.2.2.trans (hb6.mono HI.out.1.Ble)
            have hb06 : Below H0 w w6 := by
              have e1 := HK.out.2.2.1
              rw [HK.out.2.2.2.2] at e1
              exact (e1.trans (HC.out.2.1.mono (by have := HK.out.2.2.2.1; omega))).trans (hbw6.mono (by omega))
            have hk2 := (HK.out.1.below HC.out.2.1 HK.out.1.lt).below hbw6 (by omega)
            have hk3 := (HK.out.2.1.below HC.out.2.1 HK.out.2.1.lt).below hbw6 (by omega)
            have z0 := hC6.c0
            have z1 := hC6.c1
            have z2 := hC6.c2
            have zl := hC6.chk.lt
            have r0 : w6.cell? ⟨H0 + 1, 0, none⟩ = some (.slice none 0 0) := hk2.cell 0
            have r1 : w6.cell? ⟨H0 + 1, 1, none⟩ = some (.slice none 0 0) := hk2.cell 1
            have r2 : w6.cell? ⟨H0 + 1, 2, none⟩ = some (.slice none 0 0) := hk2.cell 2
            have s0 : w6.cell? ⟨H0 + 2, 0, none⟩ = some (.int .i64 0) := hk3.cell 0
            have s1 : w6.cell? ⟨H0 + 2, 1, none⟩ = some (.int .i64 0) := hk3.cell 1
            have g0 := hk2.frozen 0
            have g1 := hk2.frozen 1
            have g2 := hk2.frozen 2
            have g3 := hk3.frozen 0
            have g4 := hk3.frozen 1
            have rl := hk2.lt
            have sl := hk3.lt
            have HZ := Lib.hid (And.intro hmm (And.intro hC6 (And.intro hb06 (And.intro hk2 hk3))))
            clear hmm hC6 hbw6 hb06 hk2 hk3 hb6
            go_wp2_with fail
            obtain ⟨hmm, hC6, hb06, hk2, hk3⟩ := HZ.out
            have n1 : H0 + 2 ≠ H0 + 1 := by omega
            have n2 : H0 + 1 ≠ H0 + 2 := by omega
            have a1 := hk2.set_ 0 (.slice X.gA X.gs.length X.gc)
            have a2 := a1.set_ 1 (.slice (some ⟨X.fB, 0, none⟩) X.fl.length X.fc)
            have a3 := a2.set_ 2 (.slice (some ⟨X.nB, 0, none⟩) X.ns.length X.nc)
            have b3 := ((hk3.far (p := ⟨H0 + 1, 0, none⟩) n1 (.slice X.gA X.gs.length X.gc)).far (p := ⟨H0 + 1, 1, none⟩) n1 (.slice (some ⟨X.fB, 0, none⟩) X.fl.length X.fc)).far (p := ⟨H0 + 1, 2, none⟩) n1 (.slice (some ⟨X.nB, 0, none⟩) X.ns.length X.nc)
            have b4 := b3.set_ 0 (.int .i64 0)
            have b5 := b4.set_ 1 (.int .i64 0)
            have a5 := (a3.far (p := ⟨H0 + 2, 0, none⟩) n2 (.int .i64 0)).far (p := ⟨H0 + 2, 1, none⟩) n2 (.int .i64 0)
            have hBB : w.heap.size ≤ X.B := by rw [HK.out.2.2.2.2]; omega
            refine ck_return rfl rfl rfl a5 b5 ?_
            rw [← HR.out]
            have hro : ∀ {t : TypeId} {sz n : Nat} {v : Value} {xs : List Value}, t ≠ tPro → t ≠ tDg → w6.ownsRow X.B t sz v n xs → _ := fun {t sz n v xs} h1 h2 hr => (row_base (row_setD (row_setD (row_set1 (row_set1 (row_set1 hr hk2 h1) a1 h1) a2 h1) b3 h2 (u := .int .i64 0) (j := 0)) b4 h2 (u := .int .i64 0) (j := 1)) hBB).alloc (.cells #[.int .i64 0, .int .i64 0] tFt)
            refine ⟨?_, .inr ⟨tr, S.done, X.gA, some ⟨X.fB, 0, none⟩, some ⟨X.nB, 0, none⟩, X.gc, X.fc, X.nc, X.fl, S.vls, X.ns, ?_, ?_, ?_⟩⟩
            · rw [HK.out.2.2.2.2]
              have hs := hb06.size
              have e1 := HK.out.2.2.2.2
              exact (((((hb06.setCell (p := ⟨H0 + 1, 0, none⟩) (by simp) _).setCell (p := ⟨H0 + 1, 1, none⟩) (by simp) _).setCell (p := ⟨H0 + 1, 2, none⟩) (by simp) _).setCell (p := ⟨H0 + 2, 0, none⟩) (by simp) _).setCell (p := ⟨H0 + 2, 1, none⟩) (by simp) _).alloc (by simp; omega) _
            · rw [HBM.out, HI.out.2.2.2.1, Ck.bind_ok, hmm]
              rfl
            · rw [← HX.out.2.1]
            · refine ⟨by rw [← HX.out.2.1]; exact hro (by decide) (by decide) hC6.glb.1, hro (by decide) (by decide) hC6.fun_, hro (by decide) (by decide) hC6.nod, hC6.vll, hC6.trl, by rw [HI.out.2.2.1, HX.out.2.2.2.2.1], fun x hx => hro (by decide) (by decide) (hC6.prm x hx).1, fun x hx => hro (by decide) (by decide) (hC6.kid_ x hx).1, fun j v l h1 h2 => hro (by decide) (by decide) (hC6.old j v l h1 h2 (by have := (List.getElem?_eq_some_iff.1 h2).1; rw [HI.out.2.1]; rw [HI.out.2.2.1] at this; exact this)).1, HX.out.2.2.1, HX.out.2.2.2.1⟩
          · rw [HX.out.2.2.1] at hmm
            have HE := Lib.hid (HP.out w6 no p (HI.out.2.2.2.2.trans (hb6.mono HI.out.1.Ble)) (by rw [HBM.out, HI.out.2.2.2.1, Ck.bind_ok, hmm]; rfl))
            clear hmm hb6
            go_wp2_with fail
            exact ck_panic no p rfl rfl rfl HE.out.1 HE.out.2.1 HE.out.2.2.1 HE.out.2.2.2.1 HE.out.2.2.2.2.1 HE.out.2.2.2.2.2
    · have HE := Lib.hid (HP.out w3 no p (HG2.out.2.2.1.trans hb3) (by unfold checkM; rw [← HX.out.2.1, HG2.out.1, Ck.bind_ok, ← HX.out.2.2.1, hfm]; rfl))
      clear hfm hb3
      go_wp2_with fail
      exact ck_panic no p rfl rfl rfl HE.out.1 HE.out.2.1 HE.out.2.2.1 HE.out.2.2.2.1 HE.out.2.2.2.2.1 HE.out.2.2.2.2.2
  · have HE := Lib.hid (HP.out w2 no p hb2 (by unfold checkM; rw [← HX.out.2.1, hgm]; rfl))
    clear hgm hb2
    go_wp2_with fail
    exact ck_panic no p rfl rfl rfl HE.out.1 HE.out.2.1 HE.out.2.2.1 HE.out.2.2.2.1 HE.out.2.2.2.2.1 HE.out.2.2.2.2.2
end Go.Proofs.YtfaoiajhoifalaaGreatDoor
