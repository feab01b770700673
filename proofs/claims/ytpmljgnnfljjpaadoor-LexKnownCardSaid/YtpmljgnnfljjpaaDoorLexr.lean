/-
  The walk of the statement LexReads.
-/
import Derived.Test.YtpmljgnnfljjpaaDoorLexy
import Derived.Test.YtpmljgnnfljjpaaDoorLexy2
import Derived.Test.YtpmljgnnfljjpaaDoorLexq
namespace Go.Proofs.YtpmljgnnfljjpaaDoor
open Go.RowKit
set_option linter.unusedVariables false
set_option linter.unusedSimpArgs false

theorem sc_n (l : List UInt8) : 0 ≤ (sc l).1.n := by
  unfold sc
  split
  · unfold scName; split <;> simp [tk0]
  · split
    · unfold scNum; split
      · simp [tk0]
      · split <;> simp [tk0]
    · unfold scSign; split <;> simp [tk0]

theorem Sg.n {l : List UInt8} {segs : List Seg} (h : Sg l segs) : ∀ s ∈ segs, 0 ≤ s.2.2.n := by
  induction h with
  | fin g st hg => intro s hs; cases hs
  | step g u r tk segs hg hu hsc h0 hr ih =>
    intro s hs
    rcases List.mem_cons.1 hs with rfl | hs
    · have := sc_n (u ++ r)
      rw [hsc] at this
      exact this
    · exact ih s hs

theorem tokL_n {l : List UInt8} {segs : List Seg} (h : Sg l segs) (e : Nat) : ∀ a, ∀ t ∈ tokL e a segs, 0 ≤ t.n := by
  have ht := h.n
  clear h
  induction segs with
  | nil => intro a t hm; rw [tokL, List.mem_singleton] at hm; subst hm; simp
  | cons s q ih =>
    intro a t hm
    rw [tokL] at hm
    rcases List.mem_cons.1 hm with rfl | hm
    · exact ht s (by simp)
    · exact ih (fun x hx => ht x (List.mem_cons_of_mem _ hx)) _ t hm

/-- What Lex answers, in short. -/
theorem lex_short (s : ByteArray) (hs : s.size ≤ 1048576) : ∃ (toks : List Tok) (no at_ : Int), lexL s.data.toList = (toks, no, at_) ∧ toks.length ≤ s.size + 1 ∧ ∀ t ∈ toks, TokOk t ∧ 0 ≤ t.n := by
  rcases lex_cases s hs with ⟨no, at_, hx, _⟩ | ⟨segs, hS, hx, hc⟩
  · exact ⟨[], no, at_, hx, by simp, fun t ht => by cases ht⟩
  · exact ⟨_, _, _, hx, by rw [tokL_length]; omega, fun t ht => ⟨tokL_ok hS s.size 0 t ht, tokL_n hS s.size 0 t ht⟩⟩

theorem spoil_nil (c : Nat) (w : World) : Calls Tryd.prog 16 #[.slice none 0 c] w fun e w' => e = .returned (.tuple #[]) ∧ w = w' := by
  go_enter Tryd.func16, Tryd.ntmps16
  go_wp2
  go_loopw [2] (fun v wr => v = .int .i64 0 ∧ w = wr) (fun v _ => 0)
  case atStart => exact ⟨rfl, rfl⟩
  case round =>
    obtain ⟨rfl, rfl⟩ := hrel
    go_wp2
    go_end0
    exact ⟨rfl, rfl⟩

theorem spoil_own {w : World} {base n c : Nat} {A : Option Addr} {xs : List Value} (h : w.ownsRow base tE 4 (.slice A n c) n xs) (hn : n ≤ 1500000) :
    Calls Tryd.prog 16 #[.slice A n c] w fun e w' => e = .returned (.tuple #[]) ∧ w.grownBy w' (Value.slice A n c).ownBlock := by
  rcases h.2 with ⟨hv, h0⟩ | ⟨g, cap, cur, hv, _, hh, hnc, hcm, hsz, hcur⟩
  · simp only [Value.slice.injEq] at hv
    obtain ⟨rfl, rfl, rfl⟩ := hv
    exact (spoil_nil 0 w).mono (by rintro e w' ⟨rfl, rfl⟩; exact ⟨rfl, World.grownBy.refl _ _⟩)
  · simp only [Value.slice.injEq] at hv
    obtain ⟨rfl, _, rfl⟩ := hv
    exact spoil_any n g c hn hnc cur hsz w hh

set_option maxHeartbeats 8000000 in
set_option maxRecDepth 100000 in
theorem lexReads_walk (s : ByteArray) (w : World) (hs : s.size ≤ maxLen) (hE : Env w) :
    Calls Tryd.prog 3 #[.string s] w fun e w' => e = .returned (.bool true) ∧ Below w.heap.size w w' := by
  have HE := Lib.hid hE
  clear hE
  by_cases hbig : 8192 < s.size
  · go_enter Tryd.func3, Tryd.ntmps3
    go_wp2_with (go_at_call 8; refine (known_any w HE.out).mono ?_; rintro e w2 ⟨rfl, hb2⟩)
    go_ret
    exact ⟨rfl, hb2⟩
  · obtain ⟨toks, no, at_, hx, hl, hok⟩ := lex_short s (by omega)
    obtain ⟨n, hn⟩ : ∃ n, toks.length = n := ⟨_, rfl⟩
    obtain ⟨ps, hps⟩ : ∃ ps, str (jn (txts toks)) = ps := ⟨_, rfl⟩
    have hnb : n ≤ 8193 := by omega
    have HN := Lib.hid hn
    have HX := Lib.hid hx
    have HOK := Lib.hid hok
    have HP := Lib.hid hps
    have hm1 : n ≤ maxLen := by unfold maxLen; omega
    clear hn hx hok hps hl
    go_enter Tryd.func3, Tryd.ntmps3
    go_wp2_with fail
    refine (lex_any s hs w HE.out).mono ?_
    rw [HX.out]
    rintro e w1 hp
    obtain ⟨A1, c1, rfl, hr1, hlc1, hcm1, hb1, hown1⟩ := lex_use hp
    simp only at hr1 hlc1 hown1
    rw [HN.out] at hlc1 hown1 ⊢
    have HLT1 := Lib.hid (fun k e => (hown1.lt k e).2)
    have b1 := hb1.alloc hb1.size (.cells #[.int .i64 no, .int .i64 at_] tD)
    have o1 := hown1.alloc (.cells #[.int .i64 no, .int .i64 at_] tD)
    have d1 := Blk.new w1 tD #[.int .i64 no, .int .i64 at_]
    have B1 := Lib.hid b1
    have O1 := Lib.hid o1
    have D1 := Lib.hid d1
    have hz1 : (w1.alloc (.cells #[.int .i64 no, .int .i64 at_] tD)).heap.size = w1.heap.size + 1 := by simp
    clear hp hr1 hb1 hown1 b1 o1 d1
    go_wp2_with fail
    refine (rlex_any s hs _).mono ?_
    rw [HX.out]
    rintro e w2 hp
    obtain ⟨A2, c2, rfl, hr2, hlc2, hcm2, hb2, hown2⟩ := lex_use hp
    simp only at hr2 hlc2 hown2
    rw [HN.out] at hlc2 hown2 ⊢
    rw [hz1] at hown2
    have b2 := (B1.out.trans (hb2.mono B1.out.size)).alloc (B1.out.trans (hb2.mono B1.out.size)).size (.cells #[.int .i64 no, .int .i64 at_] tD)
    have o1 := (own_below O1.out hb2).alloc (.cells #[.int .i64 no, .int .i64 at_] tD)
    have o2 := hown2.alloc (.cells #[.int .i64 no, .int .i64 at_] tD)
    have d1 := (D1.out.below hb2 D1.out.lt).alloc (.cells #[.int .i64 no, .int .i64 at_] tD)
    have d2 := Blk.new w2 tD #[.int .i64 no, .int .i64 at_]
    have hz2 : w1.heap.size < w2.heap.size := by have := hb2.size; simp at this; omega
    have hzW : (w2.alloc (.cells #[.int .i64 no, .int .i64 at_] tD)).heap.size = w2.heap.size + 1 := by simp
    obtain ⟨W, hW⟩ : ∃ W, w2.alloc (.cells #[.int .i64 no, .int .i64 at_] tD) = W := ⟨_, rfl⟩
    rw [hW] at b2 o1 o2 d1 d2 hzW
    have x0 := d1.cell 0
    have x1 := d1.cell 1
    have y0 := d2.cell 0
    have y1 := d2.cell 1
    simp at x0 x1 y0 y1
    obtain ⟨r1, _, _⟩ := RdT.of_own o1 HN.out
    obtain ⟨r2, _, _⟩ := RdT.of_own o2 HN.out
    have HEW := Lib.hid (HE.out.of b2)
    have R1 := Lib.hid r1
    have R2 := Lib.hid r2
    have OW1 := Lib.hid o1
    have OW2 := Lib.hid o2
    have DW1 := Lib.hid d1
    have BW := Lib.hid b2
    have SAME := Lib.hid (fun W' h => same_any toks n HN.out A1 A2 c1 c2 W.heap.size W.heap.size hm1 W' (r1.below h) (r2.below h))
    clear hp hr2 hb2 hown2 B1 O1 D1 r1 r2 o1 o2 d1 d2 b2 hz1
    go_wp2_with fail
    refine (SAME.out W (Below.refl _ W)).mono ?_
    clear SAME
    rintro e w3 ⟨rfl, d, rfl⟩
    have hb3 : Below W.heap.size W (W.drewN d) := below_drewN _ W d
    have HB3 := Lib.hid hb3
    have LENT := Lib.hid (lent_any toks n HN.out A1 c1 (by omega) (W.drewN d) (R1.out.below hb3))
    clear hb3
    go_wp2_with fail
    refine LENT.out.mono ?_
    clear LENT
    rintro e w4 hp
    obtain ⟨A3, c3, rfl, hr3, hlc3, hcm3, hb4, hown3⟩ := own_use hp
    have hlm : (toks ++ marks 5).length = n + 5 := by rw [List.length_append, marks_length, HN.out]
    rw [hlm] at hlc3 ⊢
    have HB4 := Lib.hid (HB3.out.trans (hb4.mono (by simp)))
    have R3 := Lib.hid hr3
    clear hp hb4 hown3 hlm HB3 hr3
    have R3T := Lib.hid R3.out.take
    have PR := Lib.hid (print_any toks n HN.out (by omega) A3 c3 w4 (HEW.out.of HB4.out) R3T.out (fun t ht => (HOK.out t ht).1))
    go_wp2_with fail
    refine PR.out.mono ?_
    clear PR R3T
    rw [HP.out]
    rintro e w5 ⟨rfl, hb5⟩
    have HB5 := Lib.hid (HB4.out.trans (hb5.mono HB4.out.size))
    have R35 := Lib.hid ((R3.out.below hb5).more hb5.size)
    clear hb5 R3 HB4
    have PR := Lib.hid (rprint_any toks n HN.out (by omega) A2 c2 w5 ((R2.out.below HB5.out).more HB5.out.size) HOK.out)
    go_wp2_with fail
    refine PR.out.mono ?_
    clear PR
    rw [HP.out]
    rintro e w6 ⟨rfl, hb6⟩
    have HB6 := Lib.hid (HB5.out.trans (hb6.mono HB5.out.size))
    have KEPT := Lib.hid (kept_any toks n HN.out A3 A2 c3 c2 (by omega) hlc3 hcm3 w6 ((R35.out.below hb6).more hb6.size) ((R2.out.below HB6.out).more HB6.out.size))
    clear hb6 HB5 R35
    go_wp2_with fail
    refine KEPT.out.mono ?_
    clear KEPT
    rintro e w7 ⟨rfl, hb7⟩
    have hb7' := HB6.out.trans (hb7.mono HB6.out.size)
    have o1 := own_below OW1.out hb7'
    have o2 := own_below OW2.out hb7'
    have d1 := DW1.out.below hb7' DW1.out.lt
    have bw := BW.out.trans (hb7'.mono BW.out.size)
    have SP := Lib.hid (spoil_own o1 (by omega))
    have LT1 := HLT1.out
    have NE : (Value.slice A2 n c2).ownBlock = none ∨ (Value.slice A2 n c2).ownBlock ≠ (Value.slice A1 n c1).ownBlock := by
      cases h2 : (Value.slice A2 n c2).ownBlock with
      | none => exact .inl rfl
      | some k =>
        refine .inr fun e => ?_
        have a1 := LT1 k e.symm
        have a2 := (o2.lt k h2).1
        omega
    have AFT := Lib.hid (fun w8 (hg : w7.grownBy w8 (Value.slice A1 n c1).ownBlock) => And.intro (o2.kept hg NE) (And.intro (d1.kept hg (d1.not_row (by decide) o1)) (bw.grown hg bw.size (fun j ej => (o1.lt j ej).1))))
    clear HB6 hb7 hb7' o1 o2 d1 bw LT1 NE HEW R1 R2 OW1 OW2 DW1 HLT1 x0 x1 y0 y1 BW
    go_wp2_with fail
    refine SP.out.mono ?_
    clear SP
    rintro e w8 ⟨rfl, hg⟩
    obtain ⟨o2, d1, bw⟩ := AFT.out w8 hg
    have O2 := Lib.hid o2
    have D1 := Lib.hid d1
    have BW := Lib.hid bw
    clear AFT hg o2 d1 bw
    go_wp2_with fail
    refine (lex_any s hs w8 (HE.out.of BW.out)).mono ?_
    rw [HX.out]
    rintro e w9 hp
    obtain ⟨A9, c9, rfl, hr9, hlc9, hcm9, hb9, hown9⟩ := lex_use hp
    simp only at hr9 hlc9 hown9
    rw [HN.out] at hlc9 hown9 ⊢
    have b9 := (BW.out.trans (hb9.mono BW.out.size)).alloc (BW.out.trans (hb9.mono BW.out.size)).size (.cells #[.int .i64 no, .int .i64 at_] tD)
    have o2 := (own_below O2.out hb9).alloc (.cells #[.int .i64 no, .int .i64 at_] tD)
    have o9 := hown9.alloc (.cells #[.int .i64 no, .int .i64 at_] tD)
    have d1 := (D1.out.below hb9 D1.out.lt).alloc (.cells #[.int .i64 no, .int .i64 at_] tD)
    have d9 := Blk.new w9 tD #[.int .i64 no, .int .i64 at_]
    have hzl : w1.heap.size < w9.heap.size := by have := hb9.size; have := D1.out.lt; omega
    obtain ⟨V, hV⟩ : ∃ V, w9.alloc (.cells #[.int .i64 no, .int .i64 at_] tD) = V := ⟨_, rfl⟩
    rw [hV] at b9 o2 o9 d1 d9
    have x0 := d1.cell 0
    have x1 := d1.cell 1
    have y0 := d9.cell 0
    have y1 := d9.cell 1
    simp at x0 x1 y0 y1
    obtain ⟨r9, _, _⟩ := RdT.of_own o9 HN.out
    obtain ⟨r2, _, _⟩ := RdT.of_own o2 HN.out
    have SAME := Lib.hid (same_any toks n HN.out A9 A2 c9 c2 V.heap.size V.heap.size hm1 V r9 r2)
    have B9 := Lib.hid b9
    clear hp hr9 hb9 hown9 o2 o9 d1 d9 b9 r9 r2 O2 D1 BW
    go_wp2_with fail
    refine SAME.out.mono ?_
    clear SAME
    rintro e v1 ⟨rfl, d9, rfl⟩
    have KN := Lib.hid (known_at w (V.drewN d9) HE.out (B9.out.trans (below_drewN w.heap.size V d9)))
    go_wp2_with fail
    refine KN.out.mono ?_
    clear KN
    rintro e v2 ⟨rfl, hb10⟩
    go_wp2
    go_ret
    exact ⟨rfl, hb10⟩
end Go.Proofs.YtpmljgnnfljjpaaDoor
