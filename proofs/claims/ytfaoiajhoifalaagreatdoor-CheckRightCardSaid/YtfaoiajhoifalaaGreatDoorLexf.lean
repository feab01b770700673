/-
  Walks of layer lex: scan.
-/
import Derived.Test.YtfaoiajhoifalaaGreatDoorLexd
namespace Go.Proofs.YtfaoiajhoifalaaGreatDoor
open Go.RowKit
set_option linter.unusedVariables false
set_option linter.unusedSimpArgs false

theorem str_eta (t : Tok) : tokV t = .agg #[.int .i64 t.k, .int .i64 t.p, .int .i64 t.n, .string (str t.s)] := rfl

set_option maxHeartbeats 2000000 in
set_option maxRecDepth 100000 in
theorem scan_any (s : ByteArray) (hs : s.size ≤ 1048576) (h0 : 0 < s.size) (w : World) (hE : Env w) :
    Calls Tryz.prog 75 #[.string s] w fun e w' => e = .returned (scV (sc s.data.toList)) ∧ Below w.heap.size w w' := by
  have hE1 : Env (w.alloc (.cells #[.int .i64 0, .int .i64 0, .int .i64 0, .string ⟨#[]⟩] 92)) := hE.of ((Below.refl _ w).alloc (Nat.le_refl _) _)
  have HE := Lib.hid hE1
  clear hE1 hE
  have hs' : s.size ≤ maxLen := by unfold maxLen; omega
  have hL := hd0 isL s h0
  have hD := hd0 isD s h0
  cases hl : isL s[0]
  · rw [hl] at hL
    cases hd : isD s[0]
    · rw [hd] at hD
      have e : sc s.data.toList = scSign s.data.toList := by rw [sc, hL, if_neg (by simp), hD, if_neg (by simp)]
      have HA := Lib.hid e
      clear e hL hD
      rcases hsc : scSign s.data.toList with ⟨t, n, no⟩
      have HS := Lib.hid hsc
      clear hsc
      go_enter Tryz.func75, Tryz.ntmps75
      go_wp2_with (first
        | (go_at_call 104; refine (isLetter_any _ _).mono ?_; rw [hl]; clear hl; rintro e w1 ⟨rfl, rfl⟩)
        | (go_at_call 106; refine (isDigit_any _ _).mono ?_; rw [hd]; clear hd; rintro e w1 ⟨rfl, rfl⟩)
        | (go_at_call 108; refine (scanSign_any s hs' _ HE.out).mono ?_; rw [HS.out, scV, str_eta]; rintro e w1 ⟨rfl, hb1⟩; have hblk := (hb1.block w.heap.size (by simp)).trans (heap_alloc_new w _); obtain ⟨hcl, hfr⟩ := bcell hb1; have HB := Lib.hid hblk; clear hblk; have HB1 := Lib.hid hb1; clear hb1))
      rw [HA.out, HS.out]
      exact ret_sc4 (t := t) (n := n) (no := no) rfl rfl rfl rfl rfl HB.out rfl ⟨rfl, below_set4 (((Below.refl _ w).alloc (Nat.le_refl _) _).trans (HB1.out.mono (by simp))) (Nat.le_refl _)⟩
    · rw [hd] at hD
      have e : sc s.data.toList = scNum s.data.toList := by rw [sc, hL, if_neg (by simp), hD, if_pos rfl]
      have h1 : 1 ≤ len isD s.data.toList := hd_len hD
      have HA := Lib.hid e
      clear e hL hD
      rcases hsc : scNum s.data.toList with ⟨t, n, no⟩
      have HS := Lib.hid hsc
      clear hsc
      go_enter Tryz.func75, Tryz.ntmps75
      go_wp2_with (first
        | (go_at_call 104; refine (isLetter_any _ _).mono ?_; rw [hl]; clear hl; rintro e w1 ⟨rfl, rfl⟩)
        | (go_at_call 106; refine (isDigit_any _ _).mono ?_; rw [hd]; clear hd; rintro e w1 ⟨rfl, rfl⟩)
        | (go_at_call 107; refine (scanNumber_any s hs h1 _ HE.out).mono ?_; rw [HS.out, scV, str_eta]; rintro e w1 ⟨rfl, hb1⟩; have hblk := (hb1.block w.heap.size (by simp)).trans (heap_alloc_new w _); obtain ⟨hcl, hfr⟩ := bcell hb1; have HB := Lib.hid hblk; clear hblk; have HB1 := Lib.hid hb1; clear hb1))
      rw [HA.out, HS.out]
      exact ret_sc4 (t := t) (n := n) (no := no) rfl rfl rfl rfl rfl HB.out rfl ⟨rfl, below_set4 (((Below.refl _ w).alloc (Nat.le_refl _) _).trans (HB1.out.mono (by simp))) (Nat.le_refl _)⟩
  · rw [hl] at hL
    have e : sc s.data.toList = scName s.data.toList := by rw [sc, hL, if_pos rfl]
    have h1 : 1 ≤ len isN s.data.toList := hd_len (hd_mono (fun c => isN_of_isL) hL)
    have HA := Lib.hid e
    clear e hL hD
    rcases hsc : scName s.data.toList with ⟨t, n, no⟩
    have HS := Lib.hid hsc
    clear hsc
    go_enter Tryz.func75, Tryz.ntmps75
    go_wp2_with (first
      | (go_at_call 104; refine (isLetter_any _ _).mono ?_; rw [hl]; clear hl; rintro e w1 ⟨rfl, rfl⟩)
      | (go_at_call 105; refine (scanName_any s hs' h1 _).mono ?_; rw [HS.out, scV, str_eta]; rintro e w1 ⟨rfl, hb1⟩; have hblk := (hb1.block w.heap.size (by simp)).trans (heap_alloc_new w _); obtain ⟨hcl, hfr⟩ := bcell hb1; have HB := Lib.hid hblk; clear hblk; have HB1 := Lib.hid hb1; clear hb1))
    rw [HA.out, HS.out]
    exact ret_sc4 (t := t) (n := n) (no := no) rfl rfl rfl rfl rfl HB.out rfl ⟨rfl, below_set4 (((Below.refl _ w).alloc (Nat.le_refl _) _).trans (HB1.out.mono (by simp))) (Nat.le_refl _)⟩
end Go.Proofs.YtfaoiajhoifalaaGreatDoor
