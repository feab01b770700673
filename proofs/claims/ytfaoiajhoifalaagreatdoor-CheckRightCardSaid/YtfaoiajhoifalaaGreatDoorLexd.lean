/-
  Walks of layer lex: a number.
-/
import Derived.Test.YtfaoiajhoifalaaGreatDoorLexc
import Derived.Lib.ConvBytes
import Derived.Lib.AtoiErrMem
namespace Go.Proofs.YtfaoiajhoifalaaGreatDoor
open Go.RowKit
set_option linter.unusedVariables false
set_option linter.unusedSimpArgs false

theorem dv_ge (l : List UInt8) : ∀ acc : Nat, acc ≤ dv acc l := by
  induction l with
  | nil => intro acc; rw [dv_nil]; exact Nat.le_refl _
  | cons c r ih =>
    intro acc
    have h : acc ≤ acc * 10 + (c.toNat - 48) := by generalize c.toNat - 48 = x; omega
    exact Nat.le_trans h (ih _)

theorem parseM (M : Nat) (hM : M < 18446744073709551616) (l : List UInt8) : ∀ acc : Nat, (∀ c ∈ l, isD c = true) → acc ≤ M →
    Lib.parseUintM M acc l = if dv acc l ≤ M then .ok (dv acc l) else .range := by
  induction l with
  | nil => intro acc _ ha; rw [dv_nil, if_pos ha]; rfl
  | cons c r ih =>
    intro acc hl ha
    have hc := hl c (by simp)
    simp only [isD, Bool.and_eq_true, decide_eq_true_eq] at hc
    have hd := dv_ge r (acc * 10 + (c.toNat - 48))
    rw [Lib.parseUintM, dv_cons, if_pos hc]
    by_cases h1 : 1844674407370955162 ≤ acc
    · rw [if_pos h1, if_neg (by omega)]
    · rw [if_neg h1]
      by_cases h2 : M < acc * 10 + (c.toNat - 48)
      · rw [if_pos h2, if_neg (by omega)]
      · rw [if_neg h2]
        exact ih _ (fun d hd => hl d (List.mem_cons_of_mem _ hd)) (by omega)

theorem parseB (B : Nat) (hB : B = 32 ∨ B = 64) (l : List UInt8) (h0 : l ≠ []) (hl : ∀ c ∈ l, isD c = true) :
    Lib.parseIntB B l = if dv 0 l ≤ 2 ^ (B - 1) - 1 then .ok (dv 0 l : Int) else .range := by
  cases l with
  | nil => exact absurd rfl h0
  | cons c r =>
    have hc := hl c (by simp)
    simp only [isD, Bool.and_eq_true, decide_eq_true_eq] at hc
    have hm : (2 ^ B - 1 : Nat) < 18446744073709551616 := by rcases hB with rfl | rfl <;> decide
    have hmm : (2 ^ (B - 1) - 1 : Nat) ≤ 2 ^ B - 1 ∧ 1 ≤ (2 ^ (B - 1) : Nat) := by rcases hB with rfl | rfl <;> decide
    have e := parseM (2 ^ B - 1) hm (c :: r) 0 hl (by omega)
    have n1 : ¬ (c.toNat = 43 ∨ c.toNat = 45) := by omega
    have n2 : ¬ c.toNat = 45 := by omega
    generalize dv 0 (c :: r) = v at *
    unfold Lib.parseIntB
    simp only [if_neg n1, Lib.parseUintB, if_neg h0, e]
    by_cases h1 : v ≤ 2 ^ B - 1
    · simp only [if_pos h1]
      by_cases h2 : v ≤ 2 ^ (B - 1) - 1
      · rw [if_pos h2, if_neg (by omega), if_neg (by omega), if_neg n2]
      · rw [if_neg h2, if_pos (by omega)]
    · simp only [if_neg h1]
      rw [if_neg (by omega)]

theorem take_digits {s : ByteArray} {k : Nat} (hk : k = len isD s.data.toList) (h1 : 1 ≤ k) :
    (s.extract 0 k).data.toList ≠ [] ∧ (∀ c ∈ (s.extract 0 k).data.toList, isD c = true) ∧ dv 0 (s.extract 0 k).data.toList = nval s.data.toList := by
  have e : (s.extract 0 k).data.toList = s.data.toList.take (len isD s.data.toList) := by rw [ext_take, hk]
  rw [e]
  refine ⟨?_, len_mem isD _, rfl⟩
  intro h
  have := congrArg List.length h
  have h2 := len_le isD s.data.toList
  rw [List.length_take, Nat.min_eq_left h2] at this
  simp at this; omega

theorem parse_ok {s : ByteArray} {k : Nat} (hs : s.size ≤ 1048576) (hk : k = len isD s.data.toList) (h1 : 1 ≤ k) (B : Nat) (hB : B = 32 ∨ B = 64) (hv : nval s.data.toList ≤ 2 ^ (B - 1) - 1) (w : World) :
    Calls Tryz.prog 141 #[.string (s.extract 0 k), .int .i64 10, .int .i64 (B : Int)] w fun e w' => e = .returned (.tuple #[.int .i64 (nval s.data.toList), .nilIface]) ∧ Below w.heap.size w w' := by
  obtain ⟨t1, t2, t3⟩ := take_digits hk h1
  have hp := parseB B hB _ t1 t2
  rw [t3, if_pos hv] at hp
  have hz : (s.extract 0 k).size ≤ 9223372036854775806 := by rw [ByteArray.size_extract]; omega
  have fin : ∀ (e : Ending) (w' : World), (e = .returned (.tuple #[.int .i64 (nval s.data.toList), .nilIface]) ∧ (w' = w ∨ ∃ t, w' = Lib.bytesWorld w 5 t)) → e = .returned (.tuple #[.int .i64 (nval s.data.toList), .nilIface]) ∧ Below w.heap.size w w' := by
    rintro e w' ⟨rfl, rfl | ⟨t, rfl⟩⟩
    · exact ⟨rfl, Below.refl _ _⟩
    · exact ⟨rfl, Lib.bytesWorld_below w _ t⟩
  rcases hB with rfl | rfl
  · exact (Tryz.strconv_ParseInt_10_at32_ok _ hz _ hp w).mono fin
  · exact (Tryz.strconv_ParseInt_10_at64_ok _ hz _ hp w).mono fin

/-- An answer that is an error. -/
def BadNum (w : World) (e : Ending) (w' : World) : Prop := ∃ (v : Int) (N : Nat), e = .returned (.tuple #[.int .i64 v, .iface 200 (.pointer (some ⟨N, 0, none⟩))]) ∧ Below w.heap.size w w'

theorem parse_bad {s : ByteArray} {k : Nat} (hs : s.size ≤ 1048576) (hk : k = len isD s.data.toList) (h1 : 1 ≤ k) (B : Nat) (hB : B = 32 ∨ B = 64) (hv : ¬ nval s.data.toList ≤ 2 ^ (B - 1) - 1) (w : World) (hE : Env w) :
    Calls Tryz.prog 141 #[.string (s.extract 0 k), .int .i64 10, .int .i64 (B : Int)] w (BadNum w) := by
  obtain ⟨t1, t2, t3⟩ := take_digits hk h1
  have hp := parseB B hB _ t1 t2
  rw [t3, if_neg hv] at hp
  have hz : (s.extract 0 k).size ≤ 281474976710656 := by rw [ByteArray.size_extract]; omega
  obtain ⟨tp, p, hr⟩ := hE.rng
  rcases hB with rfl | rfl
  · exact (Tryz.strconv_ParseInt_10_at32_range_var _ hz hp tp p w hr).mono (by rintro e w' ⟨N, rfl, _, _, hb⟩; exact ⟨_, N, rfl, hb⟩)
  · exact (Tryz.strconv_ParseInt_10_at64_range_var _ hz hp tp p w hr).mono (by rintro e w' ⟨N, rfl, _, _, hb⟩; exact ⟨_, N, rfl, hb⟩)

theorem hd0 (f : UInt8 → Bool) (s : ByteArray) (h : 0 < s.size) : hd f s.data.toList = f s[0] := by
  have := hd_at f s 0 h
  simpa using this

set_option maxHeartbeats 8000000 in
set_option maxRecDepth 100000 in
theorem scanNumber_any (s : ByteArray) (hs : s.size ≤ 1048576) (h0 : 1 ≤ len isD s.data.toList) (w : World) (hE : Env w) :
    Calls Tryz.prog 107 #[.string s] w fun e w' => e = .returned (scV (scNum s.data.toList)) ∧ Below w.heap.size w w' := by
  have hl := len_le isD s.data.toList
  rw [← Lib.size_eq] at hl
  have h00 : 0 < s.size := by omega
  have hz := hd0 (fun c => decide (c.toNat = 48)) s h00
  have HZ := Lib.hid hz
  clear hz
  have hE1 : Env (w.alloc (.cells #[.int .i64 0, .int .i64 0, .int .i64 0, .string ⟨#[]⟩] 92)) := hE.of ((Below.refl _ w).alloc (Nat.le_refl _) _)
  have HE := Lib.hid hE1
  clear hE1 hE
  go_enter Tryz.func107, Tryz.ntmps107
  go_wp2
  go_loop [5] (fun v => ∃ k : Nat, 1 ≤ k ∧ k ≤ len isD s.data.toList ∧ v = .int .i64 k) (fun i => s.size - (intOf i).toNat)
  case atStart => exact ⟨1, by omega, h0, rfl⟩
  case round =>
    obtain ⟨k, hk1, hk, rfl⟩ := hrel
    have hks : k ≤ s.size := by omega
    by_cases hlt : k < s.size
    · have hst := len_step hk hlt
      cases hc : isD s[k]
      · have hke := hst.2 hc
        clear hst hk
        have HK := Lib.hid hke
        clear hke
        have h76 : lng s.data.toList = decide (s[k].toNat = 76) := by rw [lng, ← HK.out, hd_at _ s k hlt]
        by_cases h7 : s[k].toNat = 76
        · have t7 : ((s[k].toNat : Int) == 76) = true := by simp [h7]
          have hL : lng s.data.toList = true := by rw [h76]; simp [h7]
          have hN : nsz s.data.toList = k + 1 := by rw [nsz, hL, HK.out]; rfl
          clear h76 h7
          by_cases hlt2 : k + 1 < s.size
          · by_cases hk2 : 1 < k
            · by_cases hz48 : s[0].toNat = 48
              · have t0 : ((s[0].toNat : Int) == 48) = true := by simp [hz48]
                have hF : nform s.data.toList = true := by rw [nform, ← HK.out, HZ.out]; simp [hk2, hz48]
                have e : scNum s.data.toList = (tk0, 0, 2) := by rw [scNum, if_pos hF]
                have HA := Lib.hid e
                clear e hF hL hN hz48
                go_wp2_with (first | (go_at_call 106; refine (isDigit_any _ _).mono ?_; rw [hc]; clear hc; rintro e w1 ⟨rfl, rfl⟩))
                rw [HA.out]
                exact ret_new (t := tk0) (n := 0) (no := 2) rfl rfl rfl rfl rfl ⟨rfl, (Below.refl _ w).alloc (Nat.le_refl _) _⟩
              · have t0 : ((s[0].toNat : Int) == 48) = false := by simp; omega
                cases hn : isN s[k + 1]
                · have hP : hd isN (s.data.toList.drop (nsz s.data.toList)) = false := by rw [hN, hd_at _ s (k + 1) (by omega), hn]
                  have hF : nform s.data.toList = false := by rw [nform, ← HK.out, HZ.out, hP]; simp [hz48]
                  have hM : nmax s.data.toList = 9223372036854775807 := by rw [nmax, hL]; rfl
                  have hmk : nmark s.data.toList = [76] := by rw [nmark, hL]; rfl
                  by_cases hr : 9223372036854775807 < nval s.data.toList
                  · have e : scNum s.data.toList = (tk0, 0, 11) := by rw [scNum, hF, if_neg (by simp), hM, if_pos hr]
                    have HA := Lib.hid e
                    have HP := Lib.hid (parse_bad hs HK.out hk1 64 (by simp) (by simpa using hr) _ HE.out)
                    clear e hF hM hmk hr hL hN hz48 hP
                    go_wp2_with (first | (go_at_call 106; refine (isDigit_any _ _).mono ?_; rw [hc]; clear hc; rintro e w1 ⟨rfl, rfl⟩) | (go_at_call 140; refine (isInName_any _ _).mono ?_; rw [hn]; clear hn; rintro e w1 ⟨rfl, rfl⟩) | (go_at_call 141; refine HP.out.mono ?_; rintro e w1 ⟨nv, N, rfl, hb1⟩; have hblk := (hb1.block w.heap.size (by simp)).trans (heap_alloc_new w _); obtain ⟨hcl, hfr⟩ := bcell hb1; have HB := Lib.hid hblk; clear hblk; have HB1 := Lib.hid hb1; clear hb1))
                    rw [HA.out]
                    exact ret_sc4 (t := tk0) (n := 0) (no := 11) rfl rfl rfl rfl rfl HB.out rfl ⟨rfl, below_set4 (((Below.refl _ w).alloc (Nat.le_refl _) _).trans (HB1.out.mono (by simp))) (Nat.le_refl _)⟩
                  · have e : scNum s.data.toList = (⟨2, 0, nval s.data.toList, [76]⟩, (k + 1), 0) := by rw [scNum, hF, if_neg (by simp), hM, if_neg hr, hmk, hN]
                    have HA := Lib.hid e
                    have HP := Lib.hid (parse_ok hs HK.out hk1 64 (by simp) (by simp; omega) (w.alloc (.cells #[.int .i64 0, .int .i64 0, .int .i64 0, .string ⟨#[]⟩] 92)))
                    clear e hF hM hmk hr hL hN hz48 hP
                    go_wp2_with (first | (go_at_call 106; refine (isDigit_any _ _).mono ?_; rw [hc]; clear hc; rintro e w1 ⟨rfl, rfl⟩) | (go_at_call 140; refine (isInName_any _ _).mono ?_; rw [hn]; clear hn; rintro e w1 ⟨rfl, rfl⟩) | (go_at_call 141; refine HP.out.mono ?_; rintro e w1 ⟨rfl, hb1⟩; have hblk := (hb1.block w.heap.size (by simp)).trans (heap_alloc_new w _); obtain ⟨hcl, hfr⟩ := bcell hb1; have HB := Lib.hid hblk; clear hblk; have HB1 := Lib.hid hb1; clear hb1))
                    rw [HA.out]
                    exact ret_sc4 (t := ⟨2, 0, nval s.data.toList, [76]⟩) (n := (k + 1)) (no := 0) rfl rfl rfl rfl rfl HB.out rfl ⟨rfl, below_set4 (((Below.refl _ w).alloc (Nat.le_refl _) _).trans (HB1.out.mono (by simp))) (Nat.le_refl _)⟩
                · have hP : hd isN (s.data.toList.drop (nsz s.data.toList)) = true := by rw [hN, hd_at _ s (k + 1) (by omega), hn]
                  have hF : nform s.data.toList = true := by rw [nform, hP]; simp
                  have e : scNum s.data.toList = (tk0, 0, 2) := by rw [scNum, if_pos hF]
                  have HA := Lib.hid e
                  clear e hF hL hN hz48 hP
                  go_wp2_with (first | (go_at_call 106; refine (isDigit_any _ _).mono ?_; rw [hc]; clear hc; rintro e w1 ⟨rfl, rfl⟩) | (go_at_call 140; refine (isInName_any _ _).mono ?_; rw [hn]; clear hn; rintro e w1 ⟨rfl, rfl⟩))
                  rw [HA.out]
                  exact ret_new (t := tk0) (n := 0) (no := 2) rfl rfl rfl rfl rfl ⟨rfl, (Below.refl _ w).alloc (Nat.le_refl _) _⟩
            · cases hn : isN s[k + 1]
              · have hP : hd isN (s.data.toList.drop (nsz s.data.toList)) = false := by rw [hN, hd_at _ s (k + 1) (by omega), hn]
                have hF : nform s.data.toList = false := by rw [nform, ← HK.out, hP]; simp [hk2]
                have hM : nmax s.data.toList = 9223372036854775807 := by rw [nmax, hL]; rfl
                have hmk : nmark s.data.toList = [76] := by rw [nmark, hL]; rfl
                by_cases hr : 9223372036854775807 < nval s.data.toList
                · have e : scNum s.data.toList = (tk0, 0, 11) := by rw [scNum, hF, if_neg (by simp), hM, if_pos hr]
                  have HA := Lib.hid e
                  have HP := Lib.hid (parse_bad hs HK.out hk1 64 (by simp) (by simpa using hr) _ HE.out)
                  clear e hF hM hmk hr hL hN hP
                  go_wp2_with (first | (go_at_call 106; refine (isDigit_any _ _).mono ?_; rw [hc]; clear hc; rintro e w1 ⟨rfl, rfl⟩) | (go_at_call 140; refine (isInName_any _ _).mono ?_; rw [hn]; clear hn; rintro e w1 ⟨rfl, rfl⟩) | (go_at_call 141; refine HP.out.mono ?_; rintro e w1 ⟨nv, N, rfl, hb1⟩; have hblk := (hb1.block w.heap.size (by simp)).trans (heap_alloc_new w _); obtain ⟨hcl, hfr⟩ := bcell hb1; have HB := Lib.hid hblk; clear hblk; have HB1 := Lib.hid hb1; clear hb1))
                  rw [HA.out]
                  exact ret_sc4 (t := tk0) (n := 0) (no := 11) rfl rfl rfl rfl rfl HB.out rfl ⟨rfl, below_set4 (((Below.refl _ w).alloc (Nat.le_refl _) _).trans (HB1.out.mono (by simp))) (Nat.le_refl _)⟩
                · have e : scNum s.data.toList = (⟨2, 0, nval s.data.toList, [76]⟩, (k + 1), 0) := by rw [scNum, hF, if_neg (by simp), hM, if_neg hr, hmk, hN]
                  have HA := Lib.hid e
                  have HP := Lib.hid (parse_ok hs HK.out hk1 64 (by simp) (by simp; omega) (w.alloc (.cells #[.int .i64 0, .int .i64 0, .int .i64 0, .string ⟨#[]⟩] 92)))
                  clear e hF hM hmk hr hL hN hP
                  go_wp2_with (first | (go_at_call 106; refine (isDigit_any _ _).mono ?_; rw [hc]; clear hc; rintro e w1 ⟨rfl, rfl⟩) | (go_at_call 140; refine (isInName_any _ _).mono ?_; rw [hn]; clear hn; rintro e w1 ⟨rfl, rfl⟩) | (go_at_call 141; refine HP.out.mono ?_; rintro e w1 ⟨rfl, hb1⟩; have hblk := (hb1.block w.heap.size (by simp)).trans (heap_alloc_new w _); obtain ⟨hcl, hfr⟩ := bcell hb1; have HB := Lib.hid hblk; clear hblk; have HB1 := Lib.hid hb1; clear hb1))
                  rw [HA.out]
                  exact ret_sc4 (t := ⟨2, 0, nval s.data.toList, [76]⟩) (n := (k + 1)) (no := 0) rfl rfl rfl rfl rfl HB.out rfl ⟨rfl, below_set4 (((Below.refl _ w).alloc (Nat.le_refl _) _).trans (HB1.out.mono (by simp))) (Nat.le_refl _)⟩
              · have hP : hd isN (s.data.toList.drop (nsz s.data.toList)) = true := by rw [hN, hd_at _ s (k + 1) (by omega), hn]
                have hF : nform s.data.toList = true := by rw [nform, hP]; simp
                have e : scNum s.data.toList = (tk0, 0, 2) := by rw [scNum, if_pos hF]
                have HA := Lib.hid e
                clear e hF hL hN hP
                go_wp2_with (first | (go_at_call 106; refine (isDigit_any _ _).mono ?_; rw [hc]; clear hc; rintro e w1 ⟨rfl, rfl⟩) | (go_at_call 140; refine (isInName_any _ _).mono ?_; rw [hn]; clear hn; rintro e w1 ⟨rfl, rfl⟩))
                rw [HA.out]
                exact ret_new (t := tk0) (n := 0) (no := 2) rfl rfl rfl rfl rfl ⟨rfl, (Below.refl _ w).alloc (Nat.le_refl _) _⟩
          · have hP : hd isN (s.data.toList.drop (nsz s.data.toList)) = false := by rw [hN, hd_end _ s (k + 1) (by omega)]
            by_cases hk2 : 1 < k
            · by_cases hz48 : s[0].toNat = 48
              · have t0 : ((s[0].toNat : Int) == 48) = true := by simp [hz48]
                have hF : nform s.data.toList = true := by rw [nform, ← HK.out, HZ.out]; simp [hk2, hz48]
                have e : scNum s.data.toList = (tk0, 0, 2) := by rw [scNum, if_pos hF]
                have HA := Lib.hid e
                clear e hF hL hN hP hz48
                go_wp2_with (first | (go_at_call 106; refine (isDigit_any _ _).mono ?_; rw [hc]; clear hc; rintro e w1 ⟨rfl, rfl⟩))
                rw [HA.out]
                exact ret_new (t := tk0) (n := 0) (no := 2) rfl rfl rfl rfl rfl ⟨rfl, (Below.refl _ w).alloc (Nat.le_refl _) _⟩
              · have t0 : ((s[0].toNat : Int) == 48) = false := by simp; omega
                have hF : nform s.data.toList = false := by rw [nform, ← HK.out, HZ.out, hP]; simp [hz48]
                have hM : nmax s.data.toList = 9223372036854775807 := by rw [nmax, hL]; rfl
                have hmk : nmark s.data.toList = [76] := by rw [nmark, hL]; rfl
                by_cases hr : 9223372036854775807 < nval s.data.toList
                · have e : scNum s.data.toList = (tk0, 0, 11) := by rw [scNum, hF, if_neg (by simp), hM, if_pos hr]
                  have HA := Lib.hid e
                  have HP := Lib.hid (parse_bad hs HK.out hk1 64 (by simp) (by simpa using hr) _ HE.out)
                  clear e hF hM hmk hr hL hN hP hz48
                  go_wp2_with (first | (go_at_call 106; refine (isDigit_any _ _).mono ?_; rw [hc]; clear hc; rintro e w1 ⟨rfl, rfl⟩) | (go_at_call 141; refine HP.out.mono ?_; rintro e w1 ⟨nv, N, rfl, hb1⟩; have hblk := (hb1.block w.heap.size (by simp)).trans (heap_alloc_new w _); obtain ⟨hcl, hfr⟩ := bcell hb1; have HB := Lib.hid hblk; clear hblk; have HB1 := Lib.hid hb1; clear hb1))
                  rw [HA.out]
                  exact ret_sc4 (t := tk0) (n := 0) (no := 11) rfl rfl rfl rfl rfl HB.out rfl ⟨rfl, below_set4 (((Below.refl _ w).alloc (Nat.le_refl _) _).trans (HB1.out.mono (by simp))) (Nat.le_refl _)⟩
                · have e : scNum s.data.toList = (⟨2, 0, nval s.data.toList, [76]⟩, (k + 1), 0) := by rw [scNum, hF, if_neg (by simp), hM, if_neg hr, hmk, hN]
                  have HA := Lib.hid e
                  have HP := Lib.hid (parse_ok hs HK.out hk1 64 (by simp) (by simp; omega) (w.alloc (.cells #[.int .i64 0, .int .i64 0, .int .i64 0, .string ⟨#[]⟩] 92)))
                  clear e hF hM hmk hr hL hN hP hz48
                  go_wp2_with (first | (go_at_call 106; refine (isDigit_any _ _).mono ?_; rw [hc]; clear hc; rintro e w1 ⟨rfl, rfl⟩) | (go_at_call 141; refine HP.out.mono ?_; rintro e w1 ⟨rfl, hb1⟩; have hblk := (hb1.block w.heap.size (by simp)).trans (heap_alloc_new w _); obtain ⟨hcl, hfr⟩ := bcell hb1; have HB := Lib.hid hblk; clear hblk; have HB1 := Lib.hid hb1; clear hb1))
                  rw [HA.out]
                  exact ret_sc4 (t := ⟨2, 0, nval s.data.toList, [76]⟩) (n := (k + 1)) (no := 0) rfl rfl rfl rfl rfl HB.out rfl ⟨rfl, below_set4 (((Below.refl _ w).alloc (Nat.le_refl _) _).trans (HB1.out.mono (by simp))) (Nat.le_refl _)⟩
            · have hF : nform s.data.toList = false := by rw [nform, ← HK.out, hP]; simp [hk2]
              have hM : nmax s.data.toList = 9223372036854775807 := by rw [nmax, hL]; rfl
              have hmk : nmark s.data.toList = [76] := by rw [nmark, hL]; rfl
              by_cases hr : 9223372036854775807 < nval s.data.toList
              · have e : scNum s.data.toList = (tk0, 0, 11) := by rw [scNum, hF, if_neg (by simp), hM, if_pos hr]
                have HA := Lib.hid e
                have HP := Lib.hid (parse_bad hs HK.out hk1 64 (by simp) (by simpa using hr) _ HE.out)
                clear e hF hM hmk hr hL hN hP
                go_wp2_with (first | (go_at_call 106; refine (isDigit_any _ _).mono ?_; rw [hc]; clear hc; rintro e w1 ⟨rfl, rfl⟩) | (go_at_call 141; refine HP.out.mono ?_; rintro e w1 ⟨nv, N, rfl, hb1⟩; have hblk := (hb1.block w.heap.size (by simp)).trans (heap_alloc_new w _); obtain ⟨hcl, hfr⟩ := bcell hb1; have HB := Lib.hid hblk; clear hblk; have HB1 := Lib.hid hb1; clear hb1))
                rw [HA.out]
                exact ret_sc4 (t := tk0) (n := 0) (no := 11) rfl rfl rfl rfl rfl HB.out rfl ⟨rfl, below_set4 (((Below.refl _ w).alloc (Nat.le_refl _) _).trans (HB1.out.mono (by simp))) (Nat.le_refl _)⟩
              · have e : scNum s.data.toList = (⟨2, 0, nval s.data.toList, [76]⟩, (k + 1), 0) := by rw [scNum, hF, if_neg (by simp), hM, if_neg hr, hmk, hN]
                have HA := Lib.hid e
                have HP := Lib.hid (parse_ok hs HK.out hk1 64 (by simp) (by simp; omega) (w.alloc (.cells #[.int .i64 0, .int .i64 0, .int .i64 0, .string ⟨#[]⟩] 92)))
                clear e hF hM hmk hr hL hN hP
                go_wp2_with (first | (go_at_call 106; refine (isDigit_any _ _).mono ?_; rw [hc]; clear hc; rintro e w1 ⟨rfl, rfl⟩) | (go_at_call 141; refine HP.out.mono ?_; rintro e w1 ⟨rfl, hb1⟩; have hblk := (hb1.block w.heap.size (by simp)).trans (heap_alloc_new w _); obtain ⟨hcl, hfr⟩ := bcell hb1; have HB := Lib.hid hblk; clear hblk; have HB1 := Lib.hid hb1; clear hb1))
                rw [HA.out]
                exact ret_sc4 (t := ⟨2, 0, nval s.data.toList, [76]⟩) (n := (k + 1)) (no := 0) rfl rfl rfl rfl rfl HB.out rfl ⟨rfl, below_set4 (((Below.refl _ w).alloc (Nat.le_refl _) _).trans (HB1.out.mono (by simp))) (Nat.le_refl _)⟩
        · have t7 : ((s[k].toNat : Int) == 76) = false := by simp; omega
          have hL : lng s.data.toList = false := by rw [h76]; simp [h7]
          have hN : nsz s.data.toList = k := by rw [nsz, hL, HK.out]; rfl
          clear h76 h7
          by_cases hk2 : 1 < k
          · by_cases hz48 : s[0].toNat = 48
            · have t0 : ((s[0].toNat : Int) == 48) = true := by simp [hz48]
              have hF : nform s.data.toList = true := by rw [nform, ← HK.out, HZ.out]; simp [hk2, hz48]
              have e : scNum s.data.toList = (tk0, 0, 2) := by rw [scNum, if_pos hF]
              have HA := Lib.hid e
              clear e hF hL hN hz48
              go_wp2_with (first | (go_at_call 106; refine (isDigit_any _ _).mono ?_; rw [hc]; clear hc; rintro e w1 ⟨rfl, rfl⟩))
              rw [HA.out]
              exact ret_new (t := tk0) (n := 0) (no := 2) rfl rfl rfl rfl rfl ⟨rfl, (Below.refl _ w).alloc (Nat.le_refl _) _⟩
            · have t0 : ((s[0].toNat : Int) == 48) = false := by simp; omega
              cases hn : isN s[k]
              · have hP : hd isN (s.data.toList.drop (nsz s.data.toList)) = false := by rw [hN, hd_at _ s (k) (by omega), hn]
                have hF : nform s.data.toList = false := by rw [nform, ← HK.out, HZ.out, hP]; simp [hz48]
                have hM : nmax s.data.toList = 2147483647 := by rw [nmax, hL]; rfl
                have hmk : nmark s.data.toList = [] := by rw [nmark, hL]; rfl
                by_cases hr : 2147483647 < nval s.data.toList
                · have e : scNum s.data.toList = (tk0, 0, 11) := by rw [scNum, hF, if_neg (by simp), hM, if_pos hr]
                  have HA := Lib.hid e
                  have HP := Lib.hid (parse_bad hs HK.out hk1 32 (by simp) (by simpa using hr) _ HE.out)
                  clear e hF hM hmk hr hL hN hz48 hP
                  go_wp2_with (first | (go_at_call 106; refine (isDigit_any _ _).mono ?_; rw [hc]; clear hc; rintro e w1 ⟨rfl, rfl⟩) | (go_at_call 140; refine (isInName_any _ _).mono ?_; rw [hn]; clear hn; rintro e w1 ⟨rfl, rfl⟩) | (go_at_call 141; refine HP.out.mono ?_; rintro e w1 ⟨nv, N, rfl, hb1⟩; have hblk := (hb1.block w.heap.size (by simp)).trans (heap_alloc_new w _); obtain ⟨hcl, hfr⟩ := bcell hb1; have HB := Lib.hid hblk; clear hblk; have HB1 := Lib.hid hb1; clear hb1))
                  rw [HA.out]
                  exact ret_sc4 (t := tk0) (n := 0) (no := 11) rfl rfl rfl rfl rfl HB.out rfl ⟨rfl, below_set4 (((Below.refl _ w).alloc (Nat.le_refl _) _).trans (HB1.out.mono (by simp))) (Nat.le_refl _)⟩
                · have e : scNum s.data.toList = (⟨2, 0, nval s.data.toList, []⟩, k, 0) := by rw [scNum, hF, if_neg (by simp), hM, if_neg hr, hmk, hN]
                  have HA := Lib.hid e
                  have HP := Lib.hid (parse_ok hs HK.out hk1 32 (by simp) (by simp; omega) (w.alloc (.cells #[.int .i64 0, .int .i64 0, .int .i64 0, .string ⟨#[]⟩] 92)))
                  clear e hF hM hmk hr hL hN hz48 hP
                  go_wp2_with (first | (go_at_call 106; refine (isDigit_any _ _).mono ?_; rw [hc]; clear hc; rintro e w1 ⟨rfl, rfl⟩) | (go_at_call 140; refine (isInName_any _ _).mono ?_; rw [hn]; clear hn; rintro e w1 ⟨rfl, rfl⟩) | (go_at_call 141; refine HP.out.mono ?_; rintro e w1 ⟨rfl, hb1⟩; have hblk := (hb1.block w.heap.size (by simp)).trans (heap_alloc_new w _); obtain ⟨hcl, hfr⟩ := bcell hb1; have HB := Lib.hid hblk; clear hblk; have HB1 := Lib.hid hb1; clear hb1))
                  rw [HA.out]
                  exact ret_sc4 (t := ⟨2, 0, nval s.data.toList, []⟩) (n := k) (no := 0) rfl rfl rfl rfl rfl HB.out rfl ⟨rfl, below_set4 (((Below.refl _ w).alloc (Nat.le_refl _) _).trans (HB1.out.mono (by simp))) (Nat.le_refl _)⟩
              · have hP : hd isN (s.data.toList.drop (nsz s.data.toList)) = true := by rw [hN, hd_at _ s (k) (by omega), hn]
                have hF : nform s.data.toList = true := by rw [nform, hP]; simp
                have e : scNum s.data.toList = (tk0, 0, 2) := by rw [scNum, if_pos hF]
                have HA := Lib.hid e
                clear e hF hL hN hz48 hP
                go_wp2_with (first | (go_at_call 106; refine (isDigit_any _ _).mono ?_; rw [hc]; clear hc; rintro e w1 ⟨rfl, rfl⟩) | (go_at_call 140; refine (isInName_any _ _).mono ?_; rw [hn]; clear hn; rintro e w1 ⟨rfl, rfl⟩))
                rw [HA.out]
                exact ret_new (t := tk0) (n := 0) (no := 2) rfl rfl rfl rfl rfl ⟨rfl, (Below.refl _ w).alloc (Nat.le_refl _) _⟩
          · cases hn : isN s[k]
            · have hP : hd isN (s.data.toList.drop (nsz s.data.toList)) = false := by rw [hN, hd_at _ s (k) (by omega), hn]
              have hF : nform s.data.toList = false := by rw [nform, ← HK.out, hP]; simp [hk2]
              have hM : nmax s.data.toList = 2147483647 := by rw [nmax, hL]; rfl
              have hmk : nmark s.data.toList = [] := by rw [nmark, hL]; rfl
              by_cases hr : 2147483647 < nval s.data.toList
              · have e : scNum s.data.toList = (tk0, 0, 11) := by rw [scNum, hF, if_neg (by simp), hM, if_pos hr]
                have HA := Lib.hid e
                have HP := Lib.hid (parse_bad hs HK.out hk1 32 (by simp) (by simpa using hr) _ HE.out)
                clear e hF hM hmk hr hL hN hP
                go_wp2_with (first | (go_at_call 106; refine (isDigit_any _ _).mono ?_; rw [hc]; clear hc; rintro e w1 ⟨rfl, rfl⟩) | (go_at_call 140; refine (isInName_any _ _).mono ?_; rw [hn]; clear hn; rintro e w1 ⟨rfl, rfl⟩) | (go_at_call 141; refine HP.out.mono ?_; rintro e w1 ⟨nv, N, rfl, hb1⟩; have hblk := (hb1.block w.heap.size (by simp)).trans (heap_alloc_new w _); obtain ⟨hcl, hfr⟩ := bcell hb1; have HB := Lib.hid hblk; clear hblk; have HB1 := Lib.hid hb1; clear hb1))
                rw [HA.out]
                exact ret_sc4 (t := tk0) (n := 0) (no := 11) rfl rfl rfl rfl rfl HB.out rfl ⟨rfl, below_set4 (((Below.refl _ w).alloc (Nat.le_refl _) _).trans (HB1.out.mono (by simp))) (Nat.le_refl _)⟩
              · have e : scNum s.data.toList = (⟨2, 0, nval s.data.toList, []⟩, k, 0) := by rw [scNum, hF, if_neg (by simp), hM, if_neg hr, hmk, hN]
                have HA := Lib.hid e
                have HP := Lib.hid (parse_ok hs HK.out hk1 32 (by simp) (by simp; omega) (w.alloc (.cells #[.int .i64 0, .int .i64 0, .int .i64 0, .string ⟨#[]⟩] 92)))
                clear e hF hM hmk hr hL hN hP
                go_wp2_with (first | (go_at_call 106; refine (isDigit_any _ _).mono ?_; rw [hc]; clear hc; rintro e w1 ⟨rfl, rfl⟩) | (go_at_call 140; refine (isInName_any _ _).mono ?_; rw [hn]; clear hn; rintro e w1 ⟨rfl, rfl⟩) | (go_at_call 141; refine HP.out.mono ?_; rintro e w1 ⟨rfl, hb1⟩; have hblk := (hb1.block w.heap.size (by simp)).trans (heap_alloc_new w _); obtain ⟨hcl, hfr⟩ := bcell hb1; have HB := Lib.hid hblk; clear hblk; have HB1 := Lib.hid hb1; clear hb1))
                rw [HA.out]
                exact ret_sc4 (t := ⟨2, 0, nval s.data.toList, []⟩) (n := k) (no := 0) rfl rfl rfl rfl rfl HB.out rfl ⟨rfl, below_set4 (((Below.refl _ w).alloc (Nat.le_refl _) _).trans (HB1.out.mono (by simp))) (Nat.le_refl _)⟩
            · have hP : hd isN (s.data.toList.drop (nsz s.data.toList)) = true := by rw [hN, hd_at _ s (k) (by omega), hn]
              have hF : nform s.data.toList = true := by rw [nform, hP]; simp
              have e : scNum s.data.toList = (tk0, 0, 2) := by rw [scNum, if_pos hF]
              have HA := Lib.hid e
              clear e hF hL hN hP
              go_wp2_with (first | (go_at_call 106; refine (isDigit_any _ _).mono ?_; rw [hc]; clear hc; rintro e w1 ⟨rfl, rfl⟩) | (go_at_call 140; refine (isInName_any _ _).mono ?_; rw [hn]; clear hn; rintro e w1 ⟨rfl, rfl⟩))
              rw [HA.out]
              exact ret_new (t := tk0) (n := 0) (no := 2) rfl rfl rfl rfl rfl ⟨rfl, (Below.refl _ w).alloc (Nat.le_refl _) _⟩
      · have hke := hst.1 hc
        clear hst
        go_wp2_with (go_at_call 106; refine (isDigit_any _ _).mono ?_; rw [hc]; clear hc; rintro e w1 ⟨rfl, rfl⟩)
        go_round
        case rel => exact ⟨k + 1, by omega, by omega, by go_num⟩
        case measure => simp [intOf]; omega
    · have hke := len_full hk hlt
      clear hk
      have HK := Lib.hid hke
      clear hke
      have hL : lng s.data.toList = false := by rw [lng, ← HK.out, hd_end _ s k (by omega)]
      have hN : nsz s.data.toList = k := by rw [nsz, hL, HK.out]; rfl
      have hP : hd isN (s.data.toList.drop (nsz s.data.toList)) = false := by rw [hN, hd_end _ s k (by omega)]
      by_cases hk2 : 1 < k
      · by_cases hz48 : s[0].toNat = 48
        · have t0 : ((s[0].toNat : Int) == 48) = true := by simp [hz48]
          have hF : nform s.data.toList = true := by rw [nform, ← HK.out, HZ.out]; simp [hk2, hz48]
          have e : scNum s.data.toList = (tk0, 0, 2) := by rw [scNum, if_pos hF]
          have HA := Lib.hid e
          clear e hF hL hN hP hz48
          go_wp2
          rw [HA.out]
          exact ret_new (t := tk0) (n := 0) (no := 2) rfl rfl rfl rfl rfl ⟨rfl, (Below.refl _ w).alloc (Nat.le_refl _) _⟩
        · have t0 : ((s[0].toNat : Int) == 48) = false := by simp; omega
          have hF : nform s.data.toList = false := by rw [nform, ← HK.out, HZ.out, hP]; simp [hz48]
          have hM : nmax s.data.toList = 2147483647 := by rw [nmax, hL]; rfl
          have hmk : nmark s.data.toList = [] := by rw [nmark, hL]; rfl
          by_cases hr : 2147483647 < nval s.data.toList
          · have e : scNum s.data.toList = (tk0, 0, 11) := by rw [scNum, hF, if_neg (by simp), hM, if_pos hr]
            have HA := Lib.hid e
            have HP := Lib.hid (parse_bad hs HK.out hk1 32 (by simp) (by simpa using hr) _ HE.out)
            clear e hF hM hmk hr hL hN hP hz48
            go_wp2_with (first | (go_at_call 141; refine HP.out.mono ?_; rintro e w1 ⟨nv, N, rfl, hb1⟩; have hblk := (hb1.block w.heap.size (by simp)).trans (heap_alloc_new w _); obtain ⟨hcl, hfr⟩ := bcell hb1; have HB := Lib.hid hblk; clear hblk; have HB1 := Lib.hid hb1; clear hb1))
            rw [HA.out]
            exact ret_sc4 (t := tk0) (n := 0) (no := 11) rfl rfl rfl rfl rfl HB.out rfl ⟨rfl, below_set4 (((Below.refl _ w).alloc (Nat.le_refl _) _).trans (HB1.out.mono (by simp))) (Nat.le_refl _)⟩
          · have e : scNum s.data.toList = (⟨2, 0, nval s.data.toList, []⟩, k, 0) := by rw [scNum, hF, if_neg (by simp), hM, if_neg hr, hmk, hN]
            have HA := Lib.hid e
            have HP := Lib.hid (parse_ok hs HK.out hk1 32 (by simp) (by simp; omega) (w.alloc (.cells #[.int .i64 0, .int .i64 0, .int .i64 0, .string ⟨#[]⟩] 92)))
            clear e hF hM hmk hr hL hN hP hz48
            go_wp2_with (first | (go_at_call 141; refine HP.out.mono ?_; rintro e w1 ⟨rfl, hb1⟩; have hblk := (hb1.block w.heap.size (by simp)).trans (heap_alloc_new w _); obtain ⟨hcl, hfr⟩ := bcell hb1; have HB := Lib.hid hblk; clear hblk; have HB1 := Lib.hid hb1; clear hb1))
            rw [HA.out]
            exact ret_sc4 (t := ⟨2, 0, nval s.data.toList, []⟩) (n := k) (no := 0) rfl rfl rfl rfl rfl HB.out rfl ⟨rfl, below_set4 (((Below.refl _ w).alloc (Nat.le_refl _) _).trans (HB1.out.mono (by simp))) (Nat.le_refl _)⟩
      · have hF : nform s.data.toList = false := by rw [nform, ← HK.out, hP]; simp [hk2]
        have hM : nmax s.data.toList = 2147483647 := by rw [nmax, hL]; rfl
        have hmk : nmark s.data.toList = [] := by rw [nmark, hL]; rfl
        by_cases hr : 2147483647 < nval s.data.toList
        · have e : scNum s.data.toList = (tk0, 0, 11) := by rw [scNum, hF, if_neg (by simp), hM, if_pos hr]
          have HA := Lib.hid e
          have HP := Lib.hid (parse_bad hs HK.out hk1 32 (by simp) (by simpa using hr) _ HE.out)
          clear e hF hM hmk hr hL hN hP
          go_wp2_with (first | (go_at_call 141; refine HP.out.mono ?_; rintro e w1 ⟨nv, N, rfl, hb1⟩; have hblk := (hb1.block w.heap.size (by simp)).trans (heap_alloc_new w _); obtain ⟨hcl, hfr⟩ := bcell hb1; have HB := Lib.hid hblk; clear hblk; have HB1 := Lib.hid hb1; clear hb1))
          rw [HA.out]
          exact ret_sc4 (t := tk0) (n := 0) (no := 11) rfl rfl rfl rfl rfl HB.out rfl ⟨rfl, below_set4 (((Below.refl _ w).alloc (Nat.le_refl _) _).trans (HB1.out.mono (by simp))) (Nat.le_refl _)⟩
        · have e : scNum s.data.toList = (⟨2, 0, nval s.data.toList, []⟩, k, 0) := by rw [scNum, hF, if_neg (by simp), hM, if_neg hr, hmk, hN]
          have HA := Lib.hid e
          have HP := Lib.hid (parse_ok hs HK.out hk1 32 (by simp) (by simp; omega) (w.alloc (.cells #[.int .i64 0, .int .i64 0, .int .i64 0, .string ⟨#[]⟩] 92)))
          clear e hF hM hmk hr hL hN hP
          go_wp2_with (first | (go_at_call 141; refine HP.out.mono ?_; rintro e w1 ⟨rfl, hb1⟩; have hblk := (hb1.block w.heap.size (by simp)).trans (heap_alloc_new w _); obtain ⟨hcl, hfr⟩ := bcell hb1; have HB := Lib.hid hblk; clear hblk; have HB1 := Lib.hid hb1; clear hb1))
          rw [HA.out]
          exact ret_sc4 (t := ⟨2, 0, nval s.data.toList, []⟩) (n := k) (no := 0) rfl rfl rfl rfl rfl HB.out rfl ⟨rfl, below_set4 (((Below.refl _ w).alloc (Nat.le_refl _) _).trans (HB1.out.mono (by simp))) (Nat.le_refl _)⟩
end Go.Proofs.YtfaoiajhoifalaaGreatDoor
