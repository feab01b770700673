/-
  Walks of layer lex: the document's answer: a number.
-/
import Derived.Test.YtpmljgnnfljjpaaDoorLexu
import Derived.Test.YtpmljgnnfljjpaaDoorLexo
namespace Go.Proofs.YtpmljgnnfljjpaaDoor
open Go.RowKit
set_option linter.unusedVariables false
set_option linter.unusedSimpArgs false

theorem results_one {fn : Func} {b : Nat} {t : Tok} (h : fn.results = #[.cell 4 tE, .tmp 5, .tmp 6]) (tmps : Array Value) (w : World)
    (hp : tmps.getD 4 undef = .pointer (some ⟨b, 0, none⟩)) (hb : Blk w b tE (cells1 t).toArray) :
    (results fn tmps).run Tryd.prog w = .ok (.tuple #[tokV t, tmps.getD 5 undef, tmps.getD 6 undef]) w := by
  obtain ⟨d, hu, hr⟩ := tokU
  have hc : w.rangeAt b 0 (cells1 t) := by
    intro j v hv
    rw [Nat.zero_add, hb.cell]
    simpa using hv
  have hl := run_loadVar_mid (P := Tryd.prog) w b 0 tE (cells1 t) d hc hu hr tokInfo
  simp only [results, h]
  simp [Sem.run_bind, Result.andThen]
  rw [show tmps[4]?.getD undef = .pointer (some ⟨b, 0, none⟩) from by simpa using hp]
  simp [asAddr, hl]
  rfl

theorem ret_one {fn : Func} {R : Ending → World → Prop} {a : Act} {w : World} {b : Nat} {t : Tok} {n no : Int} (hf : fn.results = #[.cell 4 tE, .tmp 5, .tmp 6]) (hd : a.defers = [])
    (h4 : a.tmps.getD 4 undef = .pointer (some ⟨b, 0, none⟩)) (h5 : a.tmps.getD 5 undef = .int .i64 n) (h6 : a.tmps.getD 6 undef = .int .i64 no)
    (hb : Blk w b tE (cells1 t).toArray) (hR : R (.returned (.tuple #[tokV t, .int .i64 n, .int .i64 no])) w) : bodyPost Tryd.prog fn R .ret a w := by
  refine bodyPost_ret (v := .tuple #[tokV t, .int .i64 n, .int .i64 no]) ?_ hd hR
  rw [results_one hf a.tmps w h4 hb, h5, h6]

/-- What the document's answer for one token hands back. -/
def OnePost (x : Sc) (a : Nat) (w : World) (e : Ending) (w' : World) : Prop :=
  ∃ (t : Tok) (n : Int), e = .returned (.tuple #[tokV t, .int .i64 n, .int .i64 x.2.2]) ∧ Below w.heap.size w w' ∧ (x.2.2 = 0 → t = x.1.to a ∧ n = ((a + x.2.1 : Nat) : Int))

theorem blk2 (w : World) (t : Tok) (o : Obj) : Blk ((w.alloc (.cells (cells1 t).toArray tE)).alloc o) w.heap.size tE (cells1 t).toArray := (Blk.new w tE _).alloc o
theorem bel2 (w : World) (o o' : Obj) : Below w.heap.size w ((w.alloc o).alloc o') := ((Below.refl _ w).alloc (Nat.le_refl _) o).alloc (by simp) o'

/-- How far the value of the digits has come. -/
def VR (g : Bool) (v : Int) (n : Nat) : Prop := 0 ≤ v ∧ v ≤ 9223372036854775807 ∧ (g = false → v = (n : Int)) ∧ (g = true → 9223372036854775807 < n)

theorem VR.zero : VR false 0 0 := ⟨by omega, by omega, fun _ => rfl, fun h => by cases h⟩
theorem VR.gone {v : Int} {n : Nat} (h : VR true v n) (d : Nat) : VR true v (n * 10 + d) := by
  obtain ⟨h1, h2, h3, h4⟩ := h
  exact ⟨h1, h2, fun h => (by cases h), fun _ => by have := h4 rfl; omega⟩
theorem VR.over {v : Int} {n : Nat} (h : VR false v n) {d : Int} {dn : Nat} (hd : d = (dn : Int)) (hd9 : dn ≤ 9) (ho : (9223372036854775807 - d) / 10 < v) : VR true v (n * 10 + dn) := by
  obtain ⟨h1, h2, h3, h4⟩ := h
  refine ⟨h1, h2, fun h => (by cases h), fun _ => ?_⟩
  have := h3 rfl
  omega
theorem VR.more {v : Int} {n : Nat} (h : VR false v n) {d : Int} {dn : Nat} (hd : d = (dn : Int)) (hd9 : dn ≤ 9) (ho : v ≤ (9223372036854775807 - d) / 10) : VR false (10 * v + d) (n * 10 + dn) ∧ 10 * v + d ≤ 9223372036854775807 := by
  obtain ⟨h1, h2, h3, h4⟩ := h
  have := h3 rfl
  have h5 : 10 * v + d ≤ 9223372036854775807 := by omega
  refine ⟨⟨by omega, h5, fun _ => by omega, fun h => by cases h⟩, h5⟩

theorem dv_upto {s : ByteArray} {a k : Nat} (h1 : a ≤ k) (h : k < s.size) : dv 0 ((s.data.toList.drop a).take (k + 1 - a)) = dv 0 ((s.data.toList.drop a).take (k - a)) * 10 + (s[k].toNat - 48) := by
  have hl : k - a < (s.data.toList.drop a).length := by rw [List.length_drop, ← Lib.size_eq]; omega
  have e : k + 1 - a = k - a + 1 := by omega
  rw [e, List.take_succ_eq_append_getElem hl, dv_snoc, List.getElem_drop]
  have e2 : a + (k - a) = k := by omega
  simp only [e2]
  rfl

set_option maxHeartbeats 8000000 in
set_option maxRecDepth 100000 in
theorem rnumber_any (s : ByteArray) (a : Nat) (hs : s.size ≤ 1048576) (ha : a < s.size) (h0 : 1 ≤ len isD (s.data.toList.drop a)) (w : World) :
    Calls Tryd.prog 35 #[.string s, .int .i64 a] w (OnePost (scNum (s.data.toList.drop a)) a w) := by
  have hl := len_le isD (s.data.toList.drop a)
  rw [List.length_drop, ← Lib.size_eq] at hl
  have HIN := Lib.hid (fun k h1 h2 h => in_len (f := isD) (s := s) (b := a) (k := k) h1 h2 h)
  have HAT := Lib.hid (fun h => at_len (f := isD) (s := s) (b := a) h)
  have hz := hd_at (fun c => decide (c.toNat = 48)) s a ha
  have HZ := Lib.hid hz
  clear hz
  obtain ⟨K, hK⟩ : ∃ K, len isD (s.data.toList.drop a) = K := ⟨_, rfl⟩
  rw [hK] at hl h0 HIN HAT
  have HKK := Lib.hid hK
  clear hK
  go_enter Tryd.func35, Tryd.ntmps35
  go_wp2
  go_loop [7, 8, 9] (fun v7 v8 v9 => ∃ (k : Nat) (v : Int) (g : Bool), a ≤ k ∧ k ≤ a + K ∧ v7 = .int .i64 k ∧ v8 = .int .i64 v ∧ v9 = .bool g ∧ VR g v (dv 0 ((s.data.toList.drop a).take (k - a)))) (fun v7 _ _ => s.size - (intOf v7).toNat)
  case atStart => exact ⟨a, 0, false, Nat.le_refl _, by omega, rfl, rfl, rfl, by rw [Nat.sub_self, List.take_zero, dv_nil]; exact VR.zero⟩
  case round =>
    obtain ⟨k, v, g, hak, hk, rfl, rfl, rfl, hvr⟩ := hrel
    have hv0 := hvr.1
    have hv1 := hvr.2.1
    have HV := Lib.hid hvr
    clear hvr
    by_cases hlt : k < s.size
    · by_cases hkK : k < a + K
      · have hc := HIN.out k hak hkK hlt
        have hc2 := hc
        simp only [isD, Bool.and_eq_true, decide_eq_true_eq] at hc2
        obtain ⟨hc48, hc57⟩ := hc2
        have HDV := Lib.hid (dv_upto (s := s) (a := a) hak hlt)
        have hI1 : (48 : Int) ≤ (s[k].toNat : Int) := by omega
        have hI2 : (s[k].toNat : Int) ≤ 57 := by omega
        obtain ⟨d, hd⟩ : ∃ d : Int, (s[k].toNat : Int) - 48 = d := ⟨_, rfl⟩
        have hd0 : 0 ≤ d := by omega
        have hd9 : d ≤ 9 := by omega
        have hdn : d = ((s[k].toNat - 48 : Nat) : Int) := by omega
        have HD := Lib.hid hdn
        have HD9 := Lib.hid (show s[k].toNat - 48 ≤ 9 by omega)
        clear hdn
        cases g
        · by_cases ho : (9223372036854775807 - d) / 10 < v
          · have hdec : decide ((9223372036854775807 - d) / 10 < v) = true := by simpa using ho
            have HR := Lib.hid (HV.out.over HD.out HD9.out ho)
            clear ho
            go_wp2_with (go_at_call 34; refine (rDigit_any _ _).mono ?_; rw [hc]; rintro e w1 ⟨rfl, rfl⟩)
            go_round
            case rel => exact ⟨k + 1, v, true, by omega, by omega, by go_num, rfl, rfl, by rw [HDV.out]; exact HR.out⟩
            case measure => simp [intOf]; omega
          · have hdec : decide ((9223372036854775807 - d) / 10 < v) = false := by simpa using ho
            have hm := HV.out.more HD.out HD9.out (by omega)
            have hm2 := hm.2
            have HR := Lib.hid hm.1
            clear ho hm
            go_wp2_with (go_at_call 34; refine (rDigit_any _ _).mono ?_; rw [hc]; rintro e w1 ⟨rfl, rfl⟩)
            go_round
            case rel => exact ⟨k + 1, 10 * v + d, false, by omega, by omega, by go_num, rfl, rfl, by rw [HDV.out]; exact HR.out⟩
            case measure => simp [intOf]; omega
        · have HR := Lib.hid (HV.out.gone (s[k].toNat - 48))
          go_wp2_with (go_at_call 34; refine (rDigit_any _ _).mono ?_; rw [hc]; rintro e w1 ⟨rfl, rfl⟩)
          go_round
          case rel => exact ⟨k + 1, v, true, by omega, by omega, by go_num, rfl, rfl, by rw [HDV.out]; exact HR.out⟩
          case measure => simp [intOf]; omega
      · have hke : k = a + K := by omega
        have hc : isD s[k] = false := by subst hke; exact HAT.out hlt
        have HKE := Lib.hid hke
        have h76 : lng (s.data.toList.drop a) = decide (s[k].toNat = 76) := by rw [lng, HKK.out, List.drop_drop, ← hke, hd_at _ s k hlt]
        have hvv : VR g v (nval (s.data.toList.drop a)) := by have := HV.out; rw [hke, Nat.add_sub_cancel_left] at this; rw [nval, HKK.out]; exact this
        have HVV := Lib.hid hvv
        clear hvv HV hke
        by_cases h7 : s[k].toNat = 76
        · have t7 : ((s[k].toNat : Int) == 76) = true := by simp [h7]
          have HL := Lib.hid (show lng (s.data.toList.drop a) = true by rw [h76]; simp [h7])
          have HN := Lib.hid (show nsz (s.data.toList.drop a) = K + 1 by rw [nsz, HL.out, HKK.out]; rfl)
          have HDR := Lib.hid (show (s.data.toList.drop a).drop (K + 1) = s.data.toList.drop (k + 1) by rw [List.drop_drop, HKE.out]; rfl)
          clear h76 h7
          by_cases hlt2 : k + 1 < s.size
          · skip
            by_cases hz48 : s[a].toNat = 48
            · have t0 : ((s[a].toNat : Int) == 48) = true := by simp [hz48]
              by_cases hk2 : 1 < K
              · have hk3 : decide (((a : Int) + 1) < (k : Int)) = true := by rw [HKE.out]; simp; omega
                have hF : nform (s.data.toList.drop a) = true := by rw [nform, HKK.out, HZ.out]; simp [hk2, hz48]
                have e : scNum (s.data.toList.drop a) = (tk0, 0, 2) := by rw [scNum, if_pos hF]
                have HA := Lib.hid e
                clear e hF
                go_wp2_with (first | (go_at_call 34; refine (rDigit_any _ _).mono ?_; (first | rw [hc]); rintro e w1 ⟨rfl, rfl⟩))
                rw [HA.out]
                exact ret_one (t := ⟨2, a, 0, [76]⟩) (n := ((k : Int) + 1)) (no := 2) rfl rfl rfl rfl rfl (blk2 w ⟨2, a, 0, [76]⟩ _) ⟨_, _, rfl, bel2 w _ _, fun h => by cases h⟩
              · have hk3 : decide (((a : Int) + 1) < (k : Int)) = false := by rw [HKE.out]; simp; omega
                cases hLt : isL s[k + 1]
                · cases hDg : isD s[k + 1]
                  · have HP := Lib.hid (show hd isN ((s.data.toList.drop a).drop (nsz (s.data.toList.drop a))) = false by rw [HN.out, HDR.out, hd_at _ s (k + 1) (by omega), isN, hLt, hDg]; rfl)
                    have hF : nform (s.data.toList.drop a) = false := by rw [nform, HKK.out, HP.out]; simp [hk2]
                    have hM : nmax (s.data.toList.drop a) = 9223372036854775807 := by rw [nmax, HL.out]; rfl
                    have hmk : nmark (s.data.toList.drop a) = [76] := by rw [nmark, HL.out]; rfl
                    have HF := Lib.hid hF
                    have HMX := Lib.hid hM
                    have HMK := Lib.hid hmk
                    clear hF hM hmk
                    cases g
                    · have e : scNum (s.data.toList.drop a) = (⟨2, 0, nval (s.data.toList.drop a), [76]⟩, (K + 1), 0) := by rw [scNum, HF.out, if_neg (by simp), if_neg (by rw [HMX.out]; have := HVV.out.2.2.1 rfl; omega), HMK.out, HN.out]
                      have HA := Lib.hid e
                      clear e
                      go_wp2_with (first | (go_at_call 34; refine (rDigit_any _ _).mono ?_; (first | rw [hc] | rw [hDg]); rintro e w1 ⟨rfl, rfl⟩) | (go_at_call 33; refine (rLetter_any _ _).mono ?_; rw [hLt]; rintro e w1 ⟨rfl, rfl⟩))
                      rw [HA.out]
                      refine ret_one (t := ⟨2, a, v, [76]⟩) (n := ((k : Int) + 1)) (no := 0) rfl rfl rfl rfl rfl (blk2 w ⟨2, a, v, [76]⟩ _) ⟨_, _, rfl, bel2 w _ _, fun _ => ⟨?_, ?_⟩⟩
                      · rw [HVV.out.2.2.1 rfl]; rfl
                      · show ((k : Int) + 1) = ((a + (K + 1) : Nat) : Int)
                        have := HKE.out
                        omega
                    · have e : scNum (s.data.toList.drop a) = (tk0, 0, 11) := by rw [scNum, HF.out, if_neg (by simp), if_pos (by rw [HMX.out]; have := HVV.out.2.2.2 rfl; omega)]
                      have HA := Lib.hid e
                      clear e
                      go_wp2_with (first | (go_at_call 34; refine (rDigit_any _ _).mono ?_; (first | rw [hc] | rw [hDg]); rintro e w1 ⟨rfl, rfl⟩) | (go_at_call 33; refine (rLetter_any _ _).mono ?_; rw [hLt]; rintro e w1 ⟨rfl, rfl⟩))
                      rw [HA.out]
                      exact ret_one (t := ⟨2, a, 0, [76]⟩) (n := ((k : Int) + 1)) (no := 11) rfl rfl rfl rfl rfl (blk2 w ⟨2, a, 0, [76]⟩ _) ⟨_, _, rfl, bel2 w _ _, fun h => by cases h⟩
                  · have HP := Lib.hid (show hd isN ((s.data.toList.drop a).drop (nsz (s.data.toList.drop a))) = true by rw [HN.out, HDR.out, hd_at _ s (k + 1) (by omega), isN, hLt, hDg]; rfl)
                    have hF : nform (s.data.toList.drop a) = true := by rw [nform, HP.out]; simp
                    have e : scNum (s.data.toList.drop a) = (tk0, 0, 2) := by rw [scNum, if_pos hF]
                    have HA := Lib.hid e
                    clear e hF
                    go_wp2_with (first | (go_at_call 34; refine (rDigit_any _ _).mono ?_; (first | rw [hc] | rw [hDg]); rintro e w1 ⟨rfl, rfl⟩) | (go_at_call 33; refine (rLetter_any _ _).mono ?_; rw [hLt]; rintro e w1 ⟨rfl, rfl⟩))
                    rw [HA.out]
                    exact ret_one (t := ⟨2, a, 0, [76]⟩) (n := ((k : Int) + 1)) (no := 2) rfl rfl rfl rfl rfl (blk2 w ⟨2, a, 0, [76]⟩ _) ⟨_, _, rfl, bel2 w _ _, fun h => by cases h⟩
                · have HP := Lib.hid (show hd isN ((s.data.toList.drop a).drop (nsz (s.data.toList.drop a))) = true by rw [HN.out, HDR.out, hd_at _ s (k + 1) (by omega), isN, hLt]; rfl)
                  have hF : nform (s.data.toList.drop a) = true := by rw [nform, HP.out]; simp
                  have e : scNum (s.data.toList.drop a) = (tk0, 0, 2) := by rw [scNum, if_pos hF]
                  have HA := Lib.hid e
                  clear e hF
                  go_wp2_with (first | (go_at_call 34; refine (rDigit_any _ _).mono ?_; (first | rw [hc]); rintro e w1 ⟨rfl, rfl⟩) | (go_at_call 33; refine (rLetter_any _ _).mono ?_; rw [hLt]; rintro e w1 ⟨rfl, rfl⟩))
                  rw [HA.out]
                  exact ret_one (t := ⟨2, a, 0, [76]⟩) (n := ((k : Int) + 1)) (no := 2) rfl rfl rfl rfl rfl (blk2 w ⟨2, a, 0, [76]⟩ _) ⟨_, _, rfl, bel2 w _ _, fun h => by cases h⟩
            · have t0 : ((s[a].toNat : Int) == 48) = false := by simp; omega
              cases hLt : isL s[k + 1]
              · cases hDg : isD s[k + 1]
                · have HP := Lib.hid (show hd isN ((s.data.toList.drop a).drop (nsz (s.data.toList.drop a))) = false by rw [HN.out, HDR.out, hd_at _ s (k + 1) (by omega), isN, hLt, hDg]; rfl)
                  have hF : nform (s.data.toList.drop a) = false := by rw [nform, HKK.out, HZ.out, HP.out]; simp [hz48]
                  have hM : nmax (s.data.toList.drop a) = 9223372036854775807 := by rw [nmax, HL.out]; rfl
                  have hmk : nmark (s.data.toList.drop a) = [76] := by rw [nmark, HL.out]; rfl
                  have HF := Lib.hid hF
                  have HMX := Lib.hid hM
                  have HMK := Lib.hid hmk
                  clear hF hM hmk
                  cases g
                  · have e : scNum (s.data.toList.drop a) = (⟨2, 0, nval (s.data.toList.drop a), [76]⟩, (K + 1), 0) := by rw [scNum, HF.out, if_neg (by simp), if_neg (by rw [HMX.out]; have := HVV.out.2.2.1 rfl; omega), HMK.out, HN.out]
                    have HA := Lib.hid e
                    clear e
                    go_wp2_with (first | (go_at_call 34; refine (rDigit_any _ _).mono ?_; (first | rw [hc] | rw [hDg]); rintro e w1 ⟨rfl, rfl⟩) | (go_at_call 33; refine (rLetter_any _ _).mono ?_; rw [hLt]; rintro e w1 ⟨rfl, rfl⟩))
                    rw [HA.out]
                    refine ret_one (t := ⟨2, a, v, [76]⟩) (n := ((k : Int) + 1)) (no := 0) rfl rfl rfl rfl rfl (blk2 w ⟨2, a, v, [76]⟩ _) ⟨_, _, rfl, bel2 w _ _, fun _ => ⟨?_, ?_⟩⟩
                    · rw [HVV.out.2.2.1 rfl]; rfl
                    · show ((k : Int) + 1) = ((a + (K + 1) : Nat) : Int)
                      have := HKE.out
                      omega
                  · have e : scNum (s.data.toList.drop a) = (tk0, 0, 11) := by rw [scNum, HF.out, if_neg (by simp), if_pos (by rw [HMX.out]; have := HVV.out.2.2.2 rfl; omega)]
                    have HA := Lib.hid e
                    clear e
                    go_wp2_with (first | (go_at_call 34; refine (rDigit_any _ _).mono ?_; (first | rw [hc] | rw [hDg]); rintro e w1 ⟨rfl, rfl⟩) | (go_at_call 33; refine (rLetter_any _ _).mono ?_; rw [hLt]; rintro e w1 ⟨rfl, rfl⟩))
                    rw [HA.out]
                    exact ret_one (t := ⟨2, a, 0, [76]⟩) (n := ((k : Int) + 1)) (no := 11) rfl rfl rfl rfl rfl (blk2 w ⟨2, a, 0, [76]⟩ _) ⟨_, _, rfl, bel2 w _ _, fun h => by cases h⟩
                · have HP := Lib.hid (show hd isN ((s.data.toList.drop a).drop (nsz (s.data.toList.drop a))) = true by rw [HN.out, HDR.out, hd_at _ s (k + 1) (by omega), isN, hLt, hDg]; rfl)
                  have hF : nform (s.data.toList.drop a) = true := by rw [nform, HP.out]; simp
                  have e : scNum (s.data.toList.drop a) = (tk0, 0, 2) := by rw [scNum, if_pos hF]
                  have HA := Lib.hid e
                  clear e hF
                  go_wp2_with (first | (go_at_call 34; refine (rDigit_any _ _).mono ?_; (first | rw [hc] | rw [hDg]); rintro e w1 ⟨rfl, rfl⟩) | (go_at_call 33; refine (rLetter_any _ _).mono ?_; rw [hLt]; rintro e w1 ⟨rfl, rfl⟩))
                  rw [HA.out]
                  exact ret_one (t := ⟨2, a, 0, [76]⟩) (n := ((k : Int) + 1)) (no := 2) rfl rfl rfl rfl rfl (blk2 w ⟨2, a, 0, [76]⟩ _) ⟨_, _, rfl, bel2 w _ _, fun h => by cases h⟩
              · have HP := Lib.hid (show hd isN ((s.data.toList.drop a).drop (nsz (s.data.toList.drop a))) = true by rw [HN.out, HDR.out, hd_at _ s (k + 1) (by omega), isN, hLt]; rfl)
                have hF : nform (s.data.toList.drop a) = true := by rw [nform, HP.out]; simp
                have e : scNum (s.data.toList.drop a) = (tk0, 0, 2) := by rw [scNum, if_pos hF]
                have HA := Lib.hid e
                clear e hF
                go_wp2_with (first | (go_at_call 34; refine (rDigit_any _ _).mono ?_; (first | rw [hc]); rintro e w1 ⟨rfl, rfl⟩) | (go_at_call 33; refine (rLetter_any _ _).mono ?_; rw [hLt]; rintro e w1 ⟨rfl, rfl⟩))
                rw [HA.out]
                exact ret_one (t := ⟨2, a, 0, [76]⟩) (n := ((k : Int) + 1)) (no := 2) rfl rfl rfl rfl rfl (blk2 w ⟨2, a, 0, [76]⟩ _) ⟨_, _, rfl, bel2 w _ _, fun h => by cases h⟩
          · have HP := Lib.hid (show hd isN ((s.data.toList.drop a).drop (nsz (s.data.toList.drop a))) = false by rw [HN.out, HDR.out, hd_end _ s (k + 1) (by omega)])
            by_cases hz48 : s[a].toNat = 48
            · have t0 : ((s[a].toNat : Int) == 48) = true := by simp [hz48]
              by_cases hk2 : 1 < K
              · have hk3 : decide (((a : Int) + 1) < (k : Int)) = true := by rw [HKE.out]; simp; omega
                have hF : nform (s.data.toList.drop a) = true := by rw [nform, HKK.out, HZ.out]; simp [hk2, hz48]
                have e : scNum (s.data.toList.drop a) = (tk0, 0, 2) := by rw [scNum, if_pos hF]
                have HA := Lib.hid e
                clear e hF
                go_wp2_with (first | (go_at_call 34; refine (rDigit_any _ _).mono ?_; (first | rw [hc]); rintro e w1 ⟨rfl, rfl⟩))
                rw [HA.out]
                exact ret_one (t := ⟨2, a, 0, [76]⟩) (n := ((k : Int) + 1)) (no := 2) rfl rfl rfl rfl rfl (blk2 w ⟨2, a, 0, [76]⟩ _) ⟨_, _, rfl, bel2 w _ _, fun h => by cases h⟩
              · have hk3 : decide (((a : Int) + 1) < (k : Int)) = false := by rw [HKE.out]; simp; omega
                have hF : nform (s.data.toList.drop a) = false := by rw [nform, HKK.out, HP.out]; simp [hk2]
                have hM : nmax (s.data.toList.drop a) = 9223372036854775807 := by rw [nmax, HL.out]; rfl
                have hmk : nmark (s.data.toList.drop a) = [76] := by rw [nmark, HL.out]; rfl
                have HF := Lib.hid hF
                have HMX := Lib.hid hM
                have HMK := Lib.hid hmk
                clear hF hM hmk
                cases g
                · have e : scNum (s.data.toList.drop a) = (⟨2, 0, nval (s.data.toList.drop a), [76]⟩, (K + 1), 0) := by rw [scNum, HF.out, if_neg (by simp), if_neg (by rw [HMX.out]; have := HVV.out.2.2.1 rfl; omega), HMK.out, HN.out]
                  have HA := Lib.hid e
                  clear e
                  go_wp2_with (first | (go_at_call 34; refine (rDigit_any _ _).mono ?_; (first | rw [hc]); rintro e w1 ⟨rfl, rfl⟩))
                  rw [HA.out]
                  refine ret_one (t := ⟨2, a, v, [76]⟩) (n := ((k : Int) + 1)) (no := 0) rfl rfl rfl rfl rfl (blk2 w ⟨2, a, v, [76]⟩ _) ⟨_, _, rfl, bel2 w _ _, fun _ => ⟨?_, ?_⟩⟩
                  · rw [HVV.out.2.2.1 rfl]; rfl
                  · show ((k : Int) + 1) = ((a + (K + 1) : Nat) : Int)
                    have := HKE.out
                    omega
                · have e : scNum (s.data.toList.drop a) = (tk0, 0, 11) := by rw [scNum, HF.out, if_neg (by simp), if_pos (by rw [HMX.out]; have := HVV.out.2.2.2 rfl; omega)]
                  have HA := Lib.hid e
                  clear e
                  go_wp2_with (first | (go_at_call 34; refine (rDigit_any _ _).mono ?_; (first | rw [hc]); rintro e w1 ⟨rfl, rfl⟩))
                  rw [HA.out]
                  exact ret_one (t := ⟨2, a, 0, [76]⟩) (n := ((k : Int) + 1)) (no := 11) rfl rfl rfl rfl rfl (blk2 w ⟨2, a, 0, [76]⟩ _) ⟨_, _, rfl, bel2 w _ _, fun h => by cases h⟩
            · have t0 : ((s[a].toNat : Int) == 48) = false := by simp; omega
              have hF : nform (s.data.toList.drop a) = false := by rw [nform, HKK.out, HZ.out, HP.out]; simp [hz48]
              have hM : nmax (s.data.toList.drop a) = 9223372036854775807 := by rw [nmax, HL.out]; rfl
              have hmk : nmark (s.data.toList.drop a) = [76] := by rw [nmark, HL.out]; rfl
              have HF := Lib.hid hF
              have HMX := Lib.hid hM
              have HMK := Lib.hid hmk
              clear hF hM hmk
              cases g
              · have e : scNum (s.data.toList.drop a) = (⟨2, 0, nval (s.data.toList.drop a), [76]⟩, (K + 1), 0) := by rw [scNum, HF.out, if_neg (by simp), if_neg (by rw [HMX.out]; have := HVV.out.2.2.1 rfl; omega), HMK.out, HN.out]
                have HA := Lib.hid e
                clear e
                go_wp2_with (first | (go_at_call 34; refine (rDigit_any _ _).mono ?_; (first | rw [hc]); rintro e w1 ⟨rfl, rfl⟩))
                rw [HA.out]
                refine ret_one (t := ⟨2, a, v, [76]⟩) (n := ((k : Int) + 1)) (no := 0) rfl rfl rfl rfl rfl (blk2 w ⟨2, a, v, [76]⟩ _) ⟨_, _, rfl, bel2 w _ _, fun _ => ⟨?_, ?_⟩⟩
                · rw [HVV.out.2.2.1 rfl]; rfl
                · show ((k : Int) + 1) = ((a + (K + 1) : Nat) : Int)
                  have := HKE.out
                  omega
              · have e : scNum (s.data.toList.drop a) = (tk0, 0, 11) := by rw [scNum, HF.out, if_neg (by simp), if_pos (by rw [HMX.out]; have := HVV.out.2.2.2 rfl; omega)]
                have HA := Lib.hid e
                clear e
                go_wp2_with (first | (go_at_call 34; refine (rDigit_any _ _).mono ?_; (first | rw [hc]); rintro e w1 ⟨rfl, rfl⟩))
                rw [HA.out]
                exact ret_one (t := ⟨2, a, 0, [76]⟩) (n := ((k : Int) + 1)) (no := 11) rfl rfl rfl rfl rfl (blk2 w ⟨2, a, 0, [76]⟩ _) ⟨_, _, rfl, bel2 w _ _, fun h => by cases h⟩
        · have t7 : ((s[k].toNat : Int) == 76) = false := by simp; omega
          have HL := Lib.hid (show lng (s.data.toList.drop a) = false by rw [h76]; simp [h7])
          have HN := Lib.hid (show nsz (s.data.toList.drop a) = K by rw [nsz, HL.out, HKK.out]; rfl)
          have HDR := Lib.hid (show (s.data.toList.drop a).drop K = s.data.toList.drop k by rw [List.drop_drop, HKE.out])
          clear h76 h7
          by_cases hz48 : s[a].toNat = 48
          · have t0 : ((s[a].toNat : Int) == 48) = true := by simp [hz48]
            by_cases hk2 : 1 < K
            · have hk3 : decide (((a : Int) + 1) < (k : Int)) = true := by rw [HKE.out]; simp; omega
              have hF : nform (s.data.toList.drop a) = true := by rw [nform, HKK.out, HZ.out]; simp [hk2, hz48]
              have e : scNum (s.data.toList.drop a) = (tk0, 0, 2) := by rw [scNum, if_pos hF]
              have HA := Lib.hid e
              clear e hF
              go_wp2_with (first | (go_at_call 34; refine (rDigit_any _ _).mono ?_; (first | rw [hc]); rintro e w1 ⟨rfl, rfl⟩))
              rw [HA.out]
              exact ret_one (t := ⟨2, a, 0, []⟩) (n := (k : Int)) (no := 2) rfl rfl rfl rfl rfl (blk2 w ⟨2, a, 0, []⟩ _) ⟨_, _, rfl, bel2 w _ _, fun h => by cases h⟩
            · have hk3 : decide (((a : Int) + 1) < (k : Int)) = false := by rw [HKE.out]; simp; omega
              cases hLt : isL s[k]
              · have HP := Lib.hid (show hd isN ((s.data.toList.drop a).drop (nsz (s.data.toList.drop a))) = false by rw [HN.out, HDR.out, hd_at _ s (k) (by omega), isN, hLt, hc]; rfl)
                have hF : nform (s.data.toList.drop a) = false := by rw [nform, HKK.out, HP.out]; simp [hk2]
                have hM : nmax (s.data.toList.drop a) = 2147483647 := by rw [nmax, HL.out]; rfl
                have hmk : nmark (s.data.toList.drop a) = [] := by rw [nmark, HL.out]; rfl
                have HF := Lib.hid hF
                have HMX := Lib.hid hM
                have HMK := Lib.hid hmk
                clear hF hM hmk
                cases g
                · by_cases hv31 : 2147483647 < v
                  · have hdec : decide ((2147483647 : Int) < v) = true := by simpa using hv31
                    have e : scNum (s.data.toList.drop a) = (tk0, 0, 11) := by rw [scNum, HF.out, if_neg (by simp), if_pos (by rw [HMX.out]; have := HVV.out.2.2.1 rfl; omega)]
                    have HA := Lib.hid e
                    clear e
                    go_wp2_with (first | (go_at_call 34; refine (rDigit_any _ _).mono ?_; (first | rw [hc]); rintro e w1 ⟨rfl, rfl⟩) | (go_at_call 33; refine (rLetter_any _ _).mono ?_; rw [hLt]; rintro e w1 ⟨rfl, rfl⟩))
                    rw [HA.out]
                    exact ret_one (t := ⟨2, a, 0, []⟩) (n := (k : Int)) (no := 11) rfl rfl rfl rfl rfl (blk2 w ⟨2, a, 0, []⟩ _) ⟨_, _, rfl, bel2 w _ _, fun h => by cases h⟩
                  · have hdec : decide ((2147483647 : Int) < v) = false := by simpa using hv31
                    have e : scNum (s.data.toList.drop a) = (⟨2, 0, nval (s.data.toList.drop a), []⟩, K, 0) := by rw [scNum, HF.out, if_neg (by simp), if_neg (by rw [HMX.out]; have := HVV.out.2.2.1 rfl; omega), HMK.out, HN.out]
                    have HA := Lib.hid e
                    clear e
                    go_wp2_with (first | (go_at_call 34; refine (rDigit_any _ _).mono ?_; (first | rw [hc]); rintro e w1 ⟨rfl, rfl⟩) | (go_at_call 33; refine (rLetter_any _ _).mono ?_; rw [hLt]; rintro e w1 ⟨rfl, rfl⟩))
                    rw [HA.out]
                    refine ret_one (t := ⟨2, a, v, []⟩) (n := (k : Int)) (no := 0) rfl rfl rfl rfl rfl (blk2 w ⟨2, a, v, []⟩ _) ⟨_, _, rfl, bel2 w _ _, fun _ => ⟨?_, ?_⟩⟩
                    · rw [HVV.out.2.2.1 rfl]; rfl
                    · show (k : Int) = ((a + K : Nat) : Int)
                      have := HKE.out
                      omega
                · have e : scNum (s.data.toList.drop a) = (tk0, 0, 11) := by rw [scNum, HF.out, if_neg (by simp), if_pos (by rw [HMX.out]; have := HVV.out.2.2.2 rfl; omega)]
                  have HA := Lib.hid e
                  clear e
                  go_wp2_with (first | (go_at_call 34; refine (rDigit_any _ _).mono ?_; (first | rw [hc]); rintro e w1 ⟨rfl, rfl⟩) | (go_at_call 33; refine (rLetter_any _ _).mono ?_; rw [hLt]; rintro e w1 ⟨rfl, rfl⟩))
                  rw [HA.out]
                  exact ret_one (t := ⟨2, a, 0, []⟩) (n := (k : Int)) (no := 11) rfl rfl rfl rfl rfl (blk2 w ⟨2, a, 0, []⟩ _) ⟨_, _, rfl, bel2 w _ _, fun h => by cases h⟩
              · have HP := Lib.hid (show hd isN ((s.data.toList.drop a).drop (nsz (s.data.toList.drop a))) = true by rw [HN.out, HDR.out, hd_at _ s (k) (by omega), isN, hLt]; rfl)
                have hF : nform (s.data.toList.drop a) = true := by rw [nform, HP.out]; simp
                have e : scNum (s.data.toList.drop a) = (tk0, 0, 2) := by rw [scNum, if_pos hF]
                have HA := Lib.hid e
                clear e hF
                go_wp2_with (first | (go_at_call 34; refine (rDigit_any _ _).mono ?_; (first | rw [hc]); rintro e w1 ⟨rfl, rfl⟩) | (go_at_call 33; refine (rLetter_any _ _).mono ?_; rw [hLt]; rintro e w1 ⟨rfl, rfl⟩))
                rw [HA.out]
                exact ret_one (t := ⟨2, a, 0, []⟩) (n := (k : Int)) (no := 2) rfl rfl rfl rfl rfl (blk2 w ⟨2, a, 0, []⟩ _) ⟨_, _, rfl, bel2 w _ _, fun h => by cases h⟩
          · have t0 : ((s[a].toNat : Int) == 48) = false := by simp; omega
            cases hLt : isL s[k]
            · have HP := Lib.hid (show hd isN ((s.data.toList.drop a).drop (nsz (s.data.toList.drop a))) = false by rw [HN.out, HDR.out, hd_at _ s (k) (by omega), isN, hLt, hc]; rfl)
              have hF : nform (s.data.toList.drop a) = false := by rw [nform, HKK.out, HZ.out, HP.out]; simp [hz48]
              have hM : nmax (s.data.toList.drop a) = 2147483647 := by rw [nmax, HL.out]; rfl
              have hmk : nmark (s.data.toList.drop a) = [] := by rw [nmark, HL.out]; rfl
              have HF := Lib.hid hF
              have HMX := Lib.hid hM
              have HMK := Lib.hid hmk
              clear hF hM hmk
              cases g
              · by_cases hv31 : 2147483647 < v
                · have hdec : decide ((2147483647 : Int) < v) = true := by simpa using hv31
                  have e : scNum (s.data.toList.drop a) = (tk0, 0, 11) := by rw [scNum, HF.out, if_neg (by simp), if_pos (by rw [HMX.out]; have := HVV.out.2.2.1 rfl; omega)]
                  have HA := Lib.hid e
                  clear e
                  go_wp2_with (first | (go_at_call 34; refine (rDigit_any _ _).mono ?_; (first | rw [hc]); rintro e w1 ⟨rfl, rfl⟩) | (go_at_call 33; refine (rLetter_any _ _).mono ?_; rw [hLt]; rintro e w1 ⟨rfl, rfl⟩))
                  rw [HA.out]
                  exact ret_one (t := ⟨2, a, 0, []⟩) (n := (k : Int)) (no := 11) rfl rfl rfl rfl rfl (blk2 w ⟨2, a, 0, []⟩ _) ⟨_, _, rfl, bel2 w _ _, fun h => by cases h⟩
                · have hdec : decide ((2147483647 : Int) < v) = false := by simpa using hv31
                  have e : scNum (s.data.toList.drop a) = (⟨2, 0, nval (s.data.toList.drop a), []⟩, K, 0) := by rw [scNum, HF.out, if_neg (by simp), if_neg (by rw [HMX.out]; have := HVV.out.2.2.1 rfl; omega), HMK.out, HN.out]
                  have HA := Lib.hid e
                  clear e
                  go_wp2_with (first | (go_at_call 34; refine (rDigit_any _ _).mono ?_; (first | rw [hc]); rintro e w1 ⟨rfl, rfl⟩) | (go_at_call 33; refine (rLetter_any _ _).mono ?_; rw [hLt]; rintro e w1 ⟨rfl, rfl⟩))
                  rw [HA.out]
                  refine ret_one (t := ⟨2, a, v, []⟩) (n := (k : Int)) (no := 0) rfl rfl rfl rfl rfl (blk2 w ⟨2, a, v, []⟩ _) ⟨_, _, rfl, bel2 w _ _, fun _ => ⟨?_, ?_⟩⟩
                  · rw [HVV.out.2.2.1 rfl]; rfl
                  · show (k : Int) = ((a + K : Nat) : Int)
                    have := HKE.out
                    omega
              · have e : scNum (s.data.toList.drop a) = (tk0, 0, 11) := by rw [scNum, HF.out, if_neg (by simp), if_pos (by rw [HMX.out]; have := HVV.out.2.2.2 rfl; omega)]
                have HA := Lib.hid e
                clear e
                go_wp2_with (first | (go_at_call 34; refine (rDigit_any _ _).mono ?_; (first | rw [hc]); rintro e w1 ⟨rfl, rfl⟩) | (go_at_call 33; refine (rLetter_any _ _).mono ?_; rw [hLt]; rintro e w1 ⟨rfl, rfl⟩))
                rw [HA.out]
                exact ret_one (t := ⟨2, a, 0, []⟩) (n := (k : Int)) (no := 11) rfl rfl rfl rfl rfl (blk2 w ⟨2, a, 0, []⟩ _) ⟨_, _, rfl, bel2 w _ _, fun h => by cases h⟩
            · have HP := Lib.hid (show hd isN ((s.data.toList.drop a).drop (nsz (s.data.toList.drop a))) = true by rw [HN.out, HDR.out, hd_at _ s (k) (by omega), isN, hLt]; rfl)
              have hF : nform (s.data.toList.drop a) = true := by rw [nform, HP.out]; simp
              have e : scNum (s.data.toList.drop a) = (tk0, 0, 2) := by rw [scNum, if_pos hF]
              have HA := Lib.hid e
              clear e hF
              go_wp2_with (first | (go_at_call 34; refine (rDigit_any _ _).mono ?_; (first | rw [hc]); rintro e w1 ⟨rfl, rfl⟩) | (go_at_call 33; refine (rLetter_any _ _).mono ?_; rw [hLt]; rintro e w1 ⟨rfl, rfl⟩))
              rw [HA.out]
              exact ret_one (t := ⟨2, a, 0, []⟩) (n := (k : Int)) (no := 2) rfl rfl rfl rfl rfl (blk2 w ⟨2, a, 0, []⟩ _) ⟨_, _, rfl, bel2 w _ _, fun h => by cases h⟩
    · have hke : k = a + K := by omega
      have HKE := Lib.hid hke
      have hvv : VR g v (nval (s.data.toList.drop a)) := by have := HV.out; rw [hke, Nat.add_sub_cancel_left] at this; rw [nval, HKK.out]; exact this
      have HVV := Lib.hid hvv
      have HL := Lib.hid (show lng (s.data.toList.drop a) = false by rw [lng, HKK.out, List.drop_drop, ← hke, hd_end _ s k (by omega)])
      have HN := Lib.hid (show nsz (s.data.toList.drop a) = K by rw [nsz, HL.out, HKK.out]; rfl)
      have HP := Lib.hid (show hd isN ((s.data.toList.drop a).drop (nsz (s.data.toList.drop a))) = false by rw [HN.out, List.drop_drop, ← hke, hd_end _ s k (by omega)])
      clear hvv HV hke
      by_cases hz48 : s[a].toNat = 48
      · have t0 : ((s[a].toNat : Int) == 48) = true := by simp [hz48]
        by_cases hk2 : 1 < K
        · have hk3 : decide (((a : Int) + 1) < (k : Int)) = true := by rw [HKE.out]; simp; omega
          have hF : nform (s.data.toList.drop a) = true := by rw [nform, HKK.out, HZ.out]; simp [hk2, hz48]
          have e : scNum (s.data.toList.drop a) = (tk0, 0, 2) := by rw [scNum, if_pos hF]
          have HA := Lib.hid e
          clear e hF
          go_wp2
          rw [HA.out]
          exact ret_one (t := ⟨2, a, 0, []⟩) (n := (k : Int)) (no := 2) rfl rfl rfl rfl rfl (blk2 w ⟨2, a, 0, []⟩ _) ⟨_, _, rfl, bel2 w _ _, fun h => by cases h⟩
        · have hk3 : decide (((a : Int) + 1) < (k : Int)) = false := by rw [HKE.out]; simp; omega
          have hF : nform (s.data.toList.drop a) = false := by rw [nform, HKK.out, HP.out]; simp [hk2]
          have hM : nmax (s.data.toList.drop a) = 2147483647 := by rw [nmax, HL.out]; rfl
          have hmk : nmark (s.data.toList.drop a) = [] := by rw [nmark, HL.out]; rfl
          have HF := Lib.hid hF
          have HMX := Lib.hid hM
          have HMK := Lib.hid hmk
          clear hF hM hmk
          cases g
          · by_cases hv31 : 2147483647 < v
            · have hdec : decide ((2147483647 : Int) < v) = true := by simpa using hv31
              have e : scNum (s.data.toList.drop a) = (tk0, 0, 11) := by rw [scNum, HF.out, if_neg (by simp), if_pos (by rw [HMX.out]; have := HVV.out.2.2.1 rfl; omega)]
              have HA := Lib.hid e
              clear e
              go_wp2
              rw [HA.out]
              exact ret_one (t := ⟨2, a, 0, []⟩) (n := (k : Int)) (no := 11) rfl rfl rfl rfl rfl (blk2 w ⟨2, a, 0, []⟩ _) ⟨_, _, rfl, bel2 w _ _, fun h => by cases h⟩
            · have hdec : decide ((2147483647 : Int) < v) = false := by simpa using hv31
              have e : scNum (s.data.toList.drop a) = (⟨2, 0, nval (s.data.toList.drop a), []⟩, K, 0) := by rw [scNum, HF.out, if_neg (by simp), if_neg (by rw [HMX.out]; have := HVV.out.2.2.1 rfl; omega), HMK.out, HN.out]
              have HA := Lib.hid e
              clear e
              go_wp2
              rw [HA.out]
              refine ret_one (t := ⟨2, a, v, []⟩) (n := (k : Int)) (no := 0) rfl rfl rfl rfl rfl (blk2 w ⟨2, a, v, []⟩ _) ⟨_, _, rfl, bel2 w _ _, fun _ => ⟨?_, ?_⟩⟩
              · rw [HVV.out.2.2.1 rfl]; rfl
              · show (k : Int) = ((a + K : Nat) : Int)
                have := HKE.out
                omega
          · have e : scNum (s.data.toList.drop a) = (tk0, 0, 11) := by rw [scNum, HF.out, if_neg (by simp), if_pos (by rw [HMX.out]; have := HVV.out.2.2.2 rfl; omega)]
            have HA := Lib.hid e
            clear e
            go_wp2
            rw [HA.out]
            exact ret_one (t := ⟨2, a, 0, []⟩) (n := (k : Int)) (no := 11) rfl rfl rfl rfl rfl (blk2 w ⟨2, a, 0, []⟩ _) ⟨_, _, rfl, bel2 w _ _, fun h => by cases h⟩
      · have t0 : ((s[a].toNat : Int) == 48) = false := by simp; omega
        have hF : nform (s.data.toList.drop a) = false := by rw [nform, HKK.out, HZ.out, HP.out]; simp [hz48]
        have hM : nmax (s.data.toList.drop a) = 2147483647 := by rw [nmax, HL.out]; rfl
        have hmk : nmark (s.data.toList.drop a) = [] := by rw [nmark, HL.out]; rfl
        have HF := Lib.hid hF
        have HMX := Lib.hid hM
        have HMK := Lib.hid hmk
        clear hF hM hmk
        cases g
        · by_cases hv31 : 2147483647 < v
          · have hdec : decide ((2147483647 : Int) < v) = true := by simpa using hv31
            have e : scNum (s.data.toList.drop a) = (tk0, 0, 11) := by rw [scNum, HF.out, if_neg (by simp), if_pos (by rw [HMX.out]; have := HVV.out.2.2.1 rfl; omega)]
            have HA := Lib.hid e
            clear e
            go_wp2
            rw [HA.out]
            exact ret_one (t := ⟨2, a, 0, []⟩) (n := (k : Int)) (no := 11) rfl rfl rfl rfl rfl (blk2 w ⟨2, a, 0, []⟩ _) ⟨_, _, rfl, bel2 w _ _, fun h => by cases h⟩
          · have hdec : decide ((2147483647 : Int) < v) = false := by simpa using hv31
            have e : scNum (s.data.toList.drop a) = (⟨2, 0, nval (s.data.toList.drop a), []⟩, K, 0) := by rw [scNum, HF.out, if_neg (by simp), if_neg (by rw [HMX.out]; have := HVV.out.2.2.1 rfl; omega), HMK.out, HN.out]
            have HA := Lib.hid e
            clear e
            go_wp2
            rw [HA.out]
            refine ret_one (t := ⟨2, a, v, []⟩) (n := (k : Int)) (no := 0) rfl rfl rfl rfl rfl (blk2 w ⟨2, a, v, []⟩ _) ⟨_, _, rfl, bel2 w _ _, fun _ => ⟨?_, ?_⟩⟩
            · rw [HVV.out.2.2.1 rfl]; rfl
            · show (k : Int) = ((a + K : Nat) : Int)
              have := HKE.out
              omega
        · have e : scNum (s.data.toList.drop a) = (tk0, 0, 11) := by rw [scNum, HF.out, if_neg (by simp), if_pos (by rw [HMX.out]; have := HVV.out.2.2.2 rfl; omega)]
          have HA := Lib.hid e
          clear e
          go_wp2
          rw [HA.out]
          exact ret_one (t := ⟨2, a, 0, []⟩) (n := (k : Int)) (no := 11) rfl rfl rfl rfl rfl (blk2 w ⟨2, a, 0, []⟩ _) ⟨_, _, rfl, bel2 w _ _, fun h => by cases h⟩
end Go.Proofs.YtpmljgnnfljjpaaDoor
