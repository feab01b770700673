/-
  Walks of layer lex: the document's answer: blanks, signs, one token.
-/
import Derived.Test.YtpmljgnnfljjpaaDoorLexk
namespace Go.Proofs.YtpmljgnnfljjpaaDoor
open Go.RowKit
set_option linter.unusedVariables false
set_option linter.unusedSimpArgs false

theorem in_len {f : UInt8 → Bool} {s : ByteArray} {b k : Nat} (h1 : b ≤ k) (h2 : k < b + len f (s.data.toList.drop b)) (h : k < s.size) : f s[k] = true := by
  have hm := len_mem f (s.data.toList.drop b)
  apply hm
  rw [List.mem_take_iff_getElem]
  refine ⟨k - b, ?_, ?_⟩
  · rw [List.length_drop, ← Lib.size_eq]; omega
  · rw [List.getElem_drop]
    have : b + (k - b) = k := by omega
    simp only [this]
    rfl
theorem at_len {f : UInt8 → Bool} {s : ByteArray} {b : Nat} (h : b + len f (s.data.toList.drop b) < s.size) : f s[b + len f (s.data.toList.drop b)] = false := by
  have := hd_drop_len f (s.data.toList.drop b)
  rw [List.drop_drop, hd_at _ _ _ h] at this
  exact this

theorem noPre_true {s : ByteArray} {b : Nat} (hb : b + 1 < s.size) (h1 : s[b].toNat = 47) (h2 : s[b + 1].toNat = 47) : noPre s b = true := by
  have e1 : s[b] = 47 := UInt8.toNat_inj.1 h1
  have e2 : s[b + 1] = 47 := UInt8.toNat_inj.1 h2
  unfold noPre Lib.hasPrefix
  rw [List.drop_eq_getElem_cons (by rw [← Lib.size_eq]; omega), List.drop_eq_getElem_cons (by rw [← Lib.size_eq]; omega)]
  have e1' : s.data.toList[b]'(by rw [← Lib.size_eq]; omega) = 47 := e1
  have e2' : s.data.toList[b + 1]'(by rw [← Lib.size_eq]; omega) = 47 := e2
  rw [e1', e2']; rfl
theorem noPre_false {s : ByteArray} {b : Nat} (h : noPre s b = true) : ∃ h1 : b + 1 < s.size, s[b].toNat = 47 ∧ s[b + 1].toNat = 47 := by
  unfold noPre Lib.hasPrefix at h
  obtain ⟨q, hq⟩ := List.isPrefixOf_iff_prefix.1 h
  have hl := congrArg List.length hq
  rw [List.length_drop, ← Lib.size_eq] at hl
  simp at hl
  have h1 : b + 1 < s.size := by omega
  rw [List.drop_eq_getElem_cons (by rw [← Lib.size_eq]; omega), List.drop_eq_getElem_cons (by rw [← Lib.size_eq]; omega)] at hq
  simp only [List.cons_append, List.nil_append, List.cons.injEq] at hq
  refine ⟨h1, ?_, ?_⟩
  · have : s[b] = 47 := hq.1.symm
    rw [this]; rfl
  · have : s[b + 1] = 47 := hq.2.1.symm
    rw [this]; rfl

set_option maxHeartbeats 2000000 in
set_option maxRecDepth 100000 in
theorem rskip_any (s : ByteArray) (a : Nat) (ha : a ≤ s.size) (hs : s.size ≤ maxLen) (w : World) :
    Calls Tryd.prog 20 #[.string s, .int .i64 a] w fun e w' => e = .returned (.int .i64 (skAt s.data.toList a)) ∧ w = w' := by
  unfold maxLen at hs
  go_enter Tryd.func20, Tryd.ntmps20
  go_wp2
  go_loop [1] (SkR s a) (fun i => s.size - (intOf i).toNat)
  case atStart => exact ⟨a, Nat.le_refl _, ha, rfl, rfl⟩
  case round =>
    obtain ⟨b, hab, hb, rfl, hsk⟩ := hrel
    have HK := Lib.hid hsk
    clear hsk
    by_cases hlt : b < s.size
    · have hh := hd_at isB s b hlt
      have HH := Lib.hid hh
      clear hh
      by_cases h32 : s[b].toNat = 32
      · have t1 : ((s[b].toNat : Int) == 32) = true := by simp [h32]
        have hB : isB s[b] = true := by simp [isB, h32]
        have HB := Lib.hid hB
        clear h32 hB
        go_wp2
        go_round
        case rel => exact ⟨b + 1, by omega, by omega, by go_num, (skAt_blank (HH.out.trans HB.out)).trans HK.out⟩
        case measure => simp [intOf]; omega
      · have t1 : ((s[b].toNat : Int) == 32) = false := by simp; omega
        by_cases h10 : s[b].toNat = 10
        · have t2 : ((s[b].toNat : Int) == 10) = true := by simp [h10]
          have hB : isB s[b] = true := by simp [isB, h10]
          have HB := Lib.hid hB
          clear h32 hB h10
          go_wp2
          go_round
          case rel => exact ⟨b + 1, by omega, by omega, by go_num, (skAt_blank (HH.out.trans HB.out)).trans HK.out⟩
          case measure => simp [intOf]; omega
        · have t2 : ((s[b].toNat : Int) == 10) = false := by simp; omega
          have hB : isB s[b] = false := by simp [isB, h32, h10]
          have HB := Lib.hid hB
          clear h32 hB h10
          cases hp : noPre s b
          · have hst : skAt s.data.toList a = b := HK.out.symm.trans (skAt_stop (HH.out.trans HB.out) hp)
            have HST := Lib.hid hst
            clear hst
            have hcase : b + 1 < s.size → ∀ h : b + 1 < s.size, ¬ (s[b].toNat = 47 ∧ s[b + 1].toNat = 47) := fun _ h e => by
              rw [noPre_true h e.1 e.2] at hp; cases hp
            have HC := Lib.hid hcase
            clear hcase hp
            by_cases hl2 : b + 1 < s.size
            · by_cases h47 : s[b].toNat = 47
              · have t3 : ((s[b].toNat : Int) == 47) = true := by simp [h47]
                have t4 : ((s[b + 1].toNat : Int) == 47) = false := by have := HC.out hl2 hl2; simp; omega
                clear h47
                go_wp2
                go_ret
                exact ⟨ret_int (by rw [HST.out]), rfl⟩
              · have t3 : ((s[b].toNat : Int) == 47) = false := by simp; omega
                clear h47
                go_wp2
                go_ret
                exact ⟨ret_int (by rw [HST.out]), rfl⟩
            · go_wp2
              go_ret
              exact ⟨ret_int (by rw [HST.out]), rfl⟩
          · obtain ⟨hl2, h47, h48⟩ := noPre_false hp
            have t3 : ((s[b].toNat : Int) == 47) = true := by simp [h47]
            have t4 : ((s[b + 1].toNat : Int) == 47) = true := by simp [h48]
            have hc2 := (sk_comment (show Lib.hasPrefix (s.data.toList.drop b) [47, 47] = true from hp)).2
            have hsk2 := skAt_comment (show Lib.hasPrefix (s.data.toList.drop b) [47, 47] = true from hp)
            have hll := len_le n10 (s.data.toList.drop b)
            rw [List.length_drop, ← Lib.size_eq] at hll
            have HIN := Lib.hid (fun k h1 h2 h => in_len (f := n10) (s := s) (b := b) (k := k) h1 h2 h)
            have HAT := Lib.hid (fun h => at_len (f := n10) (s := s) (b := b) h)
            generalize hL : len n10 (s.data.toList.drop b) = L at *
            have HS2 := Lib.hid hsk2
            clear h47 h48 hp hsk2 hL
            go_wp2
            go_loop [1] (fun v => ∃ k : Nat, b ≤ k ∧ k ≤ b + L ∧ v = .int .i64 k) (fun i => s.size - (intOf i).toNat)
            case atStart => exact ⟨b, by omega, by omega, rfl⟩
            case round =>
              obtain ⟨k, hbk, hk, rfl⟩ := hrel
              by_cases hlk : k < s.size
              · by_cases hkL : k < b + L
                · have hn := HIN.out k hbk hkL hlk
                  have t5 : ((s[k].toNat : Int) != 10) = true := by simp [n10] at hn; simp; omega
                  clear hn
                  go_wp2
                  go_round
                  case rel => exact ⟨k + 1, by omega, by omega, by go_num⟩
                  case measure => simp [intOf]; omega
                · have hke : k = b + L := by omega
                  have t5 : ((s[k].toNat : Int) != 10) = false := by
                    subst hke
                    have hn := HAT.out hlk
                    simp [n10] at hn
                    simp [hn]
                  have HKE := Lib.hid hke
                  clear hke
                  go_wp2
                  go_round
                  case rel => exact ⟨k, by omega, by omega, rfl, by rw [HKE.out]; exact HS2.out.trans HK.out⟩
                  case measure => simp [intOf]; omega
              · have hke : k = b + L := by omega
                have HKE := Lib.hid hke
                clear hke
                go_wp2
                go_round
                case rel => exact ⟨k, by omega, by omega, rfl, by rw [HKE.out]; exact HS2.out.trans HK.out⟩
                case measure => simp [intOf]; omega
    · have hbe : b = s.size := by omega
      have hpf : noPre s b = false := by unfold noPre; rw [List.drop_of_length_le (by rw [← Lib.size_eq]; omega)]; rfl
      have hst : skAt s.data.toList a = b := HK.out.symm.trans (skAt_stop (hd_end _ _ _ (by omega)) hpf)
      have HST := Lib.hid hst
      clear hst hpf hbe
      go_wp2
      go_ret
      exact ⟨ret_int (by rw [HST.out]), rfl⟩
end Go.Proofs.YtpmljgnnfljjpaaDoor
