/-
  Walks of layer lex: the ends of lines, blanks and comments.
-/
import Derived.Test.YtfaoiajhoifalaaGreatDoorLexa
import Derived.Lib.IndexBytes
namespace Go.Proofs.YtfaoiajhoifalaaGreatDoor
open Go.RowKit
set_option linter.unusedVariables false
set_option linter.unusedSimpArgs false

def n10 (c : UInt8) : Bool := !decide (c.toNat = 10)

theorem n10_eq (c : UInt8) : (c == 10) = !n10 c := by
  have e : c = 10 ↔ c.toNat = 10 := ⟨fun h => by subst h; rfl, fun h => UInt8.toNat_inj.1 h⟩
  rw [Bool.eq_iff_iff]; simp [n10, e]

theorem indexByte_10 (l : List UInt8) : Lib.indexByte l 10 = if len n10 l < l.length then (len n10 l : Int) else -1 := by
  induction l with
  | nil => simp [Lib.indexByte]
  | cons c r ih =>
    simp only [Lib.indexByte, n10_eq, len, List.length_cons]
    by_cases h : n10 c = true
    · simp only [h, Bool.not_true, Bool.false_eq_true, if_false, if_true]
      rw [ih]
      by_cases h2 : len n10 r < r.length
      · have h3 : ((len n10 r : Int) == -1) = false := by simp
        have h4 : len n10 r + 1 < r.length + 1 := by omega
        simp only [if_pos h2, h3, Bool.false_eq_true, if_false, if_pos h4]
        rfl
      · have h4 : ¬ (len n10 r + 1 < r.length + 1) := by omega
        simp only [if_neg h2, if_neg h4]
        rfl
    · simp only [h, Bool.not_false, if_true, if_false, Bool.false_eq_true]
      rw [if_pos (by omega)]; rfl

theorem sk_true (l : List UInt8) : sk true l = len n10 l + sk false (l.drop (len n10 l)) := by
  induction l with
  | nil => simp [sk, len]
  | cons c r ih =>
    simp only [sk, len]
    by_cases h : c.toNat = 10
    · have hn : n10 c = false := by simp [n10, h]
      have hb : isB c = true := by simp [isB, h]
      simp [h, hn, sk, hb]
    · have hn : n10 c = true := by simp [n10, h]
      simp only [h, hn, decide_false, Bool.false_eq_true, if_false, if_true, List.drop_succ_cons]
      omega

theorem sk_blank {c : UInt8} {r : List UInt8} (h : isB c = true) : sk false (c :: r) = sk false r + 1 := by simp [sk, h]
theorem sk_stop {l : List UInt8} (h : hd isB l = false) (h2 : Lib.hasPrefix l [47, 47] = false) : sk false l = 0 := by
  cases l with
  | nil => rfl
  | cons c r =>
    simp only [hd] at h
    have h3 : (decide (c.toNat = 47) && hd (fun d => decide (d.toNat = 47)) r) = false := by
      rw [← Bool.not_eq_true]
      intro h4
      simp only [Bool.and_eq_true, decide_eq_true_eq] at h4
      obtain ⟨h5, h6⟩ := h4
      cases r with
      | nil => simp [hd] at h6
      | cons d q =>
        simp only [hd, decide_eq_true_eq] at h6
        have e1 : c = 47 := UInt8.toNat_inj.1 h5
        have e2 : d = 47 := UInt8.toNat_inj.1 h6
        subst e1; subst e2
        simp [Lib.hasPrefix, List.isPrefixOf] at h2
    simp only [sk, h, h3, Bool.false_eq_true, if_false]
theorem sk_comment {l : List UInt8} (h2 : Lib.hasPrefix l [47, 47] = true) : sk false l = len n10 l + sk false (l.drop (len n10 l)) ∧ 2 ≤ len n10 l := by
  have h3 := List.isPrefixOf_iff_prefix.1 (show List.isPrefixOf [47, 47] l = true from h2)
  obtain ⟨q, rfl⟩ := h3
  have e : len n10 ([47, 47] ++ q) = len n10 q + 2 := by simp [len, n10]
  rw [e]
  have e2 : sk false ([47, 47] ++ q) = sk true q + 2 := by simp [sk, isB, hd]
  rw [e2, sk_true]
  refine ⟨?_, by omega⟩
  simp only [List.cons_append, List.nil_append, List.drop_succ_cons]
  omega

theorem skAt_blank {t : List UInt8} {a : Nat} (h : hd isB (t.drop a) = true) : skAt t (a + 1) = skAt t a := by
  unfold skAt
  cases h1 : t.drop a with
  | nil => rw [h1] at h; simp [hd] at h
  | cons c r =>
    rw [h1] at h
    rw [sk_blank h, ← List.drop_drop, h1]
    simp only [List.drop_succ_cons, List.drop_zero]
    omega
theorem skAt_stop {t : List UInt8} {a : Nat} (h : hd isB (t.drop a) = false) (h2 : Lib.hasPrefix (t.drop a) [47, 47] = false) : skAt t a = a := by
  unfold skAt; rw [sk_stop h h2]; rfl
theorem skAt_comment {t : List UInt8} {a : Nat} (h2 : Lib.hasPrefix (t.drop a) [47, 47] = true) : skAt t (a + len n10 (t.drop a)) = skAt t a := by
  unfold skAt
  rw [(sk_comment h2).1, List.drop_drop]
  omega

set_option maxHeartbeats 400000 in
/-- The place of the next newline, or of the text's end. -/
theorem lineEnd_any (s : ByteArray) (a : Nat) (ha : a ≤ s.size) (hs : s.size ≤ maxLen) (w : World) :
    Calls Tryz.prog 103 #[.string s, .int .i64 a] w fun e w' => e = .returned (.int .i64 ((a + len n10 (s.data.toList.drop a) : Nat) : Int)) ∧ w = w' := by
  unfold maxLen at hs
  have hl := len_le n10 (s.data.toList.drop a)
  rw [List.length_drop, ← Lib.size_eq] at hl
  have hix := indexByte_10 (s.data.toList.drop a)
  rw [← Lib.extract_to_end, ] at hix
  have hk : Calls Tryz.prog 158 #[.string (s.extract a s.size), .int .u8 10] w fun e w' => e = .returned (.int .i64 (if len n10 (s.data.toList.drop a) < s.size - a then ((len n10 (s.data.toList.drop a) : Nat) : Int) else -1)) ∧ w = w' :=
    (Tryz.stringslite_IndexByte (s.extract a s.size) 10 w).mono (by
      rintro e w' ⟨rfl, rfl⟩
      refine ⟨ret_int ?_, rfl⟩
      have h0 : (10 : Int).toNat.toUInt8 = 10 := rfl
      rw [h0, hix, Lib.extract_to_end, List.length_drop, ← Lib.size_eq])
  clear hix
  have HK := Lib.hid hk
  clear hk
  by_cases hc : len n10 (s.data.toList.drop a) < s.size - a
  · have hk := HK.out
    rw [if_pos hc] at hk
    clear HK
    generalize len n10 (s.data.toList.drop a) = n at *
    go_enter Tryz.func103, Tryz.ntmps103
    go_wp2_with (first | (go_at_call 158; refine hk.mono ?_; rintro e w' ⟨rfl, rfl⟩) | go_in)
    go_ret
    exact ⟨ret_int (by simp), rfl⟩
  · have hk := HK.out
    rw [if_neg hc] at hk
    clear HK
    have e : a + len n10 (s.data.toList.drop a) = s.size := by omega
    rw [e]
    clear e hc hl
    go_enter Tryz.func103, Tryz.ntmps103
    go_wp2_with (first | (go_at_call 158; refine hk.mono ?_; rintro e w' ⟨rfl, rfl⟩) | go_in)
    go_ret
    exact ⟨rfl, rfl⟩

theorem hdB_slash {l : List UInt8} (h : Lib.hasPrefix l [47, 47] = true) : hd isB l = false := by
  obtain ⟨q, rfl⟩ := List.isPrefixOf_iff_prefix.1 (show List.isPrefixOf [47, 47] l = true from h)
  simp [hd, isB]

/-- What holds at the label. -/
def SkJ (s : ByteArray) (a0 : Nat) (w : World) (a' : Act) (w' : World) : Prop :=
  w' = w ∧ ∃ (a : Nat) (u2 u3 u5 u6 u7 u8 u9 u10 u11 u12 u13 u14 u15 u16 u17 u18 u19 u20 u21 u22 u23 u24 u25 u26 u27 u28 u29 u30 : Value),
    a' = { tmps := #[.string s, .int .i64 a, u2, u3, .int .i64 0, u5, u6, u7, u8, u9, u10, u11, u12, u13, u14, u15, u16, u17, u18, u19, u20, u21, u22, u23, u24, u25, u26, u27, u28, u29, u30], defers := [] } ∧ a ≤ s.size ∧ skAt s.data.toList a = skAt s.data.toList a0

def SkR (s : ByteArray) (a : Nat) (v : Value) : Prop := ∃ b : Nat, a ≤ b ∧ b ≤ s.size ∧ v = .int .i64 b ∧ skAt s.data.toList b = skAt s.data.toList a

def noPre (s : ByteArray) (b : Nat) : Bool := Lib.hasPrefix (s.data.toList.drop b) [47, 47]

theorem hasPre (s : ByteArray) (b : Nat) (w : World) :
    Calls Tryz.prog 102 #[.string (s.extract b s.size), .string ⟨#[47, 47]⟩] w fun e w' => e = .returned (.bool (noPre s b)) ∧ w = w' :=
  (Tryz.strings_HasPrefix _ _ w).mono (by rintro e w' ⟨rfl, rfl⟩; rw [Lib.extract_to_end]; exact ⟨rfl, rfl⟩)

set_option maxHeartbeats 1000000 in
set_option maxRecDepth 100000 in
theorem skipBlank_any (s : ByteArray) (a : Nat) (ha : a ≤ s.size) (hs : s.size ≤ maxLen) (w : World) :
    Calls Tryz.prog 74 #[.string s, .int .i64 a] w fun e w' => e = .returned (.int .i64 (skAt s.data.toList a)) ∧ w = w' := by
  have hs' := hs
  unfold maxLen at hs
  go_enter Tryz.func74, Tryz.ntmps74
  go_wp2
  refine wp_scope_jumps 0 (SkJ s a w) (fun a' _ => s.size - (intOf (a'.tmps.getD 1 undef)).toNat) rfl ?_ ?_
  · go_wp2
    go_step3
    go_wp2
    go_loop [1] (SkR s a) (fun i => s.size - (intOf i).toNat)
    case atStart => exact ⟨a, Nat.le_refl _, ha, rfl, rfl⟩
    case round =>
      obtain ⟨b, hab, hb, rfl, hsk⟩ := hrel
      have HK := Lib.hid hsk
      clear hsk
      have fin : hd isB (s.data.toList.drop b) = false → noPre s b = false → skAt s.data.toList b = b := fun h1 h2 => skAt_stop h1 h2
      have FIN := Lib.hid fin
      clear fin
      by_cases hlt : b < s.size
      · have hh := hd_at isB s b hlt
        have HH := Lib.hid hh
        clear hh
        by_cases h32 : s[b].toNat = 32
        · have t1 : ((s[b].toNat : Int) == 32) = true := by simp [h32]
          have hB : isB s[b] = true := by simp [isB, h32]
          have HB := Lib.hid hB
          clear h32 hB
          go_wp2
          go_round
          case rel => exact ⟨b + 1, by omega, by omega, by go_num, (skAt_blank (HH.out.trans HB.out)).trans HK.out⟩
          case measure => simp [intOf]; omega
        · have t1 : ((s[b].toNat : Int) == 32) = false := by simp; omega
          by_cases h10 : s[b].toNat = 10
          · have t2 : ((s[b].toNat : Int) == 10) = true := by simp [h10]
            have hB : isB s[b] = true := by simp [isB, h10]
            have HB := Lib.hid hB
            clear h32 hB h10
            go_wp2
            go_round
            case rel => exact ⟨b + 1, by omega, by omega, by go_num, (skAt_blank (HH.out.trans HB.out)).trans HK.out⟩
            case measure => simp [intOf]; omega
          · have t2 : ((s[b].toNat : Int) == 10) = false := by simp; omega
            have hB : isB s[b] = false := by simp [isB, h32, h10]
            have HB := Lib.hid hB
            clear h32 hB h10
            cases hp : noPre s b
            · have hsk : skAt s.data.toList a = b := HK.out.symm.trans (FIN.out (HH.out.trans HB.out) hp)
              have HP := Lib.hid hsk
              clear hsk
              go_wp2_with (go_at_call 102; refine (hasPre s b _).mono ?_; rw [hp]; clear hp; rintro e w1 ⟨rfl, rfl⟩)
              simp only [Exit.jump]
              go_ret
              exact ⟨ret_int (by rw [HP.out]), rfl⟩
            · have hl2 := (sk_comment (show Lib.hasPrefix (s.data.toList.drop b) [47, 47] = true from hp)).2
              have hl := len_le n10 (s.data.toList.drop b)
              rw [List.length_drop, ← Lib.size_eq] at hl
              have hsk2 := skAt_comment (show Lib.hasPrefix (s.data.toList.drop b) [47, 47] = true from hp)
              have HC := Lib.hid hsk2
              have HE := Lib.hid (lineEnd_any s b hb hs' w)
              clear hsk2
              go_wp2_with (first
                | (go_at_call 102; refine (hasPre s b _).mono ?_; rw [hp]; rintro e w1 ⟨rfl, rfl⟩)
                | (go_at_call 103; refine HE.out.mono ?_; rintro e w1 ⟨rfl, rfl⟩))
              go_step3
              have e : ((b : Int) + (len n10 (s.data.toList.drop b) : Int)) = ((b + len n10 (s.data.toList.drop b) : Nat) : Int) := by simp
              rw [e]
              refine ⟨rfl, ?_⟩
              · exact ⟨rfl, b + len n10 (s.data.toList.drop b), _, _, _, _, _, _, _, _, _, _, _, _, _, _, _, _, _, _, _, _, _, _, _, _, _, _, _, _, rfl, by omega, HC.out.trans HK.out⟩
      · have hpf : noPre s b = false := by unfold noPre; rw [List.drop_of_length_le (by rw [← Lib.size_eq]; omega)]; rfl
        have hsk : skAt s.data.toList a = b := HK.out.symm.trans (FIN.out (hd_end _ _ _ (by omega)) hpf)
        have HP := Lib.hid hsk
        clear hsk
        go_wp2_with (go_at_call 102; refine (hasPre s b _).mono ?_; rw [hpf]; clear hpf; rintro e w1 ⟨rfl, rfl⟩)
        simp only [Exit.jump]
        go_ret
        exact ⟨ret_int (by rw [HP.out]), rfl⟩
  · rintro a' w' ⟨rfl, c, u2, u3, u5, u6, u7, u8, u9, u10, u11, u12, u13, u14, u15, u16, u17, u18, u19, u20, u21, u22, u23, u24, u25, u26, u27, u28, u29, u30, rfl, hc, hsk⟩
    have HSK := Lib.hid hsk
    clear hsk
    go_wp2
    go_loop [1] (SkR s c) (fun i => s.size - (intOf i).toNat)
    case atStart => exact ⟨c, Nat.le_refl _, hc, rfl, rfl⟩
    case round =>
      obtain ⟨b, hab, hb, rfl, hsk⟩ := hrel
      have HK := Lib.hid hsk
      clear hsk
      have fin : hd isB (s.data.toList.drop b) = false → noPre s b = false → skAt s.data.toList b = b := fun h1 h2 => skAt_stop h1 h2
      have FIN := Lib.hid fin
      clear fin
      by_cases hlt : b < s.size
      · have hh := hd_at isB s b hlt
        have HH := Lib.hid hh
        clear hh
        by_cases h32 : s[b].toNat = 32
        · have t1 : ((s[b].toNat : Int) == 32) = true := by simp [h32]
          have hB : isB s[b] = true := by simp [isB, h32]
          have HB := Lib.hid hB
          clear h32 hB
          go_wp2
          go_round
          case rel => exact ⟨b + 1, by omega, by omega, by go_num, (skAt_blank (HH.out.trans HB.out)).trans HK.out⟩
          case measure => simp [intOf]; omega
        · have t1 : ((s[b].toNat : Int) == 32) = false := by simp; omega
          by_cases h10 : s[b].toNat = 10
          · have t2 : ((s[b].toNat : Int) == 10) = true := by simp [h10]
            have hB : isB s[b] = true := by simp [isB, h10]
            have HB := Lib.hid hB
            clear h32 hB h10
            go_wp2
            go_round
            case rel => exact ⟨b + 1, by omega, by omega, by go_num, (skAt_blank (HH.out.trans HB.out)).trans HK.out⟩
            case measure => simp [intOf]; omega
          · have t2 : ((s[b].toNat : Int) == 10) = false := by simp; omega
            have hB : isB s[b] = false := by simp [isB, h32, h10]
            have HB := Lib.hid hB
            clear h32 hB h10
            cases hp : noPre s b
            · have hsk : skAt s.data.toList c = b := HK.out.symm.trans (FIN.out (HH.out.trans HB.out) hp)
              have HP := Lib.hid hsk
              clear hsk
              go_wp2_with (go_at_call 102; refine (hasPre s b _).mono ?_; rw [hp]; clear hp; rintro e w1 ⟨rfl, rfl⟩)
              simp only [Exit.jump]
              go_ret
              exact ⟨ret_int (by rw [← HSK.out, HP.out]), rfl⟩
            · have hl2 := (sk_comment (show Lib.hasPrefix (s.data.toList.drop b) [47, 47] = true from hp)).2
              have hl := len_le n10 (s.data.toList.drop b)
              rw [List.length_drop, ← Lib.size_eq] at hl
              have hsk2 := skAt_comment (show Lib.hasPrefix (s.data.toList.drop b) [47, 47] = true from hp)
              have HC := Lib.hid hsk2
              have HE := Lib.hid (lineEnd_any s b hb hs' w')
              clear hsk2
              go_wp2_with (first
                | (go_at_call 102; refine (hasPre s b _).mono ?_; rw [hp]; rintro e w1 ⟨rfl, rfl⟩)
                | (go_at_call 103; refine HE.out.mono ?_; rintro e w1 ⟨rfl, rfl⟩))
              go_step3
              have e : ((b : Int) + (len n10 (s.data.toList.drop b) : Int)) = ((b + len n10 (s.data.toList.drop b) : Nat) : Int) := by simp
              rw [e]
              refine ⟨rfl, ?_, ?_⟩
              · exact ⟨rfl, b + len n10 (s.data.toList.drop b), _, _, _, _, _, _, _, _, _, _, _, _, _, _, _, _, _, _, _, _, _, _, _, _, _, _, _, _, rfl, by omega, HC.out.trans (HK.out.trans HSK.out)⟩
              · simp [intOf]; omega
      · have hpf : noPre s b = false := by unfold noPre; rw [List.drop_of_length_le (by rw [← Lib.size_eq]; omega)]; rfl
        have hsk : skAt s.data.toList c = b := HK.out.symm.trans (FIN.out (hd_end _ _ _ (by omega)) hpf)
        have HP := Lib.hid hsk
        clear hsk
        go_wp2_with (go_at_call 102; refine (hasPre s b _).mono ?_; rw [hpf]; clear hpf; rintro e w1 ⟨rfl, rfl⟩)
        simp only [Exit.jump]
        go_ret
        exact ⟨ret_int (by rw [← HSK.out, HP.out]), rfl⟩
end Go.Proofs.YtfaoiajhoifalaaGreatDoor
