/-
  Walks of layer lex: the document's answer: signs, one token.
-/
import Derived.Test.YtpmljgnnfljjpaaDoorLexv
namespace Go.Proofs.YtpmljgnnfljjpaaDoor
open Go.RowKit
set_option linter.unusedVariables false
set_option linter.unusedSimpArgs false

abbrev sgC : Array Value := (sg.map fun z => Value.string (str z)).toArray

theorem rsigns_any (w : World) :
    Calls Tryd.prog 36 #[] w fun e w' => e = .returned (.slice (some ⟨w.heap.size, 0, none⟩) 30 30) ∧ w' = w.alloc (.cells sgC 9) := by
  go_enter Tryd.func36, Tryd.ntmps36
  go_wp2
  go_ret
  exact ⟨rfl, rfl⟩

theorem sgC_at (k : Nat) (h : k < 30) : sgC[k]? = some (.string (str (sg[k]'h))) := by
  rw [List.getElem?_toArray, List.getElem?_map, List.getElem?_eq_getElem h]
  rfl

theorem pre_eq {s : ByteArray} {a : Nat} {z : List UInt8} : ((s.extract a (a + z.length)).toList == (str z).toList) = z.isPrefixOf (s.data.toList.drop a) := by
  rw [Lib.extract_toList, Lib.toList_data, Nat.add_sub_cancel_left]
  cases hp : z.isPrefixOf (s.data.toList.drop a)
  · refine beq_false_of_ne fun h2 => ?_
    rw [List.isPrefixOf_iff_prefix.2 (List.prefix_iff_eq_take.2 h2.symm)] at hp; cases hp
  · have := List.prefix_iff_eq_take.1 (List.isPrefixOf_iff_prefix.1 hp)
    refine beq_iff_eq.2 ?_
    exact this.symm
theorem pre_no {s : ByteArray} {a : Nat} {z : List UInt8} (h : ¬ a + z.length ≤ s.size) (ha : a < s.size) : z.isPrefixOf (s.data.toList.drop a) = false := by
  cases hp : z.isPrefixOf (s.data.toList.drop a)
  · rfl
  · have := (List.isPrefixOf_iff_prefix.1 hp).length_le
    rw [List.length_drop, ← Lib.size_eq] at this
    omega

set_option maxHeartbeats 4000000 in
set_option maxRecDepth 100000 in
theorem rone_any (s : ByteArray) (a : Nat) (hs : s.size ≤ 1048576) (ha : a < s.size) (w : World) :
    Calls Tryd.prog 21 #[.string s, .int .i64 a] w (OnePost (sc (s.data.toList.drop a)) a w) := by
  have hL := hd_at isL s a ha
  have hD := hd_at isD s a ha
  cases hl : isL s[a]
  · rw [hl] at hL
    cases hd : isD s[a]
    · rw [hd] at hD
      have e : sc (s.data.toList.drop a) = scSign (s.data.toList.drop a) := by rw [sc, hL, if_neg (by simp), hD, if_neg (by simp)]
      rw [e]
      clear e hL hD
      go_enter Tryd.func21, Tryd.ntmps21
      go_wp2_with (first
        | (go_at_call 33; refine (rLetter_any _ _).mono ?_; rw [hl]; clear hl; rintro e w1 ⟨rfl, rfl⟩)
        | (go_at_call 34; refine (rDigit_any _ _).mono ?_; rw [hd]; clear hd; rintro e w1 ⟨rfl, rfl⟩)
        | (go_at_call 36; refine (rsigns_any _).mono ?_; rintro e w1 ⟨rfl, rfl⟩))
      have hB := Blk.new (w.alloc (.cells #[.int .i64 0, .int .i64 0, .int .i64 0, .string ⟨#[]⟩] tE)) 9 sgC
      have hT := (Blk.new w tE #[.int .i64 0, .int .i64 0, .int .i64 0, .string ⟨#[]⟩]).alloc (.cells sgC 9)
      have hbW : Below w.heap.size w ((w.alloc (.cells #[.int .i64 0, .int .i64 0, .int .i64 0, .string ⟨#[]⟩] tE)).alloc (.cells sgC 9)) := bel2 w _ _
      rw [World.size_alloc] at hB
      have hsz : ((w.alloc (.cells #[.int .i64 0, .int .i64 0, .int .i64 0, .string ⟨#[]⟩] tE)).alloc (.cells sgC 9)).heap.size = w.heap.size + 2 := by simp
      obtain ⟨W, hW⟩ : ∃ W, ((w.alloc (.cells #[.int .i64 0, .int .i64 0, .int .i64 0, .string ⟨#[]⟩] tE)).alloc (.cells sgC 9)) = W := ⟨_, rfl⟩
      try simp only [World.size_alloc]
      rw [hW] at hB hT hbW hsz ⊢
      clear hW
      have x0 := hT.cell 0
      have x1 := hT.cell 1
      have x2 := hT.cell 2
      have x3 := hT.cell 3
      have f0 := hT.frozen 0
      have f1 := hT.frozen 1
      have f2 := hT.frozen 2
      have f3 := hT.frozen 3
      simp at x0 x1 x2 x3
      have fin : ∀ (d : Nat) (t : Tok), Blk (set4 (W.drewN d) w.heap.size t) w.heap.size tE (cells1 t).toArray ∧ Below w.heap.size w (set4 (W.drewN d) w.heap.size t) := fun d t => ⟨cell_set4 (show Blk (W.drewN d) w.heap.size tE _ from hT) rfl, below_set4 (hbW.trans (below_drewN w.heap.size W d)) (Nat.le_refl _)⟩
      have FIN := Lib.hid fin
      clear fin hT hbW
      go_loopw [9] (fun v wr => ∃ k : Nat, k ≤ 30 ∧ v = .int .i64 k ∧ SgN (str (s.data.toList.drop a)) k ∧ ∃ d, wr = W.drewN d) (fun v _ => 30 - (intOf v).toNat)
      case atStart => exact ⟨0, by omega, rfl, SgN.zero _, 0, rfl⟩
      case round =>
        obtain ⟨k, hk, rfl, hn, d, rfl⟩ := hrel
        by_cases hlt : k < 30
        · have hz := sg_sizes (sg[k]'hlt) (List.getElem_mem _)
          have hS := fun hp => hn.some hlt hp
          have hN := fun hp => hn.succ hlt hp
          have hc : W.cell? ⟨w.heap.size + 1, k, none⟩ = some (.string (str (sg[k]'hlt))) := (hB.cell k).trans (sgC_at k hlt)
          generalize sg[k]'hlt = z at *
          have hzs : (str z).size = z.length := str_size z
          have hsd : ((str z).size : Int) = (z.length : Int) := by rw [hzs]
          have HZS := Lib.hid hzs
          clear hzs hsd
          obtain ⟨q, hq⟩ : ∃ q, z.length = q := ⟨_, rfl⟩
          rw [hq] at hz
          have hq2 : (str z).size = q := HZS.out.trans hq
          obtain ⟨zz, hzz⟩ : ∃ zz, str z = zz := ⟨_, rfl⟩
          rw [hzz] at hc hq2
          have HZZ := Lib.hid hzz
          have HQ := Lib.hid hq
          clear hzz hq HZS
          have HS := Lib.hid hS
          have HN := Lib.hid hN
          have HB := Lib.hid hB
          clear hS hN hn hB
          by_cases hfit : a + q ≤ s.size
          · have hpe := pre_eq (z := z) (s := s) (a := a)
            have hfd : decide ((a : Int) + (q : Int) ≤ (s.size : Int)) = true := by simp; omega
            rw [HQ.out, HZZ.out] at hpe
            cases hp : List.isPrefixOf z (s.data.toList.drop a)
            · rw [hp] at hpe
              have hn2 := HN.out hp
              have HN2 := Lib.hid hn2
              clear hn2 hp
              go_wp2
              go_quiet (fail)
              go_wp2
              go_roundw
              case rel => exact ⟨k + 1, by omega, by go_num, HN2.out, _, rfl⟩
              case measure => simp [intOf]; omega
            · rw [hp] at hpe
              have e : scSign (s.data.toList.drop a) = _ := HS.out hp
              have HE := Lib.hid e
              clear e hp
              go_wp2
              go_quiet (fail)
              go_wp2
              go_region
              all_goals
                go_wp2
                rw [HE.out]
                refine ret_one (t := ⟨3, a, 0, z⟩) (n := (a : Int) + (q : Int)) (no := 0) rfl rfl rfl rfl rfl ?_ ⟨_, _, rfl, ?_, fun _ => ⟨rfl, ?_⟩⟩
                · rw [← HZZ.out]; exact (FIN.out _ ⟨3, a, 0, z⟩).1
                · rw [← HZZ.out]; exact (FIN.out _ ⟨3, a, 0, z⟩).2
                · show (a : Int) + (q : Int) = ((a + z.length : Nat) : Int)
                  rw [HQ.out]; omega
          · have hp := pre_no (z := z) (by rw [HQ.out]; exact hfit) ha
            have hfd : decide ((a : Int) + (q : Int) ≤ (s.size : Int)) = false := by simp; omega
            have hn2 := HN.out hp
            have HN2 := Lib.hid hn2
            clear hn2 hp
            go_wp2
            go_quiet (fail)
            go_wp2
            go_roundw
            case rel => exact ⟨k + 1, by omega, by go_num, HN2.out, _, rfl⟩
            case measure => simp [intOf]; omega
        · obtain rfl : k = 30 := by omega
          have e : scSign (s.data.toList.drop a) = _ := hn.none
          have HE := Lib.hid e
          clear e hn
          go_wp2
          rw [HE.out]
          exact ret_one (t := tk0) (n := a) (no := 1) rfl rfl rfl rfl rfl (FIN.out d tk0).1 ⟨_, _, rfl, (FIN.out d tk0).2, fun h => by cases h⟩
    · rw [hd] at hD
      have e : sc (s.data.toList.drop a) = scNum (s.data.toList.drop a) := by rw [sc, hL, if_neg (by simp), hD, if_pos rfl]
      have h1 : 1 ≤ len isD (s.data.toList.drop a) := hd_len hD
      rw [e]
      clear e hL hD
      go_enter Tryd.func21, Tryd.ntmps21
      go_wp2_with (first
        | (go_at_call 33; refine (rLetter_any _ _).mono ?_; rw [hl]; clear hl; rintro e w1 ⟨rfl, rfl⟩)
        | (go_at_call 34; refine (rDigit_any _ _).mono ?_; rw [hd]; clear hd; rintro e w1 ⟨rfl, rfl⟩)
        | (go_at_call 35; refine (rnumber_any s a hs ha h1 _).mono ?_; rintro e w1 ⟨t, n, rfl, hb1, hok⟩; rw [str_eta]; have hblk := (hb1.block w.heap.size (by simp)).trans (heap_alloc_new w _); obtain ⟨hcl, hfr⟩ := bcell hb1; have HB := Lib.hid hblk; clear hblk; have HB1 := Lib.hid hb1; clear hb1))
      exact ret_one (t := t) (n := n) rfl rfl rfl rfl rfl (cell_set4 HB.out rfl) ⟨t, n, rfl, below_set4 (((Below.refl _ w).alloc (Nat.le_refl _) _).trans (HB1.out.mono (by simp))) (Nat.le_refl _), hok⟩
  · rw [hl] at hL
    have e : sc (s.data.toList.drop a) = scName (s.data.toList.drop a) := by rw [sc, hL, if_pos rfl]
    have h1 : 1 ≤ len isN (s.data.toList.drop a) := hd_len (hd_mono (fun c => isN_of_isL) hL)
    rw [e]
    clear e hL hD
    have hln := len_le isN (s.data.toList.drop a)
    rw [List.length_drop, ← Lib.size_eq] at hln
    have HIN := Lib.hid (fun k h1 h2 h => in_len (f := isN) (s := s) (b := a) (k := k) h1 h2 h)
    have HAT := Lib.hid (fun h => at_len (f := isN) (s := s) (b := a) h)
    obtain ⟨K, hK⟩ : ∃ K, len isN (s.data.toList.drop a) = K := ⟨_, rfl⟩
    rw [hK] at hln h1 HIN HAT
    have HKK := Lib.hid hK
    clear hK
    go_enter Tryd.func21, Tryd.ntmps21
    go_wp2_with (go_at_call 33; refine (rLetter_any _ _).mono ?_; rw [hl]; rintro e w1 ⟨rfl, rfl⟩)
    go_loop [7] (fun v => ∃ k : Nat, a ≤ k ∧ k ≤ a + K ∧ v = .int .i64 k) (fun v => s.size - (intOf v).toNat)
    case atStart => exact ⟨a, Nat.le_refl _, by omega, rfl⟩
    case round =>
      obtain ⟨k, hak, hk, rfl⟩ := hrel
      by_cases hlt : k < s.size
      · by_cases hkK : k < a + K
        · have hc := HIN.out k hak hkK hlt
          cases hcl : isL s[k]
          · have hcd : isD s[k] = true := by rw [isN, hcl] at hc; exact hc
            clear hc
            go_wp2_with (first
              | (go_at_call 33; refine (rLetter_any _ _).mono ?_; rw [hcl]; rintro e w1 ⟨rfl, rfl⟩)
              | (go_at_call 34; refine (rDigit_any _ _).mono ?_; rw [hcd]; rintro e w1 ⟨rfl, rfl⟩))
            go_round
            case rel => exact ⟨k + 1, by omega, by omega, by go_num⟩
            case measure => simp [intOf]; omega
          · clear hc
            go_wp2_with (go_at_call 33; refine (rLetter_any _ _).mono ?_; rw [hcl]; rintro e w1 ⟨rfl, rfl⟩)
            go_round
            case rel => exact ⟨k + 1, by omega, by omega, by go_num⟩
            case measure => simp [intOf]; omega
        · have hke : k = a + K := by omega
          have hc : isN s[k] = false := by subst hke; exact HAT.out hlt
          have hcl : isL s[k] = false := by cases h : isL s[k]; rfl; rw [isN, h] at hc; cases hc
          have hcd : isD s[k] = false := by rw [isN, hcl] at hc; exact hc
          clear hc
          have HKE := Lib.hid hke
          clear hke
          by_cases h24 : 24 < K
          · have hdc : decide ((24 : Int) < (k : Int) - (a : Int)) = true := by rw [HKE.out]; simp; omega
            have e : scName (s.data.toList.drop a) = (tk0, 0, 10) := by rw [scName, HKK.out, if_pos h24]
            have HE := Lib.hid e
            clear e
            go_wp2_with (first  | (go_at_call 33; refine (rLetter_any _ _).mono ?_; rw [hcl]; rintro e w1 ⟨rfl, rfl⟩)  | (go_at_call 34; refine (rDigit_any _ _).mono ?_; rw [hcd]; rintro e w1 ⟨rfl, rfl⟩))
            rw [HE.out]
            exact ret_one (t := tk0) (n := k) (no := 10) rfl rfl rfl rfl rfl (Blk.new w tE _) ⟨_, _, rfl, (Below.refl _ w).alloc (Nat.le_refl _) _, fun h => by cases h⟩
          · have hdc : decide ((24 : Int) < (k : Int) - (a : Int)) = false := by rw [HKE.out]; simp; omega
            have e : scName (s.data.toList.drop a) = (⟨1, 0, 0, (s.data.toList.drop a).take K⟩, K, 0) := by rw [scName, HKK.out, if_neg h24]
            have HE := Lib.hid e
            clear e
            have hex : s.extract a k = str ((s.data.toList.drop a).take K) := by
              apply eq_str
              rw [Lib.extract_data, HKE.out, Nat.add_sub_cancel_left]
            have hkz : k ≤ s.size := by rw [HKE.out]; omega
            go_wp2_with (first  | (go_at_call 33; refine (rLetter_any _ _).mono ?_; rw [hcl]; rintro e w1 ⟨rfl, rfl⟩)  | (go_at_call 34; refine (rDigit_any _ _).mono ?_; rw [hcd]; rintro e w1 ⟨rfl, rfl⟩))
            rw [HE.out]
            refine ret_one (t := ⟨1, a, 0, (s.data.toList.drop a).take K⟩) (n := k) (no := 0) rfl rfl rfl rfl rfl ?_ ⟨_, _, rfl, ?_, fun _ => ⟨rfl, ?_⟩⟩
            · exact Blk.new w tE _
            · exact (Below.refl _ w).alloc (Nat.le_refl _) _
            · show (k : Int) = ((a + K : Nat) : Int)
              rw [HKE.out]
      · have hke : k = a + K := by omega
        have HKE := Lib.hid hke
        clear hke
        by_cases h24 : 24 < K
        · have hdc : decide ((24 : Int) < (k : Int) - (a : Int)) = true := by rw [HKE.out]; simp; omega
          have e : scName (s.data.toList.drop a) = (tk0, 0, 10) := by rw [scName, HKK.out, if_pos h24]
          have HE := Lib.hid e
          clear e
          go_wp2
          rw [HE.out]
          exact ret_one (t := tk0) (n := k) (no := 10) rfl rfl rfl rfl rfl (Blk.new w tE _) ⟨_, _, rfl, (Below.refl _ w).alloc (Nat.le_refl _) _, fun h => by cases h⟩
        · have hdc : decide ((24 : Int) < (k : Int) - (a : Int)) = false := by rw [HKE.out]; simp; omega
          have e : scName (s.data.toList.drop a) = (⟨1, 0, 0, (s.data.toList.drop a).take K⟩, K, 0) := by rw [scName, HKK.out, if_neg h24]
          have HE := Lib.hid e
          clear e
          have hex : s.extract a k = str ((s.data.toList.drop a).take K) := by
            apply eq_str
            rw [Lib.extract_data, HKE.out, Nat.add_sub_cancel_left]
          have hkz : k ≤ s.size := by rw [HKE.out]; omega
          go_wp2
          rw [HE.out]
          refine ret_one (t := ⟨1, a, 0, (s.data.toList.drop a).take K⟩) (n := k) (no := 0) rfl rfl rfl rfl rfl ?_ ⟨_, _, rfl, ?_, fun _ => ⟨rfl, ?_⟩⟩
          · exact Blk.new w tE _
          · exact (Below.refl _ w).alloc (Nat.le_refl _) _
          · show (k : Int) = ((a + K : Nat) : Int)
            rw [HKE.out]
end Go.Proofs.YtpmljgnnfljjpaaDoor
