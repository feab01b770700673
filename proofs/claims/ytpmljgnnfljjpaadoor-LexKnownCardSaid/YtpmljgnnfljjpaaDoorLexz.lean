/-
  Walks of layer lex: the document's answer: digits.
-/
import Derived.Test.YtpmljgnnfljjpaaDoorLexv
import Derived.Test.YtpmljgnnfljjpaaDoorLexp
namespace Go.Proofs.YtpmljgnnfljjpaaDoor
open Go.RowKit
set_option linter.unusedVariables false
set_option linter.unusedSimpArgs false

theorem dec_len (n : Nat) : (Lib.decDigits n).length ≤ n + 1 := by
  induction n using Nat.strongRecOn with
  | _ n ih =>
    by_cases h : n < 10
    · rw [dec_small h]; simp
    · rw [dec_big h, List.length_append]
      have := ih (n / 10) (by omega)
      simp
      omega

set_option maxHeartbeats 1000000 in
set_option maxRecDepth 100000 in
theorem rdigits_any (n : Nat) : n ≤ 9223372036854775807 → ∀ w : World,
    Calls Tryd.prog 29 #[.int .i64 n] w fun e w' => e = .returned (.string (str (Lib.decDigits n))) ∧ Below w.heap.size w w' := by
  induction n using Nat.strongRecOn with
  | _ n ih =>
    intro hn w
    by_cases h : n < 10
    · have hd := dec_small h
      have hd' := hd
      have hu8 : ((UInt8.ofNat (48 + n)).toNat : Int) = 48 + (n : Int) := by
        have e8 : (UInt8.ofNat (48 + n)).toNat = 48 + n := by rw [UInt8.toNat_ofNat']; omega
        rw [e8]; omega
      have hcv := run_convert_bytes_back (P := Tryd.prog) (w.alloc (.cells #[.int .u8 (48 + (n : Int))] tU)) 40 9 tU ⟨w.heap.size, 0, none⟩ 1 [UInt8.ofNat (48 + n)] Tryd.underlying40 Tryd.underlying5 Tryd.underlying9 (by
        intro j hj
        match j, hj with
        | 0, _ => rw [List.getElem_cons_zero, hu8]; exact (Blk.new w tU #[.int .u8 (48 + (n : Int))]).cell 0)
      have hcv' : (convert 40 9 (.slice (some ⟨w.heap.size, 0, none⟩) 1 1)).run Tryd.prog (w.alloc (.cells #[.int .u8 (48 + (n : Int))] tU)) = .ok (.string (str (Lib.decDigits n))) (w.alloc (.cells #[.int .u8 (48 + (n : Int))] tU)) := by rw [hd']; exact hcv
      clear hd hd' ih hu8 hcv
      go_enter Tryd.func29, Tryd.ntmps29
      go_wp2
      go_ret
      exact ⟨rfl, (Below.refl _ w).alloc (Nat.le_refl _) _⟩
    · have h1 := ih (n / 10) (by omega) (by omega)
      have h2 := ih (n % 10) (by omega) (by omega)
      have hd := dec_big h
      have hs := dec_small (show n % 10 < 10 by omega)
      rw [← hs] at hd
      have HD := Lib.hid hd
      have hl1 := dec_len (n / 10)
      have hl2 := dec_len (n % 10)
      have HT1 : Hid ((n : Int) / 10 = ((n / 10 : Nat) : Int)) := Lib.hid (by omega)
      have HT2 : Hid ((n : Int) % 10 = ((n % 10 : Nat) : Int)) := Lib.hid (by omega)
      have hadd := fun W : World => run_string_add_sum (P := Tryd.prog) W (str (Lib.decDigits (n / 10))) (str (Lib.decDigits (n % 10))) (by rw [str_size, str_size]; omega)
      simp only [str_append, ← hd] at hadd
      clear hd hs ih
      go_enter Tryd.func29, Tryd.ntmps29
      go_wp2_with fail
      rw [HT1.out]
      refine (h1 _).mono ?_
      rintro e w1 ⟨rfl, hb1⟩
      go_wp2_with fail
      rw [HT2.out]
      refine (h2 _).mono ?_
      rintro e w2 ⟨rfl, hb2⟩
      go_wp2
      go_ret
      exact ⟨rfl, hb1.trans (hb2.mono hb1.size)⟩
end Go.Proofs.YtpmljgnnfljjpaaDoor
