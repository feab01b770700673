/-
  Walks of layer lex: the document's answer: what is printed.
-/
import Derived.Test.YtpmljgnnfljjpaaDoorLexz
import Derived.Deep.RegionWith
namespace Go.Proofs.YtpmljgnnfljjpaaDoor
open Go.RowKit
set_option linter.unusedVariables false
set_option linter.unusedSimpArgs false

theorem txt_num {t : Tok} (h : t.k = 2) (n : Nat) (hn : t.n = n) : txt t = Lib.decDigits n ++ t.s := by
  rw [txt, if_pos h, hn, Lib.itoa, if_neg (by omega)]
  rfl

set_option maxHeartbeats 4000000 in
set_option maxRecDepth 100000 in
theorem rprint_any (toks : List Tok) (m : Nat) (hm : toks.length = m) (hm2 : m ≤ 2000000) (A : Option Addr) (c : Nat) (w : World) (hr : RdT w w.heap.size A toks) (hok : ∀ t ∈ toks, TokOk t ∧ 0 ≤ t.n) :
    Calls Tryd.prog 14 #[.slice A m c] w fun e w' => e = .returned (.string (str (jn (txts toks)))) ∧ Below w.heap.size w w' := by
  go_enter Tryd.func14, Tryd.ntmps14
  go_wp2
  go_loopw [3, 4] (fun v3 v4 wr => ∃ k : Nat, k ≤ m ∧ v4 = .int .i64 k ∧ v3 = .string (str (jn (txts (toks.take k)))) ∧ Below w.heap.size w wr) (fun _ v _ => m - (intOf v).toNat)
  case atStart => exact ⟨0, by omega, rfl, rfl, Below.refl _ _⟩
  case round =>
    obtain ⟨k, hk, rfl, rfl, hb⟩ := hrel
    by_cases hlt : k < m
    · obtain ⟨g, o, rfl, hg, x0, x1, x2, x3⟩ := (hr.below hb).at_ (by omega : k < toks.length)
      have ht : toks.take (k + 1) = toks.take k ++ [toks[k]] := by rw [List.take_succ_eq_append_getElem (by omega)]
      have hto := hok toks[k] (List.getElem_mem _)
      have htl := txt_len hto.1
      have hal := jn_len (txts (toks.take k)) (fun x hx => txts_len (fun t ht => (hok t ht).1) x (by
        have hpre : txts (toks.take k) <+: txts toks := ⟨txts (toks.drop k), by rw [txts, txts, txts, ← List.map_append, ← List.filter_append, List.take_append_drop]⟩
        exact hpre.subset hx))
      have hal2 : (txts (toks.take k)).length ≤ k := by
        rw [txts, List.length_map]
        exact Nat.le_trans (List.length_filter_le _ _) (by rw [List.length_take]; omega)
      generalize toks[k] = t at *
      have hbs := hb.size
      have hgl : g < wr.heap.size := by omega
      have HB := Lib.hid hb
      have HR := Lib.hid hr
      clear hb hr hok
      by_cases h4 : t.k = 4
      · have t4 : (t.k == 4) = true := by simp [h4]
        have t2 : (t.k == 2) = false := by simp [h4]
        have HS : Hid (txts (toks.take (k + 1)) = txts (toks.take k)) := Lib.hid (by rw [ht, txts_snoc, if_pos h4, List.append_nil])
        clear h4 ht
        go_wp2
        go_roundw
        case rel => exact ⟨k + 1, by omega, by go_num, by rw [HS.out], HB.out⟩
        case measure => simp [intOf]; omega
      · have t4 : (t.k == 4) = false := by simpa using h4
        have HJ : Hid (jn (txts (toks.take (k + 1))) = jstep (jn (txts (toks.take k))) (txt t)) := Lib.hid (by rw [ht, txts_snoc, if_neg h4, jn_snoc])
        clear h4 ht
        obtain ⟨a, ha⟩ : ∃ a, jn (txts (toks.take k)) = a := ⟨_, rfl⟩
        rw [ha] at HJ hal ⊢
        clear ha
        have haz : a.length ≤ 92000000 := by omega
        clear hal hal2
        by_cases he : a = []
        · subst he
          have HJS : Hid (jn (txts (toks.take (k + 1))) = txt t) := Lib.hid (by rw [HJ.out, jstep, if_pos rfl])
          have hadd3 := fun W : World => run_string_add_sum (P := Tryd.prog) W (str []) (str (txt t)) (by rw [str_size, str_size]; simp; omega)
          simp only [str_append, List.nil_append] at hadd3
          clear HJ haz
          by_cases h2 : t.k = 2
          · have t2 : (t.k == 2) = true := by simp [h2]
            obtain ⟨u, hu⟩ : ∃ u : Nat, t.n = u := ⟨t.n.toNat, by have := hto.2; omega⟩
            have hub : u ≤ 9223372036854775807 := by have := hto.1.2.2; omega
            have htx := txt_num h2 u hu
            have HD := Lib.hid (rdigits_any u hub)
            have hdl : (Lib.decDigits u).length ≤ 45 := by rw [htx, List.length_append] at htl; omega
            have hsl := hto.1.1
            have hadd := fun W : World => run_string_add_sum (P := Tryd.prog) W (str (Lib.decDigits u)) (str t.s) (by rw [str_size, str_size]; omega)
            simp only [str_append, ← htx] at hadd
            rw [hu] at x2
            clear h2 htx hto hdl hsl
            go_wp2
            go_region_with (go_at_call 29; refine (HD.out _).mono ?_; rintro e w1 ⟨rfl, hb1⟩; have y3 : w1.cell? ⟨g, o + k * 4 + 3, none⟩ = some (.string (str t.s)) := (hb1.cell (p := ⟨g, o + k * 4 + 3, none⟩) (by simpa using hgl)).trans (by simpa using x3); have y0 : w1.cell? ⟨g, o + k * 4, none⟩ = some (.int .i64 t.k) := (hb1.cell (p := ⟨g, o + k * 4, none⟩) (by simpa using hgl)).trans (by simpa using x0))
            all_goals
              have hbb : Below wr.heap.size wr w1 := (below_drewN _ wr 1).trans (hb1.mono (by simp))
              have HBB := Lib.hid (HB.out.trans (hbb.mono hbs))
              clear hb1 hbb
              go_wp2
              go_roundw
              case rel => exact ⟨k + 1, by omega, by go_num, by rw [HJS.out], HBB.out⟩
              case measure => simp [intOf]; omega
          · have t2 : (t.k == 2) = false := by simpa using h2
            have htx : txt t = t.s := by rw [txt, if_neg h2]
            simp only [htx] at hadd3 HJS htl
            clear h2 htx hto
            go_wp2
            go_roundw
            case rel => exact ⟨k + 1, by omega, by go_num, by rw [HJS.out], HB.out⟩
            case measure => simp [intOf]; omega
        · have HJS : Hid (jn (txts (toks.take (k + 1))) = a ++ 32 :: txt t) := Lib.hid (by rw [HJ.out, jstep, if_neg he])
          have hadd3 := fun W : World => run_string_add_sum (P := Tryd.prog) W (str a) (str [32]) (by rw [str_size, str_size]; simp; omega)
          have hadd4 := fun W : World => run_string_add_sum (P := Tryd.prog) W (str (a ++ [32])) (str (txt t)) (by rw [str_size, str_size]; simp; omega)
          simp only [str_append, List.append_assoc, List.singleton_append] at hadd3 hadd4
          have hne : a.isEmpty = false := by simpa using he
          clear HJ he
          by_cases h2 : t.k = 2
          · have t2 : (t.k == 2) = true := by simp [h2]
            obtain ⟨u, hu⟩ : ∃ u : Nat, t.n = u := ⟨t.n.toNat, by have := hto.2; omega⟩
            have hub : u ≤ 9223372036854775807 := by have := hto.1.2.2; omega
            have htx := txt_num h2 u hu
            have HD := Lib.hid (rdigits_any u hub)
            have hdl : (Lib.decDigits u).length ≤ 45 := by rw [htx, List.length_append] at htl; omega
            have hsl := hto.1.1
            have hadd := fun W : World => run_string_add_sum (P := Tryd.prog) W (str (Lib.decDigits u)) (str t.s) (by rw [str_size, str_size]; omega)
            simp only [str_append, ← htx] at hadd
            rw [hu] at x2
            clear h2 htx hto hdl hsl
            go_wp2
            go_region_with (go_at_call 29; refine (HD.out _).mono ?_; rintro e w1 ⟨rfl, hb1⟩; have y3 : w1.cell? ⟨g, o + k * 4 + 3, none⟩ = some (.string (str t.s)) := (hb1.cell (p := ⟨g, o + k * 4 + 3, none⟩) (by simpa using hgl)).trans (by simpa using x3); have y0 : w1.cell? ⟨g, o + k * 4, none⟩ = some (.int .i64 t.k) := (hb1.cell (p := ⟨g, o + k * 4, none⟩) (by simpa using hgl)).trans (by simpa using x0))
            all_goals
              have hbb : Below wr.heap.size wr w1 := (below_drewN _ wr 1).trans (hb1.mono (by simp))
              have HBB := Lib.hid (HB.out.trans (hbb.mono hbs))
              clear hb1 hbb
              go_wp2
              go_roundw
              case rel => exact ⟨k + 1, by omega, by go_num, by rw [HJS.out], HBB.out⟩
              case measure => simp [intOf]; omega
          · have t2 : (t.k == 2) = false := by simpa using h2
            have htx : txt t = t.s := by rw [txt, if_neg h2]
            simp only [htx] at hadd3 hadd4 HJS htl
            clear h2 htx hto
            go_wp2
            go_roundw
            case rel => exact ⟨k + 1, by omega, by go_num, by rw [HJS.out], HB.out⟩
            case measure => simp [intOf]; omega
    · obtain rfl : k = m := by omega
      rw [← hm, List.take_length]
      go_wp2
      go_ret
      exact ⟨rfl, hb⟩
end Go.Proofs.YtpmljgnnfljjpaaDoor
