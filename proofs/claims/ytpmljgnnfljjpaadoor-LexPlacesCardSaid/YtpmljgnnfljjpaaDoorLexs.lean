/-
  The walk of the statement LexPlaces.
-/
import Derived.Test.YtpmljgnnfljjpaaDoorLexq
namespace Go.Proofs.YtpmljgnnfljjpaaDoor
open Go.RowKit
set_option linter.unusedVariables false
set_option linter.unusedSimpArgs false

/-- Where the rounds stand: i tokens are over, the last ended at a. -/
def PlS (s : ByteArray) (toks : List Tok) (i a : Nat) : Prop :=
  a ≤ s.size ∧ (toks.drop i = [] ∨ ∃ segs, toks.drop i = tokL s.size a segs ∧ Sg (s.data.toList.drop a) segs)

theorem tokL_last (e : Nat) (segs : List Seg) : ∀ a, (tokL e a segs)[segs.length]? = some ⟨4, e, 0, []⟩ := by
  induction segs with
  | nil => intro a; rfl
  | cons s q ih => intro a; rw [tokL, List.length_cons, List.getElem?_cons_succ]; exact ih _

theorem lex_gap {g : List UInt8} {st : Bool} (h : gp false g = some st) (hl : g.length ≤ 1048576) : lexL g = ([⟨4, g.length, 0, []⟩], 0, 0) := by
  rw [(Sg.fin g st h).lex hl]; rfl

theorem extract_list (s : ByteArray) (a b : Nat) : (s.extract a b).data.toList = (s.data.toList.drop a).take (b - a) := Lib.extract_data s a b

theorem PlS.round {s : ByteArray} {toks : List Tok} {i a : Nat} (h : PlS s toks i a) (hi : i < toks.length) (hs : s.size ≤ 1048576) :
    ∃ (p : Nat) (W : ByteArray), toks[i].p = p ∧ jn (txts [toks[i]]) = W.data.toList ∧ a ≤ p ∧ p + W.size ≤ s.size ∧ s.extract p (p + W.size) = W ∧ lexL (s.extract a p).data.toList = ([⟨4, (p - a : Nat), 0, []⟩], 0, 0) ∧ (toks[i].k = 4 ∨ 0 < W.size) ∧ PlS s toks (i + 1) (p + W.size) := by
  obtain ⟨ha, h | ⟨segs, hd, hS⟩⟩ := h
  · have := congrArg List.length h; rw [List.length_drop] at this; simp at this; omega
  · have hdi := List.drop_eq_getElem_cons hi
    have hlen : (s.data.toList.drop a).length = s.size - a := by rw [List.length_drop, ← Lib.size_eq]
    obtain ⟨l, heq⟩ : ∃ l, s.data.toList.drop a = l := ⟨_, rfl⟩
    rw [heq] at hS hlen
    cases hS with
    | fin _ st hg =>
      rw [tokL, hdi] at hd
      obtain ⟨ht, hr⟩ := List.cons.inj hd
      rw [ht]
      refine ⟨s.size, ⟨#[]⟩, rfl, by rfl, ha, by show s.size + 0 ≤ s.size; omega, ?_, ?_, .inl rfl, by show s.size + 0 ≤ s.size; omega, .inl hr⟩
      · have : s.extract s.size (s.size + 0) = str [] := eq_str (by rw [extract_list]; simp)
        exact this
      · have e : (s.extract a s.size).data.toList = l := by rw [extract_list, heq, List.take_of_length_le (by omega)]
        rw [e, lex_gap hg (by omega), hlen]
    | step g u r tk q hg hu hsc h0 hr =>
      rw [tokL, hdi] at hd
      obtain ⟨ht, hrest⟩ := List.cons.inj hd
      simp only at ht hrest
      obtain ⟨h1, h2, h3⟩ := sc_txt hu hsc
      have htx : jn (txts [toks[i]]) = u := by
        rw [ht]
        have : txts [tk.to ((a + g.length : Nat))] = [txt tk] := by
          unfold txts
          rw [List.filter_cons, if_pos (by simp only [decide_eq_true_eq]; exact h3)]
          rfl
        rw [this, h1]; simp [jn, jstep]
      have hl2 : g.length + (u.length + r.length) = s.size - a := by rw [← hlen]; simp
      have e1 : s.data.toList.drop (a + g.length) = u ++ r := by rw [← List.drop_drop, heq, List.drop_left]
      refine ⟨a + g.length, str u, by rw [ht]; rfl, htx, by omega, by rw [str_size]; omega, ?_, ?_, .inr (by rw [str_size]; exact List.length_pos_iff.2 hu), by rw [str_size]; omega, ?_⟩
      · apply eq_str
        rw [extract_list, e1, str_size, Nat.add_sub_cancel_left, List.take_left]
      · have e : (s.extract a (a + g.length)).data.toList = g := by rw [extract_list, heq, Nat.add_sub_cancel_left, List.take_left]
        rw [e, lex_gap hg (by omega), Nat.add_sub_cancel_left]
      · right
        refine ⟨q, ?_, ?_⟩
        · rw [str_size]; exact hrest
        · rw [str_size, ← List.drop_drop, e1, List.drop_left]; exact hr

set_option maxHeartbeats 4000000 in
set_option maxRecDepth 100000 in
theorem lexPlaces_walk (s : ByteArray) (w : World) (hs : s.size ≤ maxLen) (hE : Env w) :
    Calls Tryd.prog 5 #[.string s] w fun e w' => e = .returned (.bool true) ∧ Below w.heap.size w w' := by
  have hL := lex_any s hs w hE
  have HE := Lib.hid hE
  clear hE
  by_cases hbig : 8192 < s.size
  · go_enter Tryd.func5, Tryd.ntmps5
    go_wp2_with fail
    refine hL.mono ?_
    rintro e w1 hp
    obtain ⟨A, c, rfl, hr, hlc, hcm, hb, hown⟩ := lex_use hp
    generalize lexL s.data.toList = x at *
    obtain ⟨toks, no, at_⟩ := x
    have HB := Lib.hid (hb.alloc hb.size (.cells #[.int .i64 no, .int .i64 at_] tD))
    clear hL hp hr hlc hcm hb hown
    go_wp2_with (go_at_call 8; refine (known_at w _ HE.out HB.out).mono ?_; rintro e w2 ⟨rfl, hb2⟩)
    go_ret
    exact ⟨rfl, by assumption⟩
  · rcases lex_cases s (by omega) with ⟨no, at_, hx, hno, h0, h1⟩ | ⟨segs, hS, hx, hcnt⟩
    · rw [hx] at hL
      have hno' : (no != 0) = true := by simpa using hno
      clear hx hno
      go_enter Tryd.func5, Tryd.ntmps5
      go_wp2_with fail
      refine hL.mono ?_
      rintro e w1 hp
      obtain ⟨A, c, rfl, hr, hlc, hcm, hb, hown⟩ := lex_use hp
      have HB := Lib.hid (hb.alloc hb.size (.cells #[.int .i64 no, .int .i64 at_] tD))
      clear hL hp hr hlc hcm hb hown
      go_wp2_with (go_at_call 8; refine (known_at w _ HE.out HB.out).mono ?_; rintro e w2 ⟨rfl, hb2⟩)
      go_ret
      exact ⟨rfl, by assumption⟩
    · rw [hx] at hL
      have hP0 : PlS s (tokL s.size 0 segs) 0 0 := ⟨by omega, .inr ⟨segs, rfl, by rw [List.drop_zero]; exact hS⟩⟩
      have hok := tokL_ok hS s.size 0
      have hm : (tokL s.size 0 segs).length = segs.length + 1 := tokL_length _ _ _
      have hlast : ∃ h : segs.length < (tokL s.size 0 segs).length, (tokL s.size 0 segs)[segs.length] = ⟨4, s.size, 0, []⟩ := ⟨by omega, by have := tokL_last s.size segs 0; rw [List.getElem?_eq_getElem (by omega)] at this; exact Option.some.inj this⟩
      generalize tokL s.size 0 segs = toks at *
      generalize segs.length = n at *
      clear hx hS
      obtain ⟨hnl, hlast⟩ := hlast
      have HP0 := Lib.hid hP0
      have HOK := Lib.hid hok
      have HM := Lib.hid hm
      have HLAST := Lib.hid hlast
      have hdec : decide ((8192 : Int) < (s.size : Int)) = false := by simp; omega
      clear hP0 hok hlast
      go_enter Tryd.func5, Tryd.ntmps5
      go_wp2_with fail
      refine hL.mono ?_
      rintro e w1 hp
      clear hL
      obtain ⟨A, c, rfl, hr, hlc, hcm, hb, hown⟩ := lex_use hp
      simp only at hr hlc hown
      rw [HM.out] at hlc ⊢
      obtain ⟨g, o, rfl, hg, x0, x1, x2, x3⟩ := hr.at_ hnl
      rw [HLAST.out] at x0 x1
      simp only at x0 x1
      have hb1 := hb.alloc hb.size (.cells #[.int .i64 0, .int .i64 0] tD)
      have hr1 := (hr.below ((Below.refl _ w1).alloc (Nat.le_refl _) (.cells #[.int .i64 0, .int .i64 0] tD))).more (B' := (w1.alloc (.cells #[.int .i64 0, .int .i64 0] tD)).heap.size) (by simp)
      have HB1 := Lib.hid hb1
      have HR1 := Lib.hid hr1
      clear hp hr hcm hb hown hb1 hr1 x2 x3 hm
      go_wp2_with fail
      go_loopw [5, 6] (fun v5 v wr => ∃ (i a : Nat), v = .int .i64 i ∧ v5 = .int .i64 a ∧ i ≤ n + 1 ∧ PlS s toks i a ∧ Below (w1.alloc (.cells #[.int .i64 0, .int .i64 0] tD)).heap.size (w1.alloc (.cells #[.int .i64 0, .int .i64 0] tD)) wr) (fun _ v _ => n + 1 - (intOf v).toNat)
      case atStart => exact ⟨0, 0, rfl, rfl, by omega, HP0.out, Below.refl _ _⟩
      case round =>
        obtain ⟨i, a, rfl, rfl, hi, hP, hbr⟩ := hrel
        by_cases hlt : i < n + 1
        · obtain ⟨p, W, hp, hj, hap, hpW, hex, hgap, hk, hP2⟩ := hP.round (by rw [HM.out]; exact hlt) (by omega)
          obtain ⟨g', o', heq, hg', x0, x1, x2, x3⟩ := (HR1.out.below hbr).at_ (by rw [HM.out]; exact hlt)
          simp only [Option.some.injEq, Addr.mk.injEq] at heq
          obtain ⟨rfl, rfl, _⟩ := heq
          have hto := HOK.out toks[i] (List.getElem_mem _)
          generalize toks[i]'(by rw [HM.out]; exact hlt) = t at *
          rw [hp] at x1
          have hic : i < c := by omega
          have hc1 : i ≤ c := by omega
          have hgl : g < wr.heap.size := by have := hbr.size; simp at this; omega
          have hb0 := HB1.out.trans (hbr.mono HB1.out.size)
          have hR : RdT wr wr.heap.size (some ⟨g, o + i * 4, none⟩) [t] := .inr ⟨g, o + i * 4, rfl, hgl, fun j t' ht' => by
            cases j with
            | zero => simp only [List.getElem?_cons_zero, Option.some.injEq] at ht'; subst ht'; rw [hp]; simp only [Nat.zero_mul, Nat.add_zero]; exact ⟨x0, x1, x2, x3⟩
            | succ j => simp at ht'⟩
          have P1 := Lib.hid (print_any [t] 1 rfl (by omega) (some ⟨g, o + i * 4, none⟩) (c - i) wr (HE.out.of hb0) hR (fun t' ht' => by rw [List.mem_singleton] at ht'; subst ht'; exact hto))
          have HJ := Lib.hid hj
          have HGAP := Lib.hid hgap
          have HP2 := Lib.hid hP2
          have Hbr := Lib.hid hbr
          have HB0 := Lib.hid hb0
          have HK := Lib.hid hk
          clear hP hp hj hgap hP2 hto hR hk
          go_wp2_with fail
          refine P1.out.mono ?_
          clear P1
          rw [HJ.out, show str W.data.toList = W from rfl]
          rintro e w2 ⟨rfl, hb2⟩
          obtain ⟨hcl2, hfr2⟩ := bcell hb2
          have hb20 := HB0.out.trans (hb2.mono HB0.out.size)
          have hexs : (s.extract a p).size ≤ maxLen := by rw [ByteArray.size_extract]; unfold maxLen; omega
          have L3 := Lib.hid (lex_any (s.extract a p) hexs w2 (HE.out.of hb20))
          have hw2 : Below (w1.alloc (.cells #[.int .i64 0, .int .i64 0] tD)).heap.size (w1.alloc (.cells #[.int .i64 0, .int .i64 0] tD)) w2 := Hbr.out.trans (hb2.mono Hbr.out.size)
          have HW2 := Lib.hid hw2
          clear hb2 hb20 hw2
          by_cases hk4 : t.k = 4
          · have q4 : (t.k != 4) = false := by simp [hk4]
            clear hk4
            go_wp2_with fail
            refine L3.out.mono ?_
            clear L3
            rw [HGAP.out]
            rintro e w3 hp3
            obtain ⟨A3, c3, rfl, hr3, hlc3, hcm3, hb3, hown3⟩ := lex_use hp3
            have HW3 := Lib.hid ((HW2.out.trans (hb3.mono HW2.out.size)).alloc (Nat.le_trans HW2.out.size hb3.size) (.cells #[.int .i64 0, .int .i64 0] tD))
            clear hp3 hr3 hlc3 hcm3 hb3 hown3
            go_wp2
            go_roundw
            case rel =>
              repeat apply Exists.intro
              exact ⟨⟨i + 1, p + W.size, by go_num, by go_num, by omega, HP2.out, HW3.out⟩, rfl⟩
            case measure => simp [intOf]; omega
          · have q4 : (t.k != 4) = true := by simpa using hk4
            have hW0 : ((W.size : Int) == 0) = false := by
              rcases HK.out with h | h
              · exact absurd h hk4
              · exact beq_eq_false_iff_ne.2 (by omega)
            clear hk4
            go_wp2_with fail
            refine L3.out.mono ?_
            clear L3
            rw [HGAP.out]
            rintro e w3 hp3
            obtain ⟨A3, c3, rfl, hr3, hlc3, hcm3, hb3, hown3⟩ := lex_use hp3
            have HW3 := Lib.hid ((HW2.out.trans (hb3.mono HW2.out.size)).alloc (Nat.le_trans HW2.out.size hb3.size) (.cells #[.int .i64 0, .int .i64 0] tD))
            clear hp3 hr3 hlc3 hcm3 hb3 hown3
            go_wp2
            go_roundw
            case rel =>
              repeat apply Exists.intro
              exact ⟨⟨i + 1, p + W.size, by go_num, by go_num, by omega, HP2.out, HW3.out⟩, rfl⟩
            case measure => simp [intOf]; omega
        · have HB2 := Lib.hid (HB1.out.trans (hbr.mono HB1.out.size))
          clear hbr
          go_wp2_with (go_at_call 8; refine (known_at w _ HE.out HB2.out).mono ?_; rintro e w2 ⟨rfl, hb2⟩)
          go_ret
          exact ⟨rfl, by assumption⟩
end Go.Proofs.YtpmljgnnfljjpaaDoor
