/-
  The walk of the statement LexBack.
-/
import Derived.Test.YtpmljgnnfljjpaaDoorLexo
import Derived.Test.YtpmljgnnfljjpaaDoorLexw
namespace Go.Proofs.YtpmljgnnfljjpaaDoor
open Go.RowKit
set_option linter.unusedVariables false
set_option linter.unusedSimpArgs false

theorem Sg.count {l : List UInt8} {segs : List Seg} (h : Sg l segs) : segs.length ≤ l.length := by
  induction h with
  | fin g st hg => simp
  | step g u r tk segs hg hu hsc h0 hr ih =>
    have := List.length_pos_iff.2 hu
    simp only [List.length_cons, List.length_append]
    omega

theorem tokL_length (e a : Nat) (segs : List Seg) : (tokL e a segs).length = segs.length + 1 := by
  induction segs generalizing a with
  | nil => rfl
  | cons s q ih => rw [tokL, List.length_cons, ih, List.length_cons]

theorem sq_err (n : Nat) : ∀ (a : Nat) (l : List UInt8) (pre : List Tok), (res pre (sq n a l)).2.1 ≠ 0 → (res pre (sq n a l)).1 = [] ∧ (a : Int) ≤ (res pre (sq n a l)).2.2 ∧ (res pre (sq n a l)).2.2 < ((a + l.length : Nat) : Int) := by
  induction n with
  | zero => intro a l pre h; exact absurd rfl h
  | succ n ih =>
    intro a l pre h
    rw [sq] at h ⊢
    by_cases hl : l = []
    · rw [if_pos hl] at h; simp [res] at h
    · rw [if_neg hl] at h ⊢
      have hl1 := List.length_pos_iff.2 hl
      by_cases h0 : (sc l).2.2 ≠ 0
      · rw [if_pos h0] at h ⊢
        rw [res, if_pos h0]
        refine ⟨rfl, ?_, ?_⟩
        · show (a : Int) ≤ (a : Int); omega
        · show (a : Int) < _; omega
      · rw [if_neg h0] at h ⊢
        rw [res, if_neg (by simp)] at h ⊢
        have hsz := sc_size (l := l) (by simpa using h0)
        have hsk := sk_le false (l.drop (sc l).2.1)
        rw [List.length_drop] at hsk
        obtain ⟨h1, h2, h3⟩ := ih _ _ _ h
        refine ⟨h1, by omega, ?_⟩
        rw [List.length_drop] at h3
        omega

theorem lex_err {l : List UInt8} (hl : l.length ≤ 1048576) (h : (lexL l).2.1 ≠ 0) : (lexL l).1 = [] ∧ 0 ≤ (lexL l).2.2 ∧ (lexL l).2.2 < (l.length : Int) := by
  rw [lexL, if_neg (by omega)] at h ⊢
  have h2 := sk_le false l
  have := sq_err (l.length + 1 - sk false l) (sk false l) (l.drop (sk false l)) []
  unfold seqL seqAt skAt at h ⊢
  rw [List.drop_zero, Nat.zero_add] at h ⊢
  obtain ⟨h3, h4, h5⟩ := this h
  rw [List.length_drop] at h5
  exact ⟨h3, by omega, by omega⟩

/-- The three kinds of texts. -/
theorem lex_cases (s : ByteArray) (hs : s.size ≤ 1048576) : (∃ no at_ : Int, lexL s.data.toList = ([], no, at_) ∧ no ≠ 0 ∧ 0 ≤ at_ ∧ at_ < s.size) ∨
    ∃ segs, Sg s.data.toList segs ∧ lexL s.data.toList = (tokL s.size 0 segs, 0, 0) ∧ segs.length ≤ s.size := by
  have hl : s.data.toList.length ≤ 1048576 := by rw [← Lib.size_eq]; exact hs
  by_cases h : (lexL s.data.toList).2.1 = 0
  · obtain ⟨_, segs, hS⟩ := lex_Sg h
    exact .inr ⟨segs, hS, by rw [hS.lex hl, ← Lib.size_eq], by rw [Lib.size_eq]; exact hS.count⟩
  · obtain ⟨h1, h2, h3⟩ := lex_err hl h
    refine .inl ⟨_, _, ?_, h, h2, by rw [Lib.size_eq]; exact h3⟩
    rw [← h1]

theorem own_use {w : World} {toks : List Tok} {e : Ending} {w' : World} (h : OwnPost w toks e w') :
    ∃ A c, e = .returned (.slice A toks.length c) ∧ RdT w' w'.heap.size A toks ∧ toks.length ≤ c ∧ c ≤ maxLen ∧ Below w.heap.size w w' ∧ w'.ownsRow w.heap.size tE 4 (.slice A toks.length c) toks.length (cellsT toks) := by
  obtain ⟨v, rfl, hr, hb⟩ := h
  obtain ⟨A, c, rfl⟩ : ∃ A c, v = .slice A toks.length c := by
    rcases hr.2 with ⟨rfl, h0⟩ | ⟨g, cap, cur, rfl, _⟩
    · exact ⟨none, 0, by rw [h0]⟩
    · exact ⟨_, _, rfl⟩
  obtain ⟨h1, h2, h3⟩ := RdT.of_own hr rfl
  exact ⟨A, c, rfl, h1, h2, h3, hb, hr⟩

set_option maxHeartbeats 4000000 in
set_option maxRecDepth 100000 in
theorem lexBack_walk (s : ByteArray) (w : World) (hs : s.size ≤ maxLen) (hE : Env w) :
    Calls Tryd.prog 4 #[.string s] w fun e w' => e = .returned (.bool true) ∧ Below w.heap.size w w' := by
  have hL := lex_any s hs w hE
  have HE := Lib.hid hE
  clear hE
  by_cases hbig : 8192 < s.size
  · go_enter Tryd.func4, Tryd.ntmps4
    go_wp2_with fail
    refine hL.mono ?_
    rintro e w1 hp
    obtain ⟨A, c, rfl, hr, hlc, hcm, hb, hown⟩ := lex_use hp
    generalize lexL s.data.toList = x at *
    obtain ⟨toks, no, at_⟩ := x
    have HB := Lib.hid (hb.alloc hb.size (.cells #[.int .i64 no, .int .i64 at_] tD))
    clear hL hp hr hlc hcm hb hown
    go_wp2_with (go_at_call 8; refine (known_at w _ HE.out HB.out).mono ?_; rintro e w2 ⟨rfl, hb2⟩)
    go_ret
    exact ⟨rfl, by assumption⟩
  · rcases lex_cases s (by omega) with ⟨no, at_, hx, hno, h0, h1⟩ | ⟨segs, hS, hx, hcnt⟩
    · rw [hx] at hL
      have hno' : (no != 0) = true := by simpa using hno
      clear hx hno
      go_enter Tryd.func4, Tryd.ntmps4
      go_wp2_with fail
      refine hL.mono ?_
      rintro e w1 hp
      obtain ⟨A, c, rfl, hr, hlc, hcm, hb, hown⟩ := lex_use hp
      have HB := Lib.hid (hb.alloc hb.size (.cells #[.int .i64 no, .int .i64 at_] tD))
      clear hL hp hr hlc hcm hb hown
      go_wp2_with (go_at_call 8; refine (known_at w _ HE.out HB.out).mono ?_; rintro e w2 ⟨rfl, hb2⟩)
      go_ret
      exact ⟨rfl, by assumption⟩
    · obtain ⟨segs', hS', hmap⟩ := hS.back [] rfl
      have hus : us segs' = us segs := by
        have := congrArg (List.map fun x : List UInt8 × Tok => x.1) hmap
        rw [List.map_map, List.map_map] at this
        exact this
      have hjn : jn (us segs) = jo (us segs) := jn_jo _ (fun x hx => by obtain ⟨z, hz, rfl⟩ := List.mem_map.1 hx; exact (hS.tok z hz).1)
      rw [List.nil_append, ← hjn] at hS'
      have hpl : (jn (us segs)).length ≤ 400000 := by
        have h1 := txts_len (tokL_ok hS s.size 0)
        rw [txts_tokL hS] at h1
        have h2 := jn_len (us segs) h1
        have h3 : (us segs).length = segs.length := by simp [us]
        omega
      have hx' := hS'.lex (by omega)
      have hc' := hS'.count
      have ht := txts_tokL hS s.size 0
      have ht' := txts_tokL hS' (jn (us segs)).length 0
      rw [hus] at ht'
      have hok := tokL_ok hS s.size 0
      have hok' := tokL_ok hS' (jn (us segs)).length 0
      have hbare := bare_tokL s.size (jn (us segs)).length 0 0 segs segs' hmap.symm
      have hm : (tokL s.size 0 segs).length ≤ 8193 := by rw [tokL_length]; omega
      have hm' : (tokL (jn (us segs)).length 0 segs').length ≤ 400001 := by rw [tokL_length]; omega
      generalize tokL s.size 0 segs = toks at *
      generalize hpd : jn (us segs) = p at *
      generalize tokL p.length 0 segs' = toks' at *
      have hpp : jn (txts toks) = p := by rw [ht, hpd]
      have hpp' : jn (txts toks') = p := by rw [ht', hpd]
      have hps : (str p).size ≤ maxLen := by rw [str_size]; unfold maxLen; omega
      have hbl : (bareL toks).length = toks.length := List.length_map ..
      have hbl' : (bareL toks).length = toks'.length := by rw [hbare]; exact List.length_map ..
      rw [hx] at hL
      clear hx hS hS' hmap hus hjn ht ht' hpd hcnt hc'
      have HX' := Lib.hid hx'
      have HOK := Lib.hid hok
      have HOK' := Lib.hid hok'
      have HBARE := Lib.hid hbare
      have HPP := Lib.hid hpp
      have HPP' := Lib.hid hpp'
      have HBL := Lib.hid hbl
      have HBL' := Lib.hid hbl'
      clear hx' hok hok' hbare hpp hpp' hbl hbl'
      have hmm : toks.length ≤ maxLen := by unfold maxLen; omega
      generalize hme : toks.length = m at *
      have hme' : toks'.length = m := HBL'.out.symm.trans HBL.out
      rw [hme'] at hm'
      have HM := Lib.hid hme
      have HM' := Lib.hid hme'
      clear hme hme'
      go_enter Tryd.func4, Tryd.ntmps4
      go_wp2_with fail
      refine hL.mono ?_
      rintro e w1 hp
      clear hL
      obtain ⟨A, c, rfl, hr, hlc, hcm, hb, hown⟩ := lex_use hp
      simp only at hr
      rw [HM.out]
      have hb1 := hb.alloc hb.size (.cells #[.int .i64 0, .int .i64 0] tD)
      have hr1 := (hr.below ((Below.refl _ w1).alloc (Nat.le_refl _) (.cells #[.int .i64 0, .int .i64 0] tD))).more (B' := (w1.alloc (.cells #[.int .i64 0, .int .i64 0] tD)).heap.size) (by simp)
      have P1 := Lib.hid (print_any toks m HM.out (by omega) A c _ (HE.out.of hb1) hr1 HOK.out)
      have HB1 := Lib.hid hb1
      have HR1 := Lib.hid hr1
      clear hp hr hlc hcm hb hown hb1 hr1
      go_wp2_with fail
      refine P1.out.mono ?_
      clear P1
      rw [HPP.out]
      rintro e w2 ⟨rfl, hb2⟩
      obtain ⟨hcl2, hfr2⟩ := bcell hb2
      have hz2 : w1.heap.size < w2.heap.size := by have := hb2.size; simp at this; omega
      have hr2 := (HR1.out.below hb2).more hb2.size
      have hb20 := HB1.out.trans (hb2.mono HB1.out.size)
      have L2 := Lib.hid (lex_any (str p) hps w2 (HE.out.of hb20))
      have HR2 := Lib.hid hr2
      have HB2 := Lib.hid hb20
      clear hb2 hr2 hb20 HR1 HB1
      go_wp2_with fail
      refine L2.out.mono ?_
      clear L2
      rw [HX'.out]
      rintro e w3 hp3
      obtain ⟨A3, c3, rfl, hr3, hlc3, hcm3, hb3, hown3⟩ := lex_use hp3
      simp only at hr3
      rw [HM'.out]
      have hz3 : w1.heap.size < w3.heap.size := by have := hb3.size; omega
      have k3 := hb3.alloc hb3.size (.cells #[.int .i64 0, .int .i64 0] tD)
      have k30 := HB2.out.trans (k3.mono HB2.out.size)
      have rA := (HR2.out.below k3).more k3.size
      have rB := (hr3.below ((Below.refl _ w3).alloc (Nat.le_refl _) (.cells #[.int .i64 0, .int .i64 0] tD))).more (B' := (w3.alloc (.cells #[.int .i64 0, .int .i64 0] tD)).heap.size) (by simp)
      have B1 := Lib.hid (bare_any toks m HM.out A c (by omega) _ rA)
      have RB := Lib.hid rB
      have K3 := Lib.hid k30
      clear hp3 hr3 hlc3 hcm3 hb3 hown3 k3 k30 rA rB HR2 HB2 hcl2 hfr2
      go_wp2_with fail
      refine B1.out.mono ?_
      clear B1
      rintro e w4 hp4
      obtain ⟨A4, c4, rfl, r4, hlc4, hcm4, k4, hown4⟩ := own_use hp4
      rw [HBL.out]
      have k40 := K3.out.trans (k4.mono K3.out.size)
      have rB4 := (RB.out.below k4).more k4.size
      have B2 := Lib.hid (bare_any toks' m HM'.out A3 c3 (by omega) _ rB4)
      have R4 := Lib.hid r4
      have RB4 := Lib.hid rB4
      have K4 := Lib.hid k40
      clear hp4 r4 hlc4 hcm4 k4 hown4 k40 rB4 RB K3
      go_wp2_with fail
      refine B2.out.mono ?_
      clear B2
      rintro e w5 hp5
      obtain ⟨A5, c5, rfl, r5, hlc5, hcm5, k5, hown5⟩ := own_use hp5
      rw [show (bareL toks').length = m from by rw [← HBARE.out, HBL.out]]
      rw [← HBARE.out] at r5
      have k50 := K4.out.trans (k5.mono K4.out.size)
      have S1 := Lib.hid (same_any (bareL toks) m HBL.out A4 A5 c4 c5 _ _ hmm w5 (R4.out.below k5) r5)
      have rB5 := (RB4.out.below k5).more k5.size
      have RB5 := Lib.hid rB5
      have K5 := Lib.hid k50
      clear hp5 r5 hlc5 hcm5 k5 hown5 k50 rB5 RB4 K4 R4
      go_wp2_with fail
      refine S1.out.mono ?_
      clear S1
      rintro e w6 ⟨rfl, d6, rfl⟩
      have k60 := K5.out.trans (below_drewN w.heap.size w5 d6)
      have rB6 := RB5.out.drewN d6
      have P2 := Lib.hid (print_any toks' m HM'.out (by omega) A3 c3 _ (HE.out.of k60) rB6 HOK'.out)
      have K6 := Lib.hid k60
      clear k60 rB6 RB5 K5
      go_wp2_with fail
      refine P2.out.mono ?_
      clear P2
      rw [HPP'.out]
      rintro e w7 ⟨rfl, k7⟩
      have K7 := Lib.hid (K6.out.trans (k7.mono K6.out.size))
      clear k7 K6
      go_wp2_with (go_at_call 8; refine (known_at w _ HE.out K7.out).mono ?_; rintro e w8 ⟨rfl, hb8⟩)
      go_ret
      exact ⟨rfl, by assumption⟩
end Go.Proofs.YtpmljgnnfljjpaaDoor
