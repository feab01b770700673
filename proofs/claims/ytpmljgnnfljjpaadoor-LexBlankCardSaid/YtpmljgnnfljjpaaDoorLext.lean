/-
  The walk of the statement LexBlank.
-/
import Derived.Test.YtpmljgnnfljjpaaDoorLexs
namespace Go.Proofs.YtpmljgnnfljjpaaDoor
open Go.RowKit
set_option linter.unusedVariables false
set_option linter.unusedSimpArgs false

/-- The place of token i. -/
def plc : List UInt8 → List Seg → Nat → Nat
  | l, [], _ => l.length
  | _, s :: _, 0 => s.1.length
  | l, s :: r, i + 1 => s.1.length + s.2.1.length + plc (l.drop (s.1.length + s.2.1.length)) r i

def up (m : Nat) (t : Tok) : Tok := ⟨t.k, t.p + m, t.n, t.s⟩
def shf : Nat → Nat → List Tok → List Tok
  | _, _, [] => []
  | 0, m, t :: r => up m t :: shf 0 m r
  | i + 1, m, t :: r => t :: shf i m r

theorem shf_all (e m : Nat) (segs : List Seg) : ∀ a, tokL (e + m) (a + m) segs = shf 0 m (tokL e a segs) := by
  induction segs with
  | nil => intro a; simp [tokL, shf, up]
  | cons s q ih =>
    intro a
    have h := ih (a + s.1.length + s.2.1.length)
    rw [tokL, tokL, shf, ← h]
    have e1 : a + m + s.1.length + s.2.1.length = a + s.1.length + s.2.1.length + m := by omega
    rw [e1]
    congr 1
    simp only [Tok.to, up, Tok.mk.injEq, true_and, and_true]
    omega

theorem shf_length (i m : Nat) (l : List Tok) : (shf i m l).length = l.length := by
  induction l generalizing i with
  | nil => cases i <;> rfl
  | cons t r ih => cases i <;> simp [shf, ih]

theorem shf_at (m : Nat) (l : List Tok) : ∀ (q i : Nat) (h : i < l.length) (h' : i < (shf q m l).length), (shf q m l)[i] = if q ≤ i then up m l[i] else l[i] := by
  induction l with
  | nil => intro q i h; simp at h
  | cons t r ih =>
    intro q i h h'
    cases q with
    | zero =>
      cases i with
      | zero => simp [shf]
      | succ i =>
        simp only [shf, List.getElem_cons_succ]
        rw [ih 0 i (by simpa using h) (by simpa [shf] using h')]
        simp
    | succ q =>
      cases i with
      | zero => simp [shf]
      | succ i =>
        simp only [shf, List.getElem_cons_succ]
        rw [ih q i (by simpa using h) (by simpa [shf] using h')]
        by_cases hq : q ≤ i
        · rw [if_pos hq, if_pos (by omega)]
        · rw [if_neg hq, if_neg (by omega)]

theorem plc_le {l : List UInt8} {segs : List Seg} (h : Sg l segs) : ∀ i, plc l segs i ≤ l.length := by
  induction h with
  | fin g st hg => intro i; exact Nat.le_refl _
  | step g u r tk segs hg hu hsc h0 hr ih =>
    intro i
    cases i with
    | zero => show g.length ≤ _; rw [List.length_append]; omega
    | succ i =>
      have := ih i
      have e : (g ++ (u ++ r)).drop (g.length + u.length) = r := by rw [← List.append_assoc, ← List.length_append, List.drop_left]
      show g.length + u.length + plc ((g ++ (u ++ r)).drop (g.length + u.length)) segs i ≤ _
      rw [e]
      simp only [List.length_append]
      omega

theorem tok_place {l : List UInt8} {segs : List Seg} (h : Sg l segs) : ∀ (a i : Nat) (hi : i < (tokL (a + l.length) a segs).length), ((tokL (a + l.length) a segs)[i]).p = ((a + plc l segs i : Nat) : Int) := by
  induction h with
  | fin g st hg =>
    intro a i hi
    cases i with
    | zero => rfl
    | succ i => simp [tokL] at hi
  | step g u r tk segs hg hu hsc h0 hr ih =>
    intro a i hi
    cases i with
    | zero => rfl
    | succ i =>
      have e1 : a + (g ++ (u ++ r)).length = a + g.length + u.length + r.length := by simp; omega
      have h2 : i < (tokL (a + g.length + u.length + r.length) (a + g.length + u.length) segs).length := by rw [tokL_length] at hi ⊢; simp at hi; omega
      have h3 := ih (a + g.length + u.length) i h2
      have e2 : (tokL (a + (g ++ (u ++ r)).length) a ((g, u, tk) :: segs))[i + 1]'hi = (tokL (a + g.length + u.length + r.length) (a + g.length + u.length) segs)[i]'h2 := by
        simp only [tokL, List.getElem_cons_succ, e1]
      rw [e2, h3, plc]
      simp only
      rw [← List.append_assoc, ← List.length_append, List.drop_left]
      congr 1
      rw [List.length_append]; omega

/-- A blank more. -/
theorem Sg.ins {l : List UInt8} {segs : List Seg} (h : Sg l segs) : ∀ (i : Nat) (more : List UInt8), i ≤ segs.length → hd isB more = true → (i < segs.length → gp false more = some false) → (i = segs.length → more = [10]) →
    ∃ segs', Sg (l.take (plc l segs i) ++ (more ++ l.drop (plc l segs i))) segs' ∧ ∀ e a, tokL (e + more.length) a segs' = shf i more.length (tokL e a segs) := by
  induction h with
  | fin g st hg =>
    intro i more hi hB h1 h2
    have hm := h2 (by simpa using hi)
    subst hm
    obtain rfl : i = 0 := by simpa using hi
    refine ⟨[], ?_, fun e a => by simp [tokL, shf, up]⟩
    rw [plc, List.take_length, List.drop_length]
    refine .fin _ false ?_
    rw [gp_append _ _ _ _ hg]
    cases st <;> rfl
  | step g u r tk segs hg hu hsc h0 hr ih =>
    intro i more hi hB h1 h2
    have hmne := hd_ne hB
    cases i with
    | zero =>
      have hgm := h1 (by simp)
      refine ⟨(g ++ more, u, tk) :: segs, ?_, fun e a => ?_⟩
      · rw [plc]
        simp only
        rw [List.take_left, List.drop_left, ← List.append_assoc]
        exact .step (g ++ more) u r tk segs (by rw [gp_append _ _ _ _ hg]; exact hgm) hu hsc h0 hr
      · have h3 := shf_all e more.length ((g, u, tk) :: segs) a
        rw [← h3, tokL, tokL]
        simp only [List.length_append]
        have e1 : a + (g.length + more.length) = a + more.length + g.length := by omega
        rw [e1]
    | succ i =>
      have e1 : plc (g ++ (u ++ r)) ((g, u, tk) :: segs) (i + 1) = g.length + u.length + plc r segs i := by
        rw [plc]
        simp only
        rw [← List.append_assoc, ← List.length_append, List.drop_left]
      obtain ⟨segs', h3, h4⟩ := ih i more (by simpa using hi) hB (fun h => h1 (by simpa using h)) (fun h => h2 (by simp [h]))
      have hle := plc_le hr i
      generalize plc r segs i = c at *
      have e2 : (g ++ (u ++ r)).take (g.length + u.length + c) = g ++ (u ++ r.take c) := by
        rw [← List.append_assoc, ← List.length_append, List.take_length_add_append, List.append_assoc]
      have e3 : (g ++ (u ++ r)).drop (g.length + u.length + c) = r.drop c := by
        rw [← List.append_assoc, ← List.length_append, List.drop_length_add_append]
      have hn : nx r (r.take c ++ (more ++ r.drop c)) := by
        right
        by_cases hc : c = 0
        · left
          subst hc
          rw [List.take_zero, List.nil_append, hd_app _ hmne]
          exact hB
        · right
          intro f
          cases r with
          | nil => simp at hle; omega
          | cons d q =>
            obtain ⟨k, rfl⟩ : ∃ k, c = k + 1 := ⟨c - 1, by omega⟩
            rfl
      refine ⟨(g, u, tk) :: segs', ?_, fun e a => ?_⟩
      · rw [e1, e2, e3]
        have := Sg.step g u (r.take c ++ (more ++ r.drop c)) tk segs' hg hu (sc_stable hu hsc hn) (sk0_stable hu h0 hn) h3
        have e4 : g ++ (u ++ r.take c) ++ (more ++ r.drop c) = g ++ (u ++ (r.take c ++ (more ++ r.drop c))) := by simp
        rw [e4]; exact this
      · rw [tokL, tokL, shf, h4]

/-- The blanks that are put in. -/
def mo (r : Nat) : ByteArray := if r = 0 then ⟨#[32]⟩ else if r = 1 then ⟨#[10]⟩ else ⟨#[32, 47, 47, 32, 97, 32, 49, 32, 35, 10]⟩
theorem mo_ok (r : Nat) : hd isB (mo r).data.toList = true ∧ gp false (mo r).data.toList = some false ∧ (mo r).size ≤ 10 := by
  unfold mo
  by_cases h0 : r = 0
  · rw [if_pos h0]; decide
  · rw [if_neg h0]
    by_cases h1 : r = 1
    · rw [if_pos h1]; decide
    · rw [if_neg h1]; decide

theorem tokL_mid {l : List UInt8} {segs : List Seg} (e : Nat) (h : Sg l segs) : ∀ a i, i < segs.length → ∀ hi : i < (tokL e a segs).length, ((tokL e a segs)[i]).k ≠ 4 := by
  have ht := h.tok
  clear h
  induction segs with
  | nil => intro a i h; simp at h
  | cons s q ih =>
    intro a i h hi
    cases i with
    | zero => exact (ht s (by simp)).2.2.2
    | succ i => exact ih (fun x hx => ht x (List.mem_cons_of_mem _ hx)) _ i (by simpa using h) _

theorem below_drew' {w w' : World} (h : Below w.drew.heap.size w.drew w') : Below w.heap.size w w' := ⟨h.os, h.tape, h.output, h.size, h.block⟩

theorem mo_load (r : Nat) (hr : r < [Value.string ⟨#[32]⟩, Value.string ⟨#[10]⟩, Value.string ⟨#[32, 47, 47, 32, 97, 32, 49, 32, 35, 10]⟩].length) : [Value.string ⟨#[32]⟩, Value.string ⟨#[10]⟩, Value.string ⟨#[32, 47, 47, 32, 97, 32, 49, 32, 35, 10]⟩][r] = .string (mo r) := by
  match r, hr with
  | 0, _ => rfl
  | 1, _ => rfl
  | 2, _ => rfl

set_option maxHeartbeats 4000000 in
set_option maxRecDepth 100000 in
theorem lexBlank_walk (s : ByteArray) (at_ which : Int) (w : World) (hs : s.size ≤ maxLen) (ha : (Lit.int .i64 at_).wf = true) (hw : (Lit.int .i64 which).wf = true) (hE : Env w) :
    Calls Tryd.prog 6 #[.string s, .int .i64 at_, .int .i64 which] w fun e w' => e = .returned (.bool true) ∧ Below w.heap.size w w' := by
  have hL := lex_any s hs w hE
  have HE := Lib.hid hE
  clear hE
  by_cases h20 : 1048576 < s.size
  · have hx : lexL s.data.toList = ([], 10, 0) := by rw [lexL, if_pos (by rw [← Lib.size_eq]; exact h20)]
    rw [hx] at hL
    have hdec : decide ((8192 : Int) < (s.size : Int)) = true := by simp; omega
    go_enter Tryd.func6, Tryd.ntmps6
    go_wp2_with fail
    refine hL.mono ?_
    rintro e w1 hp
    obtain ⟨A, c, rfl, hr, hlc, hcm, hb, hown⟩ := lex_use hp
    have HB := Lib.hid (hb.alloc hb.size (.cells #[.int .i64 10, .int .i64 0] tD))
    clear hL hp hr hlc hcm hb hown
    go_wp2_with (go_at_call 8; refine (known_at w _ HE.out HB.out).mono ?_; rintro e w2 ⟨rfl, hb2⟩)
    all_goals go_ret
    all_goals exact ⟨rfl, by assumption⟩
  · rcases lex_cases s (by omega) with ⟨no, at2, hx, hno, h0, h1⟩ | ⟨segs, hS, hx, hcnt⟩
    · rw [hx] at hL
      have hno' : (no != 0) = true := by simpa using hno
      have hno2 : (no == 0) = false := by simpa using hno
      clear hx hno
      by_cases hbig : 8192 < s.size
      · go_enter Tryd.func6, Tryd.ntmps6
        go_wp2_with fail
        refine hL.mono ?_
        rintro e w1 hp
        obtain ⟨A, c, rfl, hr, hlc, hcm, hb, hown⟩ := lex_use hp
        have HB := Lib.hid (hb.alloc hb.size (.cells #[.int .i64 no, .int .i64 at2] tD))
        clear hL hp hr hlc hcm hb hown
        go_wp2_with (go_at_call 8; refine (known_at w _ HE.out HB.out).mono ?_; rintro e w2 ⟨rfl, hb2⟩)
        all_goals go_ret
        all_goals exact ⟨rfl, by assumption⟩
      · go_enter Tryd.func6, Tryd.ntmps6
        go_wp2_with fail
        refine hL.mono ?_
        rintro e w1 hp
        obtain ⟨A, c, rfl, hr, hlc, hcm, hb, hown⟩ := lex_use hp
        have HB := Lib.hid (hb.alloc hb.size (.cells #[.int .i64 no, .int .i64 at2] tD))
        clear hL hp hr hlc hcm hb hown
        go_wp2_with (go_at_call 8; refine (known_at w _ HE.out HB.out).mono ?_; rintro e w2 ⟨rfl, hb2⟩)
        all_goals go_ret
        all_goals exact ⟨rfl, by assumption⟩
    · rw [hx] at hL
      have hm : (tokL s.size 0 segs).length = segs.length + 1 := tokL_length _ _ _
      by_cases hbig : 8192 < s.size
      · have hdec : decide ((8192 : Int) < (s.size : Int)) = true := by simp; omega
        rw [show (tokL s.size 0 segs, (0 : Int), (0 : Int)) = (tokL s.size 0 segs, 0, 0) from rfl] at hL
        generalize tokL s.size 0 segs = toks at *
        generalize segs.length = n at *
        have HM := Lib.hid hm
        have hn1 : (0 : Int) < ((n : Int) + 1) := by omega
        clear hx hm hS
        go_enter Tryd.func6, Tryd.ntmps6
        go_wp2_with fail
        refine hL.mono ?_
        rintro e w1 hp
        obtain ⟨A, c, rfl, hr, hlc, hcm, hb, hown⟩ := lex_use hp
        have HB := Lib.hid (hb.alloc hb.size (.cells #[.int .i64 0, .int .i64 0] tD))
        simp only at hlc
        rw [HM.out] at hlc ⊢
        clear hL hp hr hlc hcm hb hown
        go_wp2_with (go_at_call 8; refine (known_at w _ HE.out HB.out).mono ?_; rintro e w2 ⟨rfl, hb2⟩)
        all_goals go_ret
        all_goals exact ⟨rfl, by assumption⟩
      have hdec : decide ((8192 : Int) < (s.size : Int)) = false := by simp; omega
      generalize hn : segs.length = n at *
      have HX := Lib.hid hx
      have HM := Lib.hid hm
      have HS := Lib.hid hS
      clear hx hm hS
      go_enter Tryd.func6, Tryd.ntmps6
      go_wp2_with fail
      refine hL.mono ?_
      rintro e w1 hp
      clear hL
      obtain ⟨A, c, rfl, hr, hlc, hcm, hb, hown⟩ := lex_use hp
      simp only at hr hlc hown
      rw [HM.out] at hlc ⊢
      have hb1 := hb.alloc hb.size (.cells #[.int .i64 0, .int .i64 0] tD)
      have hr1 := (hr.below ((Below.refl _ w1).alloc (Nat.le_refl _) (.cells #[.int .i64 0, .int .i64 0] tD))).more (B' := (w1.alloc (.cells #[.int .i64 0, .int .i64 0] tD)).heap.size) (by simp)
      have HB1 := Lib.hid hb1
      have HR1 := Lib.hid hr1
      have HR0 := Lib.hid hr
      clear hp hr hcm hb hown hb1 hr1
      have P1 := pick_any at_ ha (n + 1) (by omega) (by omega) (w1.alloc (.cells #[.int .i64 0, .int .i64 0] tD))
      rw [show ((n + 1 : Nat) : Int) = (n : Int) + 1 from by simp] at P1
      have HPK := Lib.hid P1
      clear P1
      go_wp2_with fail
      refine HPK.out.mono ?_
      clear HPK
      rintro e w2 ⟨⟨q, hq, rfl⟩, rfl⟩
      have P2 := fun W => pick_any which hw 3 (by omega) (by omega) W
      simp only [show ((3 : Nat) : Int) = 3 from rfl] at P2
      have HPK := Lib.hid P2
      clear P2
      go_wp2_with fail
      refine (HPK.out _).mono ?_
      clear HPK
      rintro e w2 ⟨⟨r, hr3, rfl⟩, rfl⟩
      have hmo := mo_load r hr3
      have hr0 : (0 : Int) ≤ (r : Int) := by omega
      have hr1 : (r : Int) < 3 := by omega
      obtain ⟨g, o, rfl, hg, x0, x1, x2, x3⟩ := HR0.out.at_ (by rw [HM.out]; exact hq : q < (tokL s.size 0 segs).length)
      have hpl := tok_place HS.out 0 q (by rw [← Lib.size_eq, Nat.zero_add]; rw [HM.out]; exact hq)
      simp only [← Lib.size_eq, Nat.zero_add] at hpl
      rw [hpl] at x1
      have hPle := plc_le HS.out q
      rw [← Lib.size_eq] at hPle
      generalize hPd : plc s.data.toList segs q = P at *
      by_cases hqn : q = n
      · have hk : (tokL s.size 0 segs)[q]'(by rw [HM.out]; exact hq) = ⟨4, s.size, 0, []⟩ := by
          have := tokL_last s.size segs 0
          rw [hn, ← hqn, List.getElem?_eq_getElem (by rw [HM.out]; exact hq)] at this
          exact Option.some.inj this
        rw [hk] at x0
        simp only at x0
        obtain ⟨M, hM⟩ : ∃ M : ByteArray, M = ⟨#[10]⟩ := ⟨_, rfl⟩
        have hMB : hd isB M.data.toList = true := by rw [hM]; decide
        have hM1 : q < segs.length → gp false M.data.toList = some false := fun h => by omega
        have hM2 : q = segs.length → M.data.toList = [10] := fun h => by rw [hM]
        have hMz : M.size ≤ 10 := by rw [hM]; decide
        have HQN := Lib.hid hqn
        clear hk hqn
        go_wp2_with fail
        rw [← hM]
        clear hM x0 x1 x2 x3
        have HADD1 := fun W : World => run_string_add_sum (P := Tryd.prog) W (s.extract 0 P) M (by rw [ByteArray.size_extract]; omega)
        have HADD2 := fun W : World => run_string_add_sum (P := Tryd.prog) W (s.extract 0 P ++ M) (s.extract P s.size) (by rw [ByteArray.size_append, ByteArray.size_extract, ByteArray.size_extract]; omega)
        obtain ⟨T, hT⟩ : ∃ T, s.extract 0 P ++ M ++ s.extract P s.size = T := ⟨_, rfl⟩
        rw [hT] at HADD2
        have hTd : T.data.toList = s.data.toList.take P ++ (M.data.toList ++ s.data.toList.drop P) := by
          rw [← hT, ByteArray.data_append, ByteArray.data_append, Array.toList_append, Array.toList_append, Lib.extract_to_end, Lib.extract_data, List.append_assoc]
          simp
        obtain ⟨segs', hS', hsh⟩ := HS.out.ins q M.data.toList (by omega) hMB hM1 hM2
        rw [hPd, ← hTd] at hS'
        have hTz : T.size = s.size + M.size := by
          rw [Lib.size_eq, hTd, Lib.size_eq, Lib.size_eq M, List.length_append, List.length_append, List.length_take, List.length_drop]
          rw [← Lib.size_eq]; omega
        have hLT := hS'.lex (by rw [← Lib.size_eq]; omega)
        rw [← Lib.size_eq, hTz, Lib.size_eq M, hsh] at hLT
        have hTs : T.size ≤ maxLen := by unfold maxLen; omega
        have HLT := Lib.hid hLT
        have HT := Lib.hid hT
        clear hT hTd hS' hsh hLT
        have hmx : Tryd.prog.follows .mixedOrders = true := by kernel_rfl
        have hb2 := (HB1.out.alloc HB1.out.size (.cells #[.string ⟨#[32]⟩, .string M, .string ⟨#[32, 47, 47, 32, 97, 32, 49, 32, 35, 10]⟩] tS))
        have HEV := Lib.hid (HE.out.of hb2)
        have hb3 := hb2.alloc hb2.size (.cells #[.int .i64 0, .int .i64 0] tD)
        have HEV3 := Lib.hid (HE.out.of hb3)
        have HB2 := Lib.hid hb2
        clear hb2 hb3
        go_region_with (go_at_call 9; refine (lex_any T hTs _ (by first | exact HEV.out.of_heap rfl | exact HEV3.out.of_heap rfl)).mono ?_; rw [HLT.out]; rintro e w4 hp4; obtain ⟨A4, c4, rfl, hr4, hlc4, hcm4, hb4, hown4⟩ := lex_use hp4; simp only at hr4 hlc4; rw [shf_length, HM.out] at hlc4 ⊢; obtain ⟨hcl4, hfr4⟩ := bcell hb4)
        · have e5 := HB2.out.trans ((below_drew' hb4).mono HB2.out.size)
          have hb5 := e5.alloc e5.size (.cells #[.int .i64 0, .int .i64 0] tD)
          have own5 := hown4.alloc (.cells #[.int .i64 0, .int .i64 0] tD)
          have hbx := Blk.new w4 tD #[.int .i64 0, .int .i64 0]
          have hA5 := ((HR1.out.below ((Below.refl _ _).alloc (Nat.le_refl _) (.cells #[.string ⟨#[32]⟩, .string M, .string ⟨#[32, 47, 47, 32, 97, 32, 49, 32, 35, 10]⟩] tS))).below (((below_drew' hb4).mono (by simp)).alloc (by have := (below_drew' hb4).size; simp at this ⊢; omega) (.cells #[.int .i64 0, .int .i64 0] tD)))
          have hz5 : w1.heap.size + 1 ≤ (w4.alloc (.cells #[.int .i64 0, .int .i64 0] tD)).heap.size := by have := (below_drew' hb4).size; simp at this ⊢; omega
          obtain ⟨W5, hW5⟩ : ∃ W5, w4.alloc (.cells #[.int .i64 0, .int .i64 0] tD) = W5 := ⟨_, rfl⟩
          rw [hW5] at hb5 own5 hbx hA5 hz5 ⊢
          generalize w4.heap.size = bx at *
          clear hW5 hb4 hr4 hown4 hp4 hcl4 hfr4 e5
          obtain ⟨hB5, _, _⟩ := RdT.of_own own5 (by rw [shf_length, HM.out])
          have HB5 := Lib.hid hB5
          have HA5 := Lib.hid (hA5.more (B' := W5.heap.size) (by simp only [World.size_alloc]; exact hz5))
          have HBE5 := Lib.hid hb5
          clear hB5 hA5 own5 hb5
          have cx0 := hbx.cell 0
          simp at cx0
          have HBX := Lib.hid hbx
          clear hbx
          go_wp2_with fail
          obtain ⟨hmZ⟩ : Nonempty (M.data.toList.length = M.size) := ⟨(Lib.size_eq M).symm⟩
          go_loopw [13] (fun v wr => ∃ i : Nat, v = .int .i64 i ∧ i ≤ n + 1 ∧ Below W5.heap.size W5 wr) (fun v _ => n + 1 - (intOf v).toNat)
          case atStart => exact ⟨0, rfl, by omega, Below.refl _ _⟩
          case round =>
            obtain ⟨i, rfl, hi, hbr⟩ := hrel
            by_cases hlt : i < n + 1
            · have hli : i < (tokL s.size 0 segs).length := by rw [HM.out]; exact hlt
              obtain ⟨g1, o1, he1, hg1, z0, z1, z2, z3⟩ := (HA5.out.below hbr).at_ hli
              simp only [Option.some.injEq, Addr.mk.injEq] at he1
              obtain ⟨rfl, rfl, _⟩ := he1
              have hlj : i < (shf q M.data.toList.length (tokL s.size 0 segs)).length := by rw [shf_length]; exact hli
              obtain ⟨g4, o4, rfl, hg4, y0, y1, y2, y3⟩ := (HB5.out.below hbr).at_ hlj
              have hat := shf_at M.data.toList.length (tokL s.size 0 segs) q i hli hlj
              rw [hat, hmZ] at y0 y1 y2 y3
              clear hat hlj
              have htp := tok_place HS.out 0 i (by rw [← Lib.size_eq, Nat.zero_add]; exact hli)
              simp only [← Lib.size_eq, Nat.zero_add] at htp
              have hPi := plc_le HS.out i
              rw [← Lib.size_eq] at hPi
              generalize plc s.data.toList segs i = Pi at *
              generalize (tokL s.size 0 segs)[i]'hli = t at *
              have hgl1 : g < wr.heap.size := by have := hbr.size; omega
              have hgl4 : g4 < wr.heap.size := by have := hbr.size; omega
              have Hbr := Lib.hid hbr
              clear hbr
              by_cases hqi : q ≤ i
              · rw [if_pos hqi] at y0 y1 y2 y3
                simp only [up] at y0 y1 y2 y3
                rw [htp] at y1 z1
                go_wp2
                go_quiet (fail)
                go_wp2
                go_roundw
                case rel => exact ⟨i + 1, by go_num, by omega, (Hbr.out.alloc Hbr.out.size _).trans (below_drewN _ _ _)⟩
                case measure => simp [intOf]; omega
              · rw [if_neg hqi] at y0 y1 y2 y3
                go_wp2
                go_quiet (fail)
                go_wp2
                go_roundw
                case rel => exact ⟨i + 1, by go_num, by omega, (Hbr.out.alloc Hbr.out.size _).trans (below_drewN _ _ _)⟩
                case measure => simp [intOf]; omega
            · have HK := Lib.hid (HBE5.out.trans (hbr.mono HBE5.out.size))
              clear hbr
              go_wp2_with (go_at_call 8; refine (known_at w _ HE.out HK.out).mono ?_; rintro e w2 ⟨rfl, hb2⟩)
              go_ret
              exact ⟨rfl, by assumption⟩
        · have e5 := (HB2.out.alloc HB2.out.size (.cells #[.int .i64 0, .int .i64 0] tD)).trans ((below_drew' hb4).mono (by have := HB2.out.size; simp at this ⊢; omega))
          have hbx4 : Blk w4 (w1.heap.size + 1 + 1) tD #[.int .i64 0, .int .i64 0] := Blk.below (by have := Blk.new ((w1.alloc (.cells #[.int .i64 0, .int .i64 0] tD)).alloc (.cells #[.string ⟨#[32]⟩, .string M, .string ⟨#[32, 47, 47, 32, 97, 32, 49, 32, 35, 10]⟩] tS)) tD #[.int .i64 0, .int .i64 0]; simp at this; exact this) (below_drew' hb4) (by simp)
          have hw1 : w.heap.size ≤ w1.heap.size + 1 + 1 := by have := HB2.out.size; simp at this; omega
          have hb5 := (e5.setCell (p := ⟨w1.heap.size + 1 + 1, 0, none⟩) hw1 (.int .i64 0)).setCell (p := ⟨w1.heap.size + 1 + 1, 1, none⟩) hw1 (.int .i64 0)
          have own5 := (hown4.kept (grownBy_set w4 ⟨w1.heap.size + 1 + 1, 0, none⟩ (.int .i64 0)) (.inr (hbx4.not_row (by decide) hown4).symm)).kept (grownBy_set _ ⟨w1.heap.size + 1 + 1, 1, none⟩ (.int .i64 0)) (.inr (hbx4.not_row (by decide) hown4).symm)
          have hbx : Blk ((w4.setCell ⟨w1.heap.size + 1 + 1, 0, none⟩ (.int .i64 0)).setCell ⟨w1.heap.size + 1 + 1, 1, none⟩ (.int .i64 0)) (w1.heap.size + 1 + 1) tD #[.int .i64 0, .int .i64 0] := Blk.set_ (cs := #[.int .i64 0, .int .i64 0]) (Blk.set_ (cs := #[.int .i64 0, .int .i64 0]) hbx4 0 _) 1 _
          have hA5 := (HR1.out.below ((Below.refl _ _).alloc (Nat.le_refl _) (.cells #[.string ⟨#[32]⟩, .string M, .string ⟨#[32, 47, 47, 32, 97, 32, 49, 32, 35, 10]⟩] tS))).below (((((Below.refl _ _).alloc (by simp) (.cells #[.int .i64 0, .int .i64 0] tD)).trans ((below_drew' hb4).mono (by simp))).setCell (p := ⟨w1.heap.size + 1 + 1, 0, none⟩) (by simp) (.int .i64 0)).setCell (p := ⟨w1.heap.size + 1 + 1, 1, none⟩) (by simp) (.int .i64 0))
          have hz5 : w1.heap.size + 1 ≤ ((w4.setCell ⟨w1.heap.size + 1 + 1, 0, none⟩ (.int .i64 0)).setCell ⟨w1.heap.size + 1 + 1, 1, none⟩ (.int .i64 0)).heap.size := by have := hbx.lt; omega
          obtain ⟨W5, hW5⟩ : ∃ W5, (w4.setCell ⟨w1.heap.size + 1 + 1, 0, none⟩ (.int .i64 0)).setCell ⟨w1.heap.size + 1 + 1, 1, none⟩ (.int .i64 0) = W5 := ⟨_, rfl⟩
          rw [hW5] at hb5 own5 hbx hA5 hz5 ⊢
          generalize w1.heap.size + 1 + 1 = bx at *
          clear hW5 hb4 hr4 hown4 hp4 hcl4 hfr4 e5
          obtain ⟨hB5, _, _⟩ := RdT.of_own own5 (by rw [shf_length, HM.out])
          have HB5 := Lib.hid hB5
          have HA5 := Lib.hid (hA5.more (B' := W5.heap.size) (by simp only [World.size_alloc]; exact hz5))
          have HBE5 := Lib.hid hb5
          clear hB5 hA5 own5 hb5
          have cx0 := hbx.cell 0
          simp at cx0
          have HBX := Lib.hid hbx
          clear hbx
          go_wp2_with fail
          obtain ⟨hmZ⟩ : Nonempty (M.data.toList.length = M.size) := ⟨(Lib.size_eq M).symm⟩
          go_loopw [13] (fun v wr => ∃ i : Nat, v = .int .i64 i ∧ i ≤ n + 1 ∧ Below W5.heap.size W5 wr) (fun v _ => n + 1 - (intOf v).toNat)
          case atStart => exact ⟨0, rfl, by omega, Below.refl _ _⟩
          case round =>
            obtain ⟨i, rfl, hi, hbr⟩ := hrel
            by_cases hlt : i < n + 1
            · have hli : i < (tokL s.size 0 segs).length := by rw [HM.out]; exact hlt
              obtain ⟨g1, o1, he1, hg1, z0, z1, z2, z3⟩ := (HA5.out.below hbr).at_ hli
              simp only [Option.some.injEq, Addr.mk.injEq] at he1
              obtain ⟨rfl, rfl, _⟩ := he1
              have hlj : i < (shf q M.data.toList.length (tokL s.size 0 segs)).length := by rw [shf_length]; exact hli
              obtain ⟨g4, o4, rfl, hg4, y0, y1, y2, y3⟩ := (HB5.out.below hbr).at_ hlj
              have hat := shf_at M.data.toList.length (tokL s.size 0 segs) q i hli hlj
              rw [hat, hmZ] at y0 y1 y2 y3
              clear hat hlj
              have htp := tok_place HS.out 0 i (by rw [← Lib.size_eq, Nat.zero_add]; exact hli)
              simp only [← Lib.size_eq, Nat.zero_add] at htp
              have hPi := plc_le HS.out i
              rw [← Lib.size_eq] at hPi
              generalize plc s.data.toList segs i = Pi at *
              generalize (tokL s.size 0 segs)[i]'hli = t at *
              have hgl1 : g < wr.heap.size := by have := hbr.size; omega
              have hgl4 : g4 < wr.heap.size := by have := hbr.size; omega
              have Hbr := Lib.hid hbr
              clear hbr
              by_cases hqi : q ≤ i
              · rw [if_pos hqi] at y0 y1 y2 y3
                simp only [up] at y0 y1 y2 y3
                rw [htp] at y1 z1
                go_wp2
                go_quiet (fail)
                go_wp2
                go_roundw
                case rel => exact ⟨i + 1, by go_num, by omega, (Hbr.out.alloc Hbr.out.size _).trans (below_drewN _ _ _)⟩
                case measure => simp [intOf]; omega
              · rw [if_neg hqi] at y0 y1 y2 y3
                go_wp2
                go_quiet (fail)
                go_wp2
                go_roundw
                case rel => exact ⟨i + 1, by go_num, by omega, (Hbr.out.alloc Hbr.out.size _).trans (below_drewN _ _ _)⟩
                case measure => simp [intOf]; omega
            · have HK := Lib.hid (HBE5.out.trans (hbr.mono HBE5.out.size))
              clear hbr
              go_wp2_with (go_at_call 8; refine (known_at w _ HE.out HK.out).mono ?_; rintro e w2 ⟨rfl, hb2⟩)
              go_ret
              exact ⟨rfl, by assumption⟩
      · have hk4 : (((tokL s.size 0 segs)[q]'(by rw [HM.out]; exact hq)).k == 4) = false := by
          have := tokL_mid s.size HS.out 0 q (by omega) (by rw [HM.out]; exact hq)
          simpa using this
        generalize (tokL s.size 0 segs)[q]'(by rw [HM.out]; exact hq) = tq at *
        obtain ⟨m1, m2, m3⟩ := mo_ok r
        generalize mo r = M at *
        have hMB : hd isB M.data.toList = true := m1
        have hM1 : q < segs.length → gp false M.data.toList = some false := fun h => m2
        have hM2 : q = segs.length → M.data.toList = [10] := fun h => by omega
        have hMz : M.size ≤ 10 := m3
        clear m1 m2 m3
        go_wp2_with fail
        clear hk4 x0 x1 x2 x3
        have HADD1 := fun W : World => run_string_add_sum (P := Tryd.prog) W (s.extract 0 P) M (by rw [ByteArray.size_extract]; omega)
        have HADD2 := fun W : World => run_string_add_sum (P := Tryd.prog) W (s.extract 0 P ++ M) (s.extract P s.size) (by rw [ByteArray.size_append, ByteArray.size_extract, ByteArray.size_extract]; omega)
        obtain ⟨T, hT⟩ : ∃ T, s.extract 0 P ++ M ++ s.extract P s.size = T := ⟨_, rfl⟩
        rw [hT] at HADD2
        have hTd : T.data.toList = s.data.toList.take P ++ (M.data.toList ++ s.data.toList.drop P) := by
          rw [← hT, ByteArray.data_append, ByteArray.data_append, Array.toList_append, Array.toList_append, Lib.extract_to_end, Lib.extract_data, List.append_assoc]
          simp
        obtain ⟨segs', hS', hsh⟩ := HS.out.ins q M.data.toList (by omega) hMB hM1 hM2
        rw [hPd, ← hTd] at hS'
        have hTz : T.size = s.size + M.size := by
          rw [Lib.size_eq, hTd, Lib.size_eq, Lib.size_eq M, List.length_append, List.length_append, List.length_take, List.length_drop]
          rw [← Lib.size_eq]; omega
        have hLT := hS'.lex (by rw [← Lib.size_eq]; omega)
        rw [← Lib.size_eq, hTz, Lib.size_eq M, hsh] at hLT
        have hTs : T.size ≤ maxLen := by unfold maxLen; omega
        have HLT := Lib.hid hLT
        have HT := Lib.hid hT
        clear hT hTd hS' hsh hLT
        have hmx : Tryd.prog.follows .mixedOrders = true := by kernel_rfl
        have hb2 := (HB1.out.alloc HB1.out.size (.cells #[.string ⟨#[32]⟩, .string ⟨#[10]⟩, .string ⟨#[32, 47, 47, 32, 97, 32, 49, 32, 35, 10]⟩] tS))
        have HEV := Lib.hid (HE.out.of hb2)
        have hb3 := hb2.alloc hb2.size (.cells #[.int .i64 0, .int .i64 0] tD)
        have HEV3 := Lib.hid (HE.out.of hb3)
        have HB2 := Lib.hid hb2
        clear hb2 hb3
        go_region_with (go_at_call 9; refine (lex_any T hTs _ (by first | exact HEV.out.of_heap rfl | exact HEV3.out.of_heap rfl)).mono ?_; rw [HLT.out]; rintro e w4 hp4; obtain ⟨A4, c4, rfl, hr4, hlc4, hcm4, hb4, hown4⟩ := lex_use hp4; simp only at hr4 hlc4; rw [shf_length, HM.out] at hlc4 ⊢; obtain ⟨hcl4, hfr4⟩ := bcell hb4)
        · have e5 := HB2.out.trans ((below_drew' hb4).mono HB2.out.size)
          have hb5 := e5.alloc e5.size (.cells #[.int .i64 0, .int .i64 0] tD)
          have own5 := hown4.alloc (.cells #[.int .i64 0, .int .i64 0] tD)
          have hbx := Blk.new w4 tD #[.int .i64 0, .int .i64 0]
          have hA5 := ((HR1.out.below ((Below.refl _ _).alloc (Nat.le_refl _) (.cells #[.string ⟨#[32]⟩, .string ⟨#[10]⟩, .string ⟨#[32, 47, 47, 32, 97, 32, 49, 32, 35, 10]⟩] tS))).below (((below_drew' hb4).mono (by simp)).alloc (by have := (below_drew' hb4).size; simp at this ⊢; omega) (.cells #[.int .i64 0, .int .i64 0] tD)))
          have hz5 : w1.heap.size + 1 ≤ (w4.alloc (.cells #[.int .i64 0, .int .i64 0] tD)).heap.size := by have := (below_drew' hb4).size; simp at this ⊢; omega
          obtain ⟨W5, hW5⟩ : ∃ W5, w4.alloc (.cells #[.int .i64 0, .int .i64 0] tD) = W5 := ⟨_, rfl⟩
          rw [hW5] at hb5 own5 hbx hA5 hz5 ⊢
          generalize w4.heap.size = bx at *
          clear hW5 hb4 hr4 hown4 hp4 hcl4 hfr4 e5
          obtain ⟨hB5, _, _⟩ := RdT.of_own own5 (by rw [shf_length, HM.out])
          have HB5 := Lib.hid hB5
          have HA5 := Lib.hid (hA5.more (B' := W5.heap.size) (by simp only [World.size_alloc]; exact hz5))
          have HBE5 := Lib.hid hb5
          clear hB5 hA5 own5 hb5
          have cx0 := hbx.cell 0
          simp at cx0
          have HBX := Lib.hid hbx
          clear hbx
          go_wp2_with fail
          obtain ⟨hmZ⟩ : Nonempty (M.data.toList.length = M.size) := ⟨(Lib.size_eq M).symm⟩
          go_loopw [13] (fun v wr => ∃ i : Nat, v = .int .i64 i ∧ i ≤ n + 1 ∧ Below W5.heap.size W5 wr) (fun v _ => n + 1 - (intOf v).toNat)
          case atStart => exact ⟨0, rfl, by omega, Below.refl _ _⟩
          case round =>
            obtain ⟨i, rfl, hi, hbr⟩ := hrel
            by_cases hlt : i < n + 1
            · have hli : i < (tokL s.size 0 segs).length := by rw [HM.out]; exact hlt
              obtain ⟨g1, o1, he1, hg1, z0, z1, z2, z3⟩ := (HA5.out.below hbr).at_ hli
              simp only [Option.some.injEq, Addr.mk.injEq] at he1
              obtain ⟨rfl, rfl, _⟩ := he1
              have hlj : i < (shf q M.data.toList.length (tokL s.size 0 segs)).length := by rw [shf_length]; exact hli
              obtain ⟨g4, o4, rfl, hg4, y0, y1, y2, y3⟩ := (HB5.out.below hbr).at_ hlj
              have hat := shf_at M.data.toList.length (tokL s.size 0 segs) q i hli hlj
              rw [hat, hmZ] at y0 y1 y2 y3
              clear hat hlj
              have htp := tok_place HS.out 0 i (by rw [← Lib.size_eq, Nat.zero_add]; exact hli)
              simp only [← Lib.size_eq, Nat.zero_add] at htp
              have hPi := plc_le HS.out i
              rw [← Lib.size_eq] at hPi
              generalize plc s.data.toList segs i = Pi at *
              generalize (tokL s.size 0 segs)[i]'hli = t at *
              have hgl1 : g < wr.heap.size := by have := hbr.size; omega
              have hgl4 : g4 < wr.heap.size := by have := hbr.size; omega
              have Hbr := Lib.hid hbr
              clear hbr
              by_cases hqi : q ≤ i
              · rw [if_pos hqi] at y0 y1 y2 y3
                simp only [up] at y0 y1 y2 y3
                rw [htp] at y1 z1
                go_wp2
                go_quiet (fail)
                go_wp2
                go_roundw
                case rel => exact ⟨i + 1, by go_num, by omega, (Hbr.out.alloc Hbr.out.size _).trans (below_drewN _ _ _)⟩
                case measure => simp [intOf]; omega
              · rw [if_neg hqi] at y0 y1 y2 y3
                go_wp2
                go_quiet (fail)
                go_wp2
                go_roundw
                case rel => exact ⟨i + 1, by go_num, by omega, (Hbr.out.alloc Hbr.out.size _).trans (below_drewN _ _ _)⟩
                case measure => simp [intOf]; omega
            · have HK := Lib.hid (HBE5.out.trans (hbr.mono HBE5.out.size))
              clear hbr
              go_wp2_with (go_at_call 8; refine (known_at w _ HE.out HK.out).mono ?_; rintro e w2 ⟨rfl, hb2⟩)
              go_ret
              exact ⟨rfl, by assumption⟩
        · have e5 := (HB2.out.alloc HB2.out.size (.cells #[.int .i64 0, .int .i64 0] tD)).trans ((below_drew' hb4).mono (by have := HB2.out.size; simp at this ⊢; omega))
          have hbx4 : Blk w4 (w1.heap.size + 1 + 1) tD #[.int .i64 0, .int .i64 0] := Blk.below (by have := Blk.new ((w1.alloc (.cells #[.int .i64 0, .int .i64 0] tD)).alloc (.cells #[.string ⟨#[32]⟩, .string ⟨#[10]⟩, .string ⟨#[32, 47, 47, 32, 97, 32, 49, 32, 35, 10]⟩] tS)) tD #[.int .i64 0, .int .i64 0]; simp at this; exact this) (below_drew' hb4) (by simp)
          have hw1 : w.heap.size ≤ w1.heap.size + 1 + 1 := by have := HB2.out.size; simp at this; omega
          have hb5 := (e5.setCell (p := ⟨w1.heap.size + 1 + 1, 0, none⟩) hw1 (.int .i64 0)).setCell (p := ⟨w1.heap.size + 1 + 1, 1, none⟩) hw1 (.int .i64 0)
          have own5 := (hown4.kept (grownBy_set w4 ⟨w1.heap.size + 1 + 1, 0, none⟩ (.int .i64 0)) (.inr (hbx4.not_row (by decide) hown4).symm)).kept (grownBy_set _ ⟨w1.heap.size + 1 + 1, 1, none⟩ (.int .i64 0)) (.inr (hbx4.not_row (by decide) hown4).symm)
          have hbx : Blk ((w4.setCell ⟨w1.heap.size + 1 + 1, 0, none⟩ (.int .i64 0)).setCell ⟨w1.heap.size + 1 + 1, 1, none⟩ (.int .i64 0)) (w1.heap.size + 1 + 1) tD #[.int .i64 0, .int .i64 0] := Blk.set_ (cs := #[.int .i64 0, .int .i64 0]) (Blk.set_ (cs := #[.int .i64 0, .int .i64 0]) hbx4 0 _) 1 _
          have hA5 := (HR1.out.below ((Below.refl _ _).alloc (Nat.le_refl _) (.cells #[.string ⟨#[32]⟩, .string ⟨#[10]⟩, .string ⟨#[32, 47, 47, 32, 97, 32, 49, 32, 35, 10]⟩] tS))).below (((((Below.refl _ _).alloc (by simp) (.cells #[.int .i64 0, .int .i64 0] tD)).trans ((below_drew' hb4).mono (by simp))).setCell (p := ⟨w1.heap.size + 1 + 1, 0, none⟩) (by simp) (.int .i64 0)).setCell (p := ⟨w1.heap.size + 1 + 1, 1, none⟩) (by simp) (.int .i64 0))
          have hz5 : w1.heap.size + 1 ≤ ((w4.setCell ⟨w1.heap.size + 1 + 1, 0, none⟩ (.int .i64 0)).setCell ⟨w1.heap.size + 1 + 1, 1, none⟩ (.int .i64 0)).heap.size := by have := hbx.lt; omega
          obtain ⟨W5, hW5⟩ : ∃ W5, (w4.setCell ⟨w1.heap.size + 1 + 1, 0, none⟩ (.int .i64 0)).setCell ⟨w1.heap.size + 1 + 1, 1, none⟩ (.int .i64 0) = W5 := ⟨_, rfl⟩
          rw [hW5] at hb5 own5 hbx hA5 hz5 ⊢
          generalize w1.heap.size + 1 + 1 = bx at *
          clear hW5 hb4 hr4 hown4 hp4 hcl4 hfr4 e5
          obtain ⟨hB5, _, _⟩ := RdT.of_own own5 (by rw [shf_length, HM.out])
          have HB5 := Lib.hid hB5
          have HA5 := Lib.hid (hA5.more (B' := W5.heap.size) (by simp only [World.size_alloc]; exact hz5))
          have HBE5 := Lib.hid hb5
          clear hB5 hA5 own5 hb5
          have cx0 := hbx.cell 0
          simp at cx0
          have HBX := Lib.hid hbx
          clear hbx
          go_wp2_with fail
          obtain ⟨hmZ⟩ : Nonempty (M.data.toList.length = M.size) := ⟨(Lib.size_eq M).symm⟩
          go_loopw [13] (fun v wr => ∃ i : Nat, v = .int .i64 i ∧ i ≤ n + 1 ∧ Below W5.heap.size W5 wr) (fun v _ => n + 1 - (intOf v).toNat)
          case atStart => exact ⟨0, rfl, by omega, Below.refl _ _⟩
          case round =>
            obtain ⟨i, rfl, hi, hbr⟩ := hrel
            by_cases hlt : i < n + 1
            · have hli : i < (tokL s.size 0 segs).length := by rw [HM.out]; exact hlt
              obtain ⟨g1, o1, he1, hg1, z0, z1, z2, z3⟩ := (HA5.out.below hbr).at_ hli
              simp only [Option.some.injEq, Addr.mk.injEq] at he1
              obtain ⟨rfl, rfl, _⟩ := he1
              have hlj : i < (shf q M.data.toList.length (tokL s.size 0 segs)).length := by rw [shf_length]; exact hli
              obtain ⟨g4, o4, rfl, hg4, y0, y1, y2, y3⟩ := (HB5.out.below hbr).at_ hlj
              have hat := shf_at M.data.toList.length (tokL s.size 0 segs) q i hli hlj
              rw [hat, hmZ] at y0 y1 y2 y3
              clear hat hlj
              have htp := tok_place HS.out 0 i (by rw [← Lib.size_eq, Nat.zero_add]; exact hli)
              simp only [← Lib.size_eq, Nat.zero_add] at htp
              have hPi := plc_le HS.out i
              rw [← Lib.size_eq] at hPi
              generalize plc s.data.toList segs i = Pi at *
              generalize (tokL s.size 0 segs)[i]'hli = t at *
              have hgl1 : g < wr.heap.size := by have := hbr.size; omega
              have hgl4 : g4 < wr.heap.size := by have := hbr.size; omega
              have Hbr := Lib.hid hbr
              clear hbr
              by_cases hqi : q ≤ i
              · rw [if_pos hqi] at y0 y1 y2 y3
                simp only [up] at y0 y1 y2 y3
                rw [htp] at y1 z1
                go_wp2
                go_quiet (fail)
                go_wp2
                go_roundw
                case rel => exact ⟨i + 1, by go_num, by omega, (Hbr.out.alloc Hbr.out.size _).trans (below_drewN _ _ _)⟩
                case measure => simp [intOf]; omega
              · rw [if_neg hqi] at y0 y1 y2 y3
                go_wp2
                go_quiet (fail)
                go_wp2
                go_roundw
                case rel => exact ⟨i + 1, by go_num, by omega, (Hbr.out.alloc Hbr.out.size _).trans (below_drewN _ _ _)⟩
                case measure => simp [intOf]; omega
            · have HK := Lib.hid (HBE5.out.trans (hbr.mono HBE5.out.size))
              clear hbr
              go_wp2_with (go_at_call 8; refine (known_at w _ HE.out HK.out).mono ?_; rintro e w2 ⟨rfl, hb2⟩)
              go_ret
              exact ⟨rfl, by assumption⟩
end Go.Proofs.YtpmljgnnfljjpaaDoor
