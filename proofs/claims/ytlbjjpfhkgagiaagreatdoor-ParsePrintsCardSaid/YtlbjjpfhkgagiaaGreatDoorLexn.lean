/-
  PLAIN MATHEMATICS of layer lex: a text as gaps and tokens; what is printed has these tokens again; places; blanks. No Go in sight.
-/
import Derived.Test.YtlbjjpfhkgagiaaGreatDoorLexm
import Derived.Lib.ItoaLen
namespace Go.Proofs.YtlbjjpfhkgagiaaGreatDoor
set_option linter.unusedVariables false
set_option linter.unusedSimpArgs false

theorem hd_app {f : UInt8 → Bool} {l : List UInt8} (x : List UInt8) (h : l ≠ []) : hd f (l ++ x) = hd f l := by
  cases l with
  | nil => exact absurd rfl h
  | cons c r => rfl
theorem hd_ne {f : UInt8 → Bool} {l : List UInt8} (h : hd f l = true) : l ≠ [] := by
  rintro rfl; simp [hd] at h

/-- Are these bytes blanks from end to end? In which state do they end? -/
def gp : Bool → List UInt8 → Option Bool
  | st, [] => some st
  | false, c :: r => if isB c then gp false r else if decide (c.toNat = 47) && hd (fun d => decide (d.toNat = 47)) r then gp true r else none
  | true, c :: r => if decide (c.toNat = 10) then gp false r else gp true r

theorem gp_sk (g x : List UInt8) (st st' : Bool) (h : gp st g = some st') : sk st (g ++ x) = g.length + sk st' x := by
  induction g generalizing st with
  | nil => simp only [gp, Option.some.injEq] at h; subst h; simp
  | cons c r ih =>
    cases st
    · simp only [gp] at h
      simp only [List.cons_append, sk, List.length_cons]
      split at h
      · rename_i hb
        rw [if_pos hb, ih _ h]; omega
      · rename_i hb
        rw [if_neg hb]
        split at h
        · rename_i hc
          have h2 : hd (fun d => decide (d.toNat = 47)) (r ++ x) = hd (fun d => decide (d.toNat = 47)) r := hd_app x (hd_ne (by simp only [Bool.and_eq_true] at hc; exact hc.2))
          rw [h2, if_pos hc, ih _ h]; omega
        · cases h
    · simp only [gp] at h
      simp only [List.cons_append, sk, List.length_cons]
      split at h
      · rename_i hb
        rw [if_pos hb, ih _ h]; omega
      · rename_i hb
        rw [if_neg hb, ih _ h]; omega

theorem gp_append (g x : List UInt8) (st st' : Bool) (h : gp st g = some st') : gp st (g ++ x) = gp st' x := by
  induction g generalizing st with
  | nil => simp only [gp, Option.some.injEq] at h; subst h; rfl
  | cons c r ih =>
    cases st
    · simp only [gp] at h
      simp only [List.cons_append, gp]
      split at h
      · rename_i hb
        rw [if_pos hb, ih _ h]
      · rename_i hb
        rw [if_neg hb]
        split at h
        · rename_i hc
          have h2 : hd (fun d => decide (d.toNat = 47)) (r ++ x) = hd (fun d => decide (d.toNat = 47)) r := hd_app x (hd_ne (by simp only [Bool.and_eq_true] at hc; exact hc.2))
          rw [h2, if_pos hc, ih _ h]
        · cases h
    · simp only [gp] at h
      simp only [List.cons_append, gp]
      split at h
      · rename_i hb
        rw [if_pos hb, ih _ h]
      · rename_i hb
        rw [if_neg hb, ih _ h]

theorem sk_pos {d : UInt8} {q : List UInt8} : 1 ≤ sk true (d :: q) := by simp only [sk]; split <;> omega

theorem sk_gp (l : List UInt8) (st : Bool) : ∃ st', gp st (l.take (sk st l)) = some st' ∧ sk st' (l.drop (sk st l)) = 0 ∧ (st' = true → l.drop (sk st l) = []) := by
  induction l generalizing st with
  | nil => exact ⟨st, by simp [gp], by simp [sk], by simp⟩
  | cons c r ih =>
    cases st
    · by_cases hb : isB c = true
      · obtain ⟨s, h1, h2, h3⟩ := ih false
        refine ⟨s, ?_, ?_, ?_⟩ <;> simp only [sk, if_pos hb, List.take_succ_cons, List.drop_succ_cons]
        · simp only [gp, if_pos hb]; exact h1
        · exact h2
        · exact h3
      · by_cases hc : (decide (c.toNat = 47) && hd (fun d => decide (d.toNat = 47)) r) = true
        · obtain ⟨s, h1, h2, h3⟩ := ih true
          refine ⟨s, ?_, ?_, ?_⟩ <;> simp only [sk, if_neg hb, if_pos hc, List.take_succ_cons, List.drop_succ_cons]
          · have hr : hd (fun d => decide (d.toNat = 47)) (r.take (sk true r)) = hd (fun d => decide (d.toNat = 47)) r := by
              cases r with
              | nil => simp
              | cons d q =>
                have := @sk_pos d q
                obtain ⟨k, hk⟩ : ∃ k, sk true (d :: q) = k + 1 := ⟨_, (Nat.sub_add_cancel this).symm⟩
                rw [hk]; rfl
            simp only [gp, if_neg hb, hr, if_pos hc]; exact h1
          · exact h2
          · exact h3
        · have e : sk false (c :: r) = 0 := by simp only [sk, if_neg hb, if_neg hc]
          exact ⟨false, by rw [e]; rfl, by rw [e, List.drop_zero, e], by simp⟩
    · by_cases hb : decide (c.toNat = 10) = true
      · obtain ⟨s, h1, h2, h3⟩ := ih false
        refine ⟨s, ?_, ?_, ?_⟩ <;> simp only [sk, if_pos hb, List.take_succ_cons, List.drop_succ_cons]
        · simp only [gp, if_pos hb]; exact h1
        · exact h2
        · exact h3
      · obtain ⟨s, h1, h2, h3⟩ := ih true
        refine ⟨s, ?_, ?_, ?_⟩ <;> simp only [sk, if_neg hb, List.take_succ_cons, List.drop_succ_cons]
        · simp only [gp, if_neg hb]; exact h1
        · exact h2
        · exact h3

/-- A gap, a token's text, the token. -/
abbrev Seg := List UInt8 × List UInt8 × Tok

/-- A text as gaps and tokens. -/
inductive Sg : List UInt8 → List Seg → Prop
  | fin (g : List UInt8) (st : Bool) : gp false g = some st → Sg g []
  | step (g u r : List UInt8) (tk : Tok) (segs : List Seg) : gp false g = some false → u ≠ [] → sc (u ++ r) = (tk, u.length, 0) → sk false (u ++ r) = 0 → Sg r segs → Sg (g ++ (u ++ r)) ((g, u, tk) :: segs)

/-- The tokens with their places. -/
def tokL (e : Nat) : Nat → List Seg → List Tok
  | _, [] => [⟨4, e, 0, []⟩]
  | a, s :: r => s.2.2.to ((a + s.1.length : Nat)) :: tokL e (a + s.1.length + s.2.1.length) r

theorem Sg.seq {l : List UInt8} {segs : List Seg} (h : Sg l segs) : ∀ n a, l.length < n → sq n (a + sk false l) (l.drop (sk false l)) = (tokL (a + l.length) a segs).map fun t => (t, 0) := by
  induction h with
  | fin g st hg =>
    intro n a hn
    obtain ⟨n, rfl⟩ : ∃ k, n = k + 1 := ⟨n - 1, by omega⟩
    have h1 := gp_sk g [] false st hg
    rw [List.append_nil] at h1
    have h2 : sk st [] = 0 := by simp [sk]
    have hk : sk false g = g.length := by omega
    rw [hk, List.drop_length]
    simp [sq, tokL]
  | step g u r tk segs hg hu hsc h0 hr ih =>
    intro n a hn
    obtain ⟨n, rfl⟩ : ∃ k, n = k + 1 := ⟨n - 1, by omega⟩
    have h1 := gp_sk g (u ++ r) false false hg
    have hk : sk false (g ++ (u ++ r)) = g.length := by omega
    rw [hk, List.drop_left]
    have hne : u ++ r ≠ [] := by simp [hu]
    have hul : 1 ≤ u.length := List.length_pos_iff.2 hu
    rw [sq, if_neg hne, hsc, if_neg (by simp)]
    simp only
    rw [List.drop_left, ← List.drop_drop, List.drop_left, ih n (a + g.length + u.length) (by simp at hn; omega), tokL, List.map_cons]
    have e1 : a + g.length + u.length + r.length = a + (g ++ (u ++ r)).length := by simp; omega
    rw [e1]

theorem seq_Sg (n : Nat) : ∀ (l : List UInt8) (a : Nat), l.length < n → (∀ x ∈ sq n (a + sk false l) (l.drop (sk false l)), x.2 = 0) → ∃ segs, Sg l segs := by
  induction n with
  | zero => intro l a h; omega
  | succ n ih =>
    intro l a hn hall
    obtain ⟨st, h1, h2, h3⟩ := sk_gp l false
    have hl : l = l.take (sk false l) ++ l.drop (sk false l) := (List.take_append_drop _ _).symm
    generalize hx : l.drop (sk false l) = x at *
    generalize hg : l.take (sk false l) = g at *
    by_cases hxe : x = []
    · subst hxe
      rw [List.append_nil] at hl
      exact ⟨[], by rw [hl]; exact .fin g st h1⟩
    · have hst : st = false := by
        cases st
        · rfl
        · exact absurd (h3 rfl) hxe
      subst hst
      rw [sq, if_neg hxe] at hall
      by_cases h0 : (sc x).2.2 = 0
      · rw [if_neg (by simpa using h0)] at hall
        have hsz := sc_size h0
        have hxs : x = x.take (sc x).2.1 ++ x.drop (sc x).2.1 := (List.take_append_drop _ _).symm
        have hul : (x.take (sc x).2.1).length = (sc x).2.1 := by rw [List.length_take]; omega
        have hrl : (x.drop (sc x).2.1).length < n := by
          have : l.length = g.length + x.length := by rw [hl, List.length_append]
          rw [List.length_drop]; omega
        obtain ⟨segs, hs⟩ := ih (x.drop (sc x).2.1) (a + sk false l + (sc x).2.1) hrl (by
          intro y hy
          apply hall y
          rw [List.drop_drop] at hy
          exact List.mem_cons_of_mem _ hy)
        refine ⟨(g, x.take (sc x).2.1, (sc x).1) :: segs, ?_⟩
        rw [hl]
        have := Sg.step g (x.take (sc x).2.1) (x.drop (sc x).2.1) (sc x).1 segs h1 (by intro e; rw [e] at hul; simp at hul; omega) (by rw [← hxs, hul]; rw [← h0]) (by rw [← hxs]; exact h2) hs
        rw [← hxs] at this
        exact this
      · rw [if_pos (by simpa using h0)] at hall
        exact absurd (hall _ (List.mem_singleton.2 rfl)) h0

/-- What follows a token may be this in the place of that. -/
def nx (r r' : List UInt8) : Prop := r' = [] ∨ hd isB r' = true ∨ ∀ f, hd f r' = hd f r

theorem nx_hd {f : UInt8 → Bool} (hf : ∀ c, isB c = true → f c = false) {r r' : List UInt8} (h : nx r r') (h0 : hd f r = false) : hd f r' = false := by
  rcases h with rfl | h | h
  · rfl
  · cases r' with
    | nil => rfl
    | cons c q => exact hf c h
  · rw [h]; exact h0
theorem nx_app {f : UInt8 → Bool} (hf : ∀ c, isB c = true → f c = false) {r r' : List UInt8} (h : nx r r') (u : List UInt8) (h0 : hd f (u ++ r) = false) : hd f (u ++ r') = false := by
  cases u with
  | nil => exact nx_hd hf h h0
  | cons c q => exact h0

theorem blank_N (c : UInt8) (h : isB c = true) : isN c = false := by
  simp only [isB, Bool.or_eq_true, decide_eq_true_eq] at h
  simp only [isN, isL, isD, Bool.or_eq_false_iff, Bool.and_eq_false_iff, decide_eq_false_iff_not]
  omega
theorem blank_D (c : UInt8) (h : isB c = true) : isD c = false := by
  have := blank_N c h
  simp only [isN, Bool.or_eq_false_iff] at this
  exact this.2
theorem blank_eq (k : Nat) (hk : k ≠ 32 ∧ k ≠ 10) (c : UInt8) (h : isB c = true) : decide (c.toNat = k) = false := by
  simp only [isB, Bool.or_eq_true, decide_eq_true_eq] at h
  simp only [decide_eq_false_iff_not]
  omega

theorem len_app {f : UInt8 → Bool} (u r : List UInt8) (hu : ∀ c ∈ u, f c = true) (hr : hd f r = false) : len f (u ++ r) = u.length := by
  induction u with
  | nil =>
    cases r with
    | nil => rfl
    | cons c q => simp only [hd] at hr; simp [len, hr]
  | cons c q ih =>
    simp only [List.cons_append, len, hu c (by simp), if_true, List.length_cons]
    rw [ih fun d hd => hu d (List.mem_cons_of_mem _ hd)]

theorem len_split {f : UInt8 → Bool} {u r : List UInt8} (h : len f (u ++ r) = u.length) : (∀ c ∈ u, f c = true) ∧ hd f r = false := by
  have h1 := len_mem f (u ++ r)
  have h2 := hd_drop_len f (u ++ r)
  rw [h, List.take_left] at h1
  rw [h, List.drop_left] at h2
  exact ⟨h1, h2⟩

theorem name_stable {u r r' : List UInt8} {tk : Tok} (hu : u ≠ []) (h : scName (u ++ r) = (tk, u.length, 0)) (hn : nx r r') : scName (u ++ r') = (tk, u.length, 0) := by
  unfold scName at h
  split at h
  · simp at h
  · rename_i h24
    simp only [Prod.mk.injEq] at h
    obtain ⟨h1, h2, _⟩ := h
    obtain ⟨h3, h4⟩ := len_split h2
    have h5 := len_app u r' h3 (nx_hd blank_N hn h4)
    rw [h2] at h1 h24
    rw [scName, h5, if_neg h24, ← h1, List.take_left, List.take_left]

theorem find_sub {α : Type} {p p' : α → Bool} {l : List α} {u : α} (hs : ∀ x ∈ l, p' x = true → p x = true) (hu : p' u = true) (h : l.find? p = some u) : l.find? p' = some u := by
  induction l with
  | nil => cases h
  | cons x l ih =>
    rw [List.find?_cons] at h ⊢
    cases hx : p x
    · rw [hx] at h
      have hx' : p' x = false := by
        rw [← Bool.not_eq_true]
        intro e
        rw [hs x (by simp) e] at hx
        cases hx
      rw [hx']
      exact ih (fun y hy => hs y (List.mem_cons_of_mem _ hy)) h
    · rw [hx] at h
      simp only [Option.some.injEq] at h
      subst h
      rw [hu]

theorem sg_second : ∀ s ∈ sg, ∀ a b q, s = a :: b :: q → isB b = false ∧ q = [] := by
  have h : ∀ s ∈ sg, (match s with | _ :: b :: q => !isB b && q.isEmpty | _ => true) = true := by decide
  intro s hs a b q e
  have := h s hs
  subst e
  simp only [Bool.and_eq_true, Bool.not_eq_true', List.isEmpty_iff] at this
  exact this

theorem sg_ne : ∀ s ∈ sg, s ≠ [] := by decide

theorem sign_stable {u r r' : List UInt8} {tk : Tok} (hu : u ≠ []) (h : scSign (u ++ r) = (tk, u.length, 0)) (hn : nx r r') : scSign (u ++ r') = (tk, u.length, 0) := by
  unfold scSign at h
  split at h
  · rename_i s hs
    simp only [Prod.mk.injEq] at h
    obtain ⟨h1, h2, _⟩ := h
    have hp := List.find?_some hs
    have hsm := List.mem_of_find?_eq_some hs
    have hsu : s = u := by
      obtain ⟨q, hq⟩ := List.isPrefixOf_iff_prefix.1 hp
      have := congrArg (List.take u.length) hq
      rw [List.take_left, ← h2, List.take_left] at this
      exact this
    subst hsu
    have key : ∀ x ∈ sg, x.isPrefixOf (s ++ r') = true → x.isPrefixOf (s ++ r) = true := by
      intro x hx hpx
      cases s with
      | nil => exact absurd rfl hu
      | cons c u' =>
        match x, hx, hpx with
        | [], hx, _ => exact absurd rfl (sg_ne _ hx)
        | [a], _, hpx => simpa [List.isPrefixOf] using hpx
        | a :: b :: q, hx, hpx =>
          obtain ⟨hb, rfl⟩ := sg_second _ hx a b q rfl
          simp only [List.cons_append, List.isPrefixOf, Bool.and_eq_true] at hpx ⊢
          refine ⟨hpx.1, ?_⟩
          have hpx2 := hpx.2
          have e : ∀ l : List UInt8, List.isPrefixOf [b] l = hd (fun d => b == d) l := by
            intro l; cases l with
            | nil => rfl
            | cons d q => simp [List.isPrefixOf, hd]
          rw [e] at hpx2 ⊢
          cases u' with
          | cons d q => exact hpx2
          | nil =>
            simp only [List.nil_append] at hpx2 ⊢
            rcases hn with rfl | h | h
            · simp [hd] at hpx2
            · cases r' with
              | nil => simp [hd] at hpx2
              | cons d q =>
                simp only [hd, beq_iff_eq] at hpx2 h
                subst hpx2
                rw [h] at hb; cases hb
            · rw [← h]; exact hpx2
    have hf := find_sub key (by rw [List.isPrefixOf_iff_prefix]; exact List.prefix_append _ _) hs
    rw [scSign, hf, ← h1]
  · simp at h

theorem num_stable {u r r' : List UInt8} {tk : Tok} (hu : u ≠ []) (h : scNum (u ++ r) = (tk, u.length, 0)) (hn : nx r r') : scNum (u ++ r') = (tk, u.length, 0) := by
  unfold scNum at h
  split at h
  · simp at h
  · rename_i hform
    split at h
    · simp at h
    · rename_i hmax
      simp only [Prod.mk.injEq] at h
      obtain ⟨h1, h2, _⟩ := h
      have hform' : nform (u ++ r) = false := by simpa using hform
      have hNr : hd isN r = false := by
        have := hform'
        simp only [nform, Bool.or_eq_false_iff, h2, List.drop_left] at this
        exact this.2
      have hNr' := nx_hd blank_N hn hNr
      have hdl := len_le isD (u ++ r)
      -- the parts are the same
      have key : len isD (u ++ r') = len isD (u ++ r) ∧ lng (u ++ r') = lng (u ++ r) ∧ (u ++ r').take (len isD (u ++ r)) = (u ++ r).take (len isD (u ++ r)) := by
        by_cases hL : lng (u ++ r) = true
        · have hz : len isD (u ++ r) + 1 = u.length := by rw [nsz, if_pos hL] at h2; exact h2
          have hu2 : u = u.take (len isD (u ++ r)) ++ u.drop (len isD (u ++ r)) := (List.take_append_drop _ _).symm
          have hdr : (u ++ r).drop (len isD (u ++ r)) = u.drop (len isD (u ++ r)) ++ r := List.drop_append_of_le_length (by omega)
          have hdr' : (u ++ r').drop (len isD (u ++ r)) = u.drop (len isD (u ++ r)) ++ r' := List.drop_append_of_le_length (by omega)
          have htk : (u ++ r).take (len isD (u ++ r)) = u.take (len isD (u ++ r)) := List.take_append_of_le_length (by omega)
          have htk' : (u ++ r').take (len isD (u ++ r)) = u.take (len isD (u ++ r)) := List.take_append_of_le_length (by omega)
          have hdne : u.drop (len isD (u ++ r)) ≠ [] := by intro e; have := congrArg List.length e; rw [List.length_drop] at this; simp at this; omega
          have hm := len_mem isD (u ++ r)
          have hx := hd_drop_len isD (u ++ r)
          rw [htk] at hm
          rw [hdr, hd_app _ hdne] at hx
          generalize hD : len isD (u ++ r) = D at *
          have h5 : len isD (u ++ r') = D := by
            have h6 := len_app (u.take D) (u.drop D ++ r') hm (by rw [hd_app _ hdne]; exact hx)
            rw [← List.append_assoc, List.take_append_drop] at h6
            rw [h6, List.length_take]; omega
          refine ⟨h5, ?_, by rw [htk, htk']⟩
          unfold lng
          rw [h5, hD, hdr, hdr', hd_app _ hdne, hd_app _ hdne]
        · have hL' : lng (u ++ r) = false := by simpa using hL
          have hz : len isD (u ++ r) = u.length := by rw [nsz, if_neg hL] at h2; exact h2
          obtain ⟨h3, h4⟩ := len_split hz
          have h5 := len_app u r' h3 (nx_hd blank_D hn h4)
          refine ⟨by rw [h5, hz], ?_, by rw [hz, List.take_left, List.take_left]⟩
          rw [hL']
          unfold lng at hL' ⊢
          rw [hz, List.drop_left] at hL'
          rw [h5, List.drop_left]
          exact nx_hd (blank_eq 76 (by omega)) hn hL'
      obtain ⟨k1, k2, k3⟩ := key
      have hz' : nsz (u ++ r') = u.length := by rw [nsz, k1, k2, ← nsz]; exact h2
      have hf' : nform (u ++ r') = false := by
        have := hform'
        simp only [nform, Bool.or_eq_false_iff] at this ⊢
        refine ⟨?_, by rw [hz', List.drop_left]; exact hNr'⟩
        rw [k1, hd_app r' hu]
        rw [hd_app r hu] at this
        exact this.1
      have hv : nval (u ++ r') = nval (u ++ r) := by rw [nval, k1, k3, ← nval]
      have hx' : nmax (u ++ r') = nmax (u ++ r) := by rw [nmax, k2, ← nmax]
      have hk' : nmark (u ++ r') = nmark (u ++ r) := by rw [nmark, k2, ← nmark]
      rw [scNum, hf', if_neg (by simp), hv, hx', if_neg hmax, hk', hz', ← h1]

theorem sc_stable {u r r' : List UInt8} {tk : Tok} (hu : u ≠ []) (h : sc (u ++ r) = (tk, u.length, 0)) (hn : nx r r') : sc (u ++ r') = (tk, u.length, 0) := by
  unfold sc at h ⊢
  rw [hd_app r hu] at h
  rw [hd_app r' hu]
  split at h
  · rename_i h1
    rw [if_pos h1]
    exact name_stable hu h hn
  · rename_i h1
    rw [if_neg h1]
    rw [hd_app r hu] at h
    rw [hd_app r' hu]
    split at h
    · rename_i h2
      rw [if_pos h2]
      exact num_stable hu h hn
    · rename_i h2
      rw [if_neg h2]
      exact sign_stable hu h hn

theorem sk0_stable {u r r' : List UInt8} (hu : u ≠ []) (h : sk false (u ++ r) = 0) (hn : nx r r') : sk false (u ++ r') = 0 := by
  cases u with
  | nil => exact absurd rfl hu
  | cons c q =>
    simp only [List.cons_append, sk] at h ⊢
    split at h
    · omega
    · rename_i hb
      rw [if_neg hb]
      split at h
      · omega
      · rename_i hc
        rw [if_neg]
        intro e
        simp only [Bool.and_eq_true] at e hc
        have h2 : hd (fun d => decide (d.toNat = 47)) (q ++ r) = false := by
          rw [← Bool.not_eq_true]; intro e2; exact hc ⟨e.1, e2⟩
        rw [nx_app (blank_eq 47 (by omega)) hn q h2] at e
        cases e.2
end Go.Proofs.YtlbjjpfhkgagiaaGreatDoor
