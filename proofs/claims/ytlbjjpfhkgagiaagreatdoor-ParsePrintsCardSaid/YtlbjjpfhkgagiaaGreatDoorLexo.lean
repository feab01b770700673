/-
  PLAIN MATHEMATICS of layer lex: what is printed of a text's tokens; places; blanks.
-/
import Derived.Test.YtlbjjpfhkgagiaaGreatDoorLexn
import Derived.Test.YtlbjjpfhkgagiaaGreatDoorLexpa
namespace Go.Proofs.YtlbjjpfhkgagiaaGreatDoor
set_option linter.unusedVariables false
set_option linter.unusedSimpArgs false

theorem dv_snoc (acc : Nat) (l : List UInt8) (c : UInt8) : dv acc (l ++ [c]) = dv acc l * 10 + (c.toNat - 48) := by
  rw [dv, List.foldl_append, List.foldl_cons, List.foldl_nil, ← dv, dg]

theorem dec_small {u : Nat} (h : u < 10) : Lib.decDigits u = [UInt8.ofNat (48 + u)] := by rw [Lib.decDigits, dif_pos h]
theorem dec_big {u : Nat} (h : ¬ u < 10) : Lib.decDigits u = Lib.decDigits (u / 10) ++ [UInt8.ofNat (48 + u % 10)] := by rw [Lib.decDigits, dif_neg h]

theorem dv_pos (l : List UInt8) (h0 : l ≠ []) (hd0 : ∀ c q, l = c :: q → c.toNat ≠ 48 ∧ isD c = true) : 1 ≤ dv 0 l := by
  cases l with
  | nil => exact absurd rfl h0
  | cons c q =>
    obtain ⟨h1, h2⟩ := hd0 c q rfl
    simp only [isD, Bool.and_eq_true, decide_eq_true_eq] at h2
    rw [dv_cons]
    have := dv_ge q (0 * 10 + (c.toNat - 48))
    omega

theorem ofNat_digit {c : UInt8} (h : isD c = true) : UInt8.ofNat (48 + (c.toNat - 48)) = c := by
  simp only [isD, Bool.and_eq_true, decide_eq_true_eq] at h
  have : 48 + (c.toNat - 48) = c.toNat := by omega
  rw [this]
  simp

theorem dec_dv (n : Nat) : ∀ l : List UInt8, l.length = n → l ≠ [] → (∀ c ∈ l, isD c = true) → (1 < l.length → ∀ c q, l = c :: q → c.toNat ≠ 48) → Lib.decDigits (dv 0 l) = l := by
  induction n with
  | zero => intro l hl h0; exact absurd (List.eq_nil_of_length_eq_zero hl) h0
  | succ n ih =>
    intro l hl h0 hd hz
    obtain ⟨q, c, rfl⟩ : ∃ q c, l = q ++ [c] := ⟨l.dropLast, l.getLast h0, (List.dropLast_concat_getLast h0).symm⟩
    have hc := hd c (by simp)
    have hc2 := hc
    simp only [isD, Bool.and_eq_true, decide_eq_true_eq] at hc2
    rw [dv_snoc]
    by_cases hq : q = []
    · subst hq
      have e : dv 0 [] = 0 := dv_nil 0
      rw [e, Nat.zero_mul, Nat.zero_add, dec_small (by omega), ofNat_digit hc]
      rfl
    · have hlen : q.length = n := by simp at hl; exact hl
      have hq1 : 1 ≤ q.length := List.length_pos_iff.2 hq
      have hhead : ∀ a t, q = a :: t → a.toNat ≠ 48 := by
        intro a t e
        exact hz (by rw [List.length_append]; simp; omega) a (t ++ [c]) (by rw [e]; rfl)
      have hqd : ∀ a ∈ q, isD a = true := fun a ha => hd a (List.mem_append_left _ ha)
      have hp := dv_pos q hq (fun a t e => ⟨hhead a t e, hqd a (by rw [e]; simp)⟩)
      have hi := ih q hlen hq hqd (fun _ => hhead)
      generalize dv 0 q = v at *
      have e1 : (v * 10 + (c.toNat - 48)) / 10 = v := by omega
      have e2 : (v * 10 + (c.toNat - 48)) % 10 = c.toNat - 48 := by omega
      rw [dec_big (by omega), e1, e2, hi, ofNat_digit hc]

theorem sc_txt {u r : List UInt8} {tk : Tok} (hu : u ≠ []) (h : sc (u ++ r) = (tk, u.length, 0)) : txt tk = u ∧ TokOk tk ∧ tk.k ≠ 4 := by
  unfold sc at h
  split at h
  · unfold scName at h
    split at h
    · simp at h
    · rename_i h24
      simp only [Prod.mk.injEq] at h
      obtain ⟨h1, h2, _⟩ := h
      rw [h2, List.take_left] at h1
      rw [h2] at h24
      subst h1
      exact ⟨by simp [txt], ⟨by simp; omega, by simp, by simp⟩, by simp⟩
  · split at h
    · rename_i hD
      unfold scNum at h
      split at h
      · simp at h
      · rename_i hform
        split at h
        · simp at h
        · rename_i hmax
          simp only [Prod.mk.injEq] at h
          obtain ⟨h1, h2, _⟩ := h
          have hd1 := hd_len hD
          have hdl := len_le isD (u ++ r)
          have hmem := len_mem isD (u ++ r)
          have hb : nval (u ++ r) ≤ 9223372036854775807 := by
            have : nmax (u ++ r) ≤ 9223372036854775807 := by unfold nmax; split <;> omega
            omega
          have hne : (u ++ r).take (len isD (u ++ r)) ≠ [] := by
            intro e
            have := congrArg List.length e
            rw [List.length_take] at this
            simp only [List.length_nil] at this
            omega
          have hz : 1 < ((u ++ r).take (len isD (u ++ r))).length → ∀ c q, (u ++ r).take (len isD (u ++ r)) = c :: q → c.toNat ≠ 48 := by
            intro h1 c q e e48
            have hf : nform (u ++ r) = false := by simpa using hform
            simp only [nform, Bool.or_eq_false_iff, Bool.and_eq_false_iff] at hf
            rw [List.length_take] at h1
            rcases hf.1 with h3 | h3
            · simp at h3; omega
            · have : ∃ t, u ++ r = c :: t := by
                cases hl : u ++ r with
                | nil => rw [hl] at e; simp at e
                | cons a t =>
                  rw [hl] at e
                  obtain ⟨k, hk⟩ : ∃ k, len isD (a :: t) = k + 1 := ⟨len isD (a :: t) - 1, by rw [hl] at hd1; omega⟩
                  rw [hk, List.take_succ_cons] at e
                  exact ⟨t, by rw [(List.cons.inj e).1]⟩
              obtain ⟨t, ht⟩ := this
              rw [ht] at h3
              simp [hd, e48] at h3
          have hdd := dec_dv _ _ rfl hne hmem hz
          have htxt : Lib.itoa (nval (u ++ r) : Int) ++ nmark (u ++ r) = u := by
            have e1 : Lib.itoa (nval (u ++ r) : Int) = (u ++ r).take (len isD (u ++ r)) := by
              rw [Lib.itoa, if_neg (by omega), Int.toNat_natCast]; exact hdd
            rw [e1]
            by_cases hL : lng (u ++ r) = true
            · have hz : len isD (u ++ r) + 1 = u.length := by rw [nsz, if_pos hL] at h2; exact h2
              rw [nmark, if_pos hL, List.take_append_of_le_length (by omega)]
              have hL2 := hL
              unfold lng at hL2
              rw [List.drop_append_of_le_length (by omega)] at hL2
              generalize len isD (u ++ r) = D at *
              have hu2 : u = u.take D ++ u.drop D := (List.take_append_drop _ _).symm
              have hdl2 : (u.drop D).length = 1 := by rw [List.length_drop]; omega
              match hdr : u.drop D, hdl2 with
              | [x], _ =>
                rw [hdr] at hL2
                simp only [List.cons_append, hd, decide_eq_true_eq] at hL2
                have hx : x = 76 := UInt8.toNat_inj.1 hL2
                rw [← hx]
                conv => rhs; rw [hu2, hdr]
            · have hz : len isD (u ++ r) = u.length := by rw [nsz, if_neg hL] at h2; exact h2
              rw [nmark, if_neg hL, hz, List.take_left, List.append_nil]
          subst h1
          refine ⟨by simp only [txt, if_true]; exact htxt, ⟨?_, by show (-9223372036854775808 : Int) ≤ (nval (u ++ r) : Int); omega, by show (nval (u ++ r) : Int) ≤ 9223372036854775807; omega⟩, by simp⟩
          simp only [nmark]; split <;> simp
    · unfold scSign at h
      split at h
      · rename_i s hs
        simp only [Prod.mk.injEq] at h
        obtain ⟨h1, h2, _⟩ := h
        have hp := List.find?_some hs
        have hsm := List.mem_of_find?_eq_some hs
        have hsu : s = u := by
          obtain ⟨q, hq⟩ := List.isPrefixOf_iff_prefix.1 hp
          have := congrArg (List.take u.length) hq
          rw [List.take_left, ← h2, List.take_left] at this
          exact this
        subst hsu
        subst h1
        have := sg_sizes s hsm
        exact ⟨by simp [txt], ⟨by show s.length ≤ 24; omega, by simp, by simp⟩, by simp⟩
      · simp at h

def us (segs : List Seg) : List (List UInt8) := segs.map fun s => s.2.1

theorem Sg.tok {l : List UInt8} {segs : List Seg} (h : Sg l segs) : ∀ s ∈ segs, s.2.1 ≠ [] ∧ txt s.2.2 = s.2.1 ∧ TokOk s.2.2 ∧ s.2.2.k ≠ 4 := by
  induction h with
  | fin g st hg => intro s hs; cases hs
  | step g u r tk segs hg hu hsc h0 hr ih =>
    intro s hs
    rcases List.mem_cons.1 hs with rfl | hs
    · obtain ⟨h1, h2, h3⟩ := sc_txt hu hsc
      exact ⟨hu, h1, h2, h3⟩
    · exact ih s hs

theorem tokL_ok {l : List UInt8} {segs : List Seg} (h : Sg l segs) (e : Nat) : ∀ a, ∀ t ∈ tokL e a segs, TokOk t := by
  have ht := h.tok
  clear h
  induction segs with
  | nil => intro a t hm; rw [tokL, List.mem_singleton] at hm; subst hm; exact ⟨by simp, by simp, by simp⟩
  | cons s q ih =>
    intro a t hm
    rw [tokL] at hm
    rcases List.mem_cons.1 hm with rfl | hm
    · exact (ht s (by simp)).2.2.1
    · exact ih (fun x hx => ht x (List.mem_cons_of_mem _ hx)) _ t hm

theorem txts_tokL {l : List UInt8} {segs : List Seg} (h : Sg l segs) (e : Nat) : ∀ a, txts (tokL e a segs) = us segs := by
  have ht := h.tok
  clear h
  induction segs with
  | nil => intro a; simp [tokL, txts, us]
  | cons s q ih =>
    intro a
    have h1 := ht s (by simp)
    have h2 := ih (fun x hx => ht x (List.mem_cons_of_mem _ hx)) (a + s.1.length + s.2.1.length)
    rw [tokL]
    have h3 : txts (s.2.2.to ((a + s.1.length : Nat)) :: tokL e (a + s.1.length + s.2.1.length) q) = txt (s.2.2.to ((a + s.1.length : Nat))) :: txts (tokL e (a + s.1.length + s.2.1.length) q) := by
      unfold txts
      rw [List.filter_cons, if_pos (by simp only [decide_eq_true_eq]; exact h1.2.2.2), List.map_cons]
    rw [h3, h2]
    have h4 : txt (s.2.2.to ((a + s.1.length : Nat))) = s.2.1 := by rw [← h1.2.1]; rfl
    rw [h4]; rfl

/-- Joined, from the front. -/
def jo : List (List UInt8) → List UInt8
  | [] => []
  | x :: r => if r = [] then x else x ++ 32 :: jo r

theorem jo_snoc (l : List (List UInt8)) (x : List UInt8) : jo (l ++ [x]) = if l = [] then x else jo l ++ 32 :: x := by
  induction l with
  | nil => simp [jo]
  | cons y l ih =>
    rw [List.cons_append, jo, if_neg (by simp), if_neg (by simp), ih, jo]
    by_cases h : l = []
    · subst h; simp
    · rw [if_neg h, if_neg h]; simp

theorem jn_jo (l : List (List UInt8)) (hne : ∀ x ∈ l, x ≠ []) : jn l = jo l := by
  suffices h : ∀ n, n ≤ l.length → jn (l.take n) = jo (l.take n) by have := h l.length (Nat.le_refl _); rwa [List.take_length] at this
  intro n
  induction n with
  | zero => intro _; rfl
  | succ n ih =>
    intro hn
    have ih := ih (by omega)
    rw [List.take_succ_eq_append_getElem (by omega), jn_snoc, jo_snoc, ih, jstep]
    by_cases h : l.take n = []
    · rw [h]; simp [jo]
    · rw [if_neg h, if_neg]
      intro e
      cases hl : l.take n with
      | nil => exact h hl
      | cons y q =>
        rw [hl, jo] at e
        have hy := hne y (List.mem_of_mem_take (by rw [hl]; simp))
        split at e
        · exact hy e
        · simp at e

theorem gp_blank : gp false [32] = some false := by decide

/-- What is printed has these tokens again. -/
theorem Sg.back {l : List UInt8} {segs : List Seg} (h : Sg l segs) : ∀ g0, gp false g0 = some false → ∃ segs', Sg (g0 ++ jo (us segs)) segs' ∧ segs'.map (fun s => s.2) = segs.map (fun s => s.2) := by
  induction h with
  | fin g st hg =>
    intro g0 h0
    exact ⟨[], by simp only [us, List.map_nil, jo, List.append_nil]; exact .fin g0 false h0, rfl⟩
  | step g u r tk segs hg hu hsc hk hr ih =>
    intro g0 h0
    by_cases hs : segs = []
    · subst hs
      have e : jo (us [(g, u, tk)]) = u ++ [] := by simp [us, jo]
      rw [e]
      exact ⟨[(g0, u, tk)], .step g0 u [] tk [] h0 hu (sc_stable hu hsc (.inl rfl)) (sk0_stable hu hk (.inl rfl)) (.fin [] false rfl), rfl⟩
    · obtain ⟨segs', h1, h2⟩ := ih [32] gp_blank
      have e : jo (us ((g, u, tk) :: segs)) = u ++ ([32] ++ jo (us segs)) := by
        have : us segs ≠ [] := by simpa [us] using hs
        show jo (u :: us segs) = _
        rw [jo, if_neg this]; rfl
      rw [e]
      have hn : nx r ([32] ++ jo (us segs)) := .inr (.inl rfl)
      exact ⟨(g0, u, tk) :: segs', .step g0 u _ tk segs' h0 hu (sc_stable hu hsc hn) (sk0_stable hu hk hn) h1, by rw [List.map_cons, List.map_cons, h2]⟩

theorem bare_tokL (e e' : Nat) : ∀ (a a' : Nat) (s s' : List Seg), s.map (fun x => x.2) = s'.map (fun x => x.2) → bareL (tokL e a s) = bareL (tokL e' a' s') := by
  intro a a' s
  induction s generalizing a a' with
  | nil =>
    intro s' h
    cases s' with
    | nil => rfl
    | cons x q => simp at h
  | cons x q ih =>
    intro s' h
    cases s' with
    | nil => simp at h
    | cons y p =>
      simp only [List.map_cons, List.cons.injEq] at h
      have h2 := ih (a + x.1.length + x.2.1.length) (a' + y.1.length + y.2.1.length) p h.2
      simp only [tokL, bareL, List.map_cons, List.cons.injEq] at h2 ⊢
      refine ⟨?_, h2⟩
      rw [h.1]; rfl

/-- What Lex answers of a text of gaps and tokens. -/
theorem Sg.lex {l : List UInt8} {segs : List Seg} (h : Sg l segs) (hl : l.length ≤ 1048576) : lexL l = (tokL l.length 0 segs, 0, 0) := by
  have h1 := h.seq (l.length + 1 - sk false l) 0
  have h2 := sk_le false l
  have h3 : seqL l = (tokL l.length 0 segs).map fun t => (t, 0) := by
    have h4 := h.seq (l.length + 1) 0 (by omega)
    rw [Nat.zero_add] at h4
    unfold seqL seqAt skAt
    rw [List.drop_zero, Nat.zero_add]
    rw [Nat.zero_add] at h4
    rw [← h4]
    apply sq_more
    · rw [List.length_drop]; omega
    · rw [List.length_drop]; omega
  rw [lexL, if_neg (by omega), h3, res_all (by simp), List.map_map]
  have : ((fun x : Tok × Int => x.1) ∘ fun t => (t, (0 : Int))) = id := rfl
  rw [this, List.map_id]

theorem res_bad {xs : List (Tok × Int)} : ∀ pre, (∀ x ∈ xs, x.2 = 0) ∨ (res pre xs).2.1 ≠ 0 := by
  induction xs with
  | nil => intro pre; exact .inl (by simp)
  | cons x xs ih =>
    intro pre
    obtain ⟨t, no⟩ := x
    by_cases h : no = 0
    · subst h
      rcases ih (pre ++ [t]) with h1 | h1
      · exact .inl (by intro y hy; rcases List.mem_cons.1 hy with rfl | hy; rfl; exact h1 y hy)
      · right; rw [res, if_neg (by simp)]; exact h1
    · right; rw [res, if_pos h]; exact h

/-- A text in which nothing is wrong is gaps and tokens. -/
theorem lex_Sg {l : List UInt8} (h : (lexL l).2.1 = 0) : l.length ≤ 1048576 ∧ ∃ segs, Sg l segs := by
  have hl : l.length ≤ 1048576 := by
    rcases Nat.lt_or_ge 1048576 l.length with h1 | h1
    · rw [lexL, if_pos h1] at h; simp at h
    · exact h1
  refine ⟨hl, ?_⟩
  rw [lexL, if_neg (by omega)] at h
  rcases res_bad (xs := seqL l) [] with h1 | h1
  · have h2 := sk_le false l
    apply seq_Sg (l.length + 1) l 0 (by omega)
    intro x hx
    apply h1 x
    unfold seqL seqAt skAt
    rw [List.drop_zero, Nat.zero_add]
    rw [Nat.zero_add] at hx
    have e : sq (l.length + 1 - sk false l) (sk false l) (l.drop (sk false l)) = sq (l.length + 1) (sk false l) (l.drop (sk false l)) := by
      apply sq_more
      · rw [List.length_drop]; omega
      · rw [List.length_drop]; omega
    rw [e]; exact hx
  · exact absurd h h1
end Go.Proofs.YtlbjjpfhkgagiaaGreatDoor
