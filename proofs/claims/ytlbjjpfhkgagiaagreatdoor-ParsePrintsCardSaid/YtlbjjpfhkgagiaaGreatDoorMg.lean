/-
  PLAIN MATHEMATICS of layer parse: a program that was read: who is whose kid, how many kids, the functions' trees. Walks of the statements of layer parse: how many tokens, how many kids, lists of numbers. PLAIN MATHEMATICS of layers lex and parse together: what Read answers of a text; what Print wants of it. Layer parse: Read, of any text. Layer parse: the chapter's first program (what each statement asks at its end).
-/
import Derived.Test.YtlbjjpfhkgagiaaGreatDoorParq
import Derived.Test.YtlbjjpfhkgagiaaGreatDoorPra
import Derived.Test.YtlbjjpfhkgagiaaGreatDoorPrd
import Derived.Test.YtlbjjpfhkgagiaaGreatDoorLexk
import Derived.SizedLaws
import Derived.Test.YtlbjjpfhkgagiaaGreatDoorMc
import Derived.Test.YtlbjjpfhkgagiaaGreatDoorLexo
import Derived.Test.YtlbjjpfhkgagiaaGreatDoorMa
/-! Prq -/
namespace Go.Proofs.YtlbjjpfhkgagiaaGreatDoor
set_option linter.unusedVariables false
set_option linter.unusedSimpArgs false
set_option linter.unusedSectionVars false

/-! who is whose kid -/
theorem Fo.roots_lt (x : Fo) : ∀ c k, k ∈ x.roots c → c ≤ k ∧ k < c + x.size := by
  induction x with
  | nil => intro c k h; cases h
  | cons h y r _ ih =>
    intro c k hk
    simp only [Fo.roots, List.mem_cons] at hk
    simp only [Fo.size]
    rcases hk with rfl | hk
    · omega
    · have := ih _ _ hk; omega
theorem Fo.roots_up (x : Fo) : ∀ c, (x.roots c).Pairwise (· < ·) := by
  induction x with
  | nil => intro c; exact List.Pairwise.nil
  | cons h y r _ ih =>
    intro c
    refine List.Pairwise.cons (fun k hk => ?_) (ih _)
    have := Fo.roots_lt r _ _ hk
    omega
def kidsOf (l : List Nd) : List Nat := l.flatMap Nd.kids
/-- Each node is the kid of one, or a tree's own. -/
theorem Fo.own (x : Fo) : ∀ c k, (kidsOf (x.flat c)).count k + (x.roots c).count k = if c ≤ k ∧ k < c + x.size then 1 else 0 := by
  induction x with
  | nil => intro c k; rw [if_neg (by simp only [Fo.size]; omega)]; rfl
  | cons h y r ih1 ih2 =>
    intro c k
    have h1 := ih1 c k
    have h2 := ih2 (c + y.size + 1) k
    have hs : (Fo.cons h y r).size = y.size + 1 + r.size := rfl
    by_cases hk : c ≤ k ∧ k < c + (Fo.cons h y r).size
    · rw [if_pos hk]
      rw [hs] at hk
      simp only [kidsOf, Fo.flat, Fo.roots, List.flatMap_append, List.flatMap_cons, List.count_append, List.count_cons, beq_iff_eq] at *
      split at h1 <;> split at h2 <;> split <;> omega
    · rw [if_neg hk]
      rw [hs] at hk
      simp only [kidsOf, Fo.flat, Fo.roots, List.flatMap_append, List.flatMap_cons, List.count_append, List.count_cons, beq_iff_eq] at *
      split at h1 <;> split at h2 <;> split <;> omega
/-- A node's kids stand ahead of it, one behind the other. -/
theorem Fo.flat_kids (x : Fo) : ∀ c (i : Nat) (n : Nd), (x.flat c)[i]? = some n → n.kids.Pairwise (· < ·) ∧ ∀ k ∈ n.kids, c ≤ k ∧ k < c + i := by
  induction x with
  | nil => intro c i n h; simp [Fo.flat] at h
  | cons h y r ih1 ih2 =>
    intro c i n hi
    simp only [Fo.flat] at hi
    have hl := Fo.flat_length y c
    by_cases h1 : i < y.size
    · rw [List.getElem?_append_left (by omega)] at hi
      exact ih1 c i n hi
    · rw [List.getElem?_append_right (by omega), hl] at hi
      by_cases h2 : i = y.size
      · subst h2
        simp at hi
        subst hi
        exact ⟨Fo.roots_up y c, fun k hk => Fo.roots_lt y c k hk⟩
      · obtain ⟨j, hj⟩ : ∃ j, i = y.size + (j + 1) := ⟨i - y.size - 1, by omega⟩
        subst hj
        rw [show y.size + (j + 1) - y.size = j + 1 by omega, List.getElem?_cons_succ] at hi
        have h3 := ih2 _ j n hi
        exact ⟨h3.1, fun k hk => by have := h3.2 k hk; omega⟩

/-! how many kids -/
def Fo.ar : Fo → Prop
  | .nil => True
  | .cons h k r => arity h.op k.len = true ∧ k.ar ∧ r.ar
theorem Fo.flat_ar (x : Fo) : ∀ c, x.ar → ∀ n ∈ x.flat c, arity n.h.op n.kids.length = true := by
  induction x with
  | nil => intro c _ n h; cases h
  | cons h y r ih1 ih2 =>
    intro c ha n hn
    simp only [Fo.flat, List.mem_append, List.mem_cons] at hn
    rcases hn with hn | rfl | hn
    · exact ih1 c ha.2.1 n hn
    · simp only [Fo.roots_length]; exact ha.1
    · exact ih2 _ ha.2.2 n hn
theorem Fo.ok.ar {x : Fo} : x.ok → x.ar := by
  induction x with
  | nil => intro _; trivial
  | cons h y r ih1 ih2 => intro ho; exact ⟨ho.1.ar, ih1 ho.2.1, ih2 ho.2.2⟩

theorem Ans.and {α : Type} {P Q : α → St → Prop} {r : Rs α} (h : Ans P r) (h2 : Ans Q r) : Ans (fun a s => P a s ∧ Q a s) r := by
  cases r with
  | ok a s => exact ⟨h, h2⟩
  | er n p => trivial
  | out => trivial
theorem Ends.ans {α : Type} {n : Nat} {s : St} {r : Rs α} (h : Ends n s r) : Ans (fun _ s' => s'.l.length + n ≤ s.l.length) r := by
  cases r with
  | ok a s => exact h
  | er n p => trivial
  | out => trivial
section
variable {V : Tok → Prop}
theorem It.ar {it : It} {h : Hd} {k : Fo} (h1 : okI V it h k.len) (h2 : Gr V (kI it h k.len).1 (kI it h k.len).2 k) : arity h.op k.len = true := by
  cases it with
  | e d lv =>
    simp only [kI] at h2
    rcases h1 with h1 | h1 | h1 | h1 | h1 | h1 | h1 | h1
    all_goals
      have ho := h1.1
      first
      | (simp [kE, ho] at h2
         have hl := h2.len
         simp at hl
         simp [arity, ho, hl]
         done)
      | (simp [arity, ho]; done)
      | (simp [kE, ho] at h2
         split at h2
         · have hl := h2.len; simp at hl; simp [arity, ho, hl]
         · have hl := h2.len; simp at hl; simp [arity, ho, hl])
  | s d cl =>
    simp only [kI] at h2
    obtain ⟨-, -, -, h1⟩ := h1
    rcases h1 with h1 | h1 | h1 | h1 | h1 | h1 | h1 | h1 | h1 | h1 | h1
    all_goals
      have ho := h1.1
      first
      | (simp [arity, ho]; done)
      | (simp [kS, ho] at h2
         have hl := h2.len
         simp at hl
         simp [arity, ho, hl]
         done)
      | (have hn := h1.2.2.2
         simp [arity, ho]
         omega)
  | c d =>
    have ho := h1.1
    simp [arity, ho]
theorem Gr.ar {x : Fo} : ∀ {p : List It} {st : Option It}, Gr V p st x → x.ar := by
  induction x with
  | nil => intro p st _; trivial
  | cons h k r ih1 ih2 =>
    intro p st hg
    cases p with
    | cons it p => simp only [Gr] at hg; exact ⟨It.ar hg.1 hg.2.1, ih1 hg.2.1, ih2 hg.2.2⟩
    | nil =>
      cases st with
      | none => simp [Gr] at hg
      | some it => simp only [Gr] at hg; exact ⟨It.ar hg.1 hg.2.1, ih1 hg.2.1, ih2 hg.2.2⟩

/-! what each node bears -/
/-- What lex makes: texts up to 24, names with a text, numbers of Go's. -/
structure TkV (t : Tok) : Prop where
  sl : t.s.length ≤ 24
  nm : isNm t = true → t.s ≠ []
  lo : -9223372036854775808 ≤ t.n
  hi : t.n ≤ 9223372036854775807
theorem Nm.sl (hV : ∀ t, V t → TkV t) {x : List UInt8} (h : Nm V x) : x.length ≤ 24 ∧ x ≠ [] := by
  obtain ⟨t, h1, h2, rfl⟩ := h
  exact ⟨(hV t h1).sl, (hV t h1).nm h2⟩
theorem lvl_len {x : List UInt8} (h : 1 ≤ lvl x) : x.length ≤ 24 ∧ x ≠ [] := by
  unfold lvl at h
  repeat (split at h; (rename_i e; first | (subst e; simp) | (rcases e with rfl | rfl <;> simp) | (rcases e with rfl | rfl | rfl <;> simp) | (rcases e with rfl | rfl | rfl | rfl <;> simp)))
  omega
theorem It.nok (hV : ∀ t, V t → TkV t) {it : It} {h : Hd} {k : Fo} (h1 : okI V it h k.len) (h2 : Gr V (kI it h k.len).1 (kI it h k.len).2 k) : NOk h k.len := by
  have ha := It.ar h1 h2
  have lo0 : h.n = 0 → -9223372036854775808 ≤ h.n ∧ h.n ≤ 9223372036854775807 := by omega
  cases it with
  | e d lv =>
    rcases h1 with ⟨ho, _, ⟨t, ht, -, hn, -⟩, hs, hto⟩ | ⟨ho, _, hm, hn, hto, _⟩ | ⟨ho, _, hm, hn, hto, _⟩ | ⟨ho, _, hm, hn, hto, _⟩ | ⟨ho, _, hm, hn, hto, _⟩ | ⟨ho, _, hs, hn, hto, _⟩ | ⟨ho, _, hm, hn, hto, _⟩ | ⟨ho, _, hs, hn, hto, _⟩
    · exact ⟨ha, by simp [ho, usesS], by simp [hs], hn ▸ (hV t ht).lo, hn ▸ (hV t ht).hi, by omega⟩
    · have := Nm.sl hV hm; exact ⟨ha, fun _ => this.2, this.1, (lo0 hn).1, (lo0 hn).2, by omega⟩
    · have := Nm.sl hV hm; exact ⟨ha, fun _ => this.2, this.1, (lo0 hn).1, (lo0 hn).2, by omega⟩
    · exact ⟨ha, fun _ => by rcases hm with h | h | h <;> simp [h], by rcases hm with h | h | h <;> simp [h], (lo0 hn).1, (lo0 hn).2, by omega⟩
    · have := lvl_len hm; exact ⟨ha, fun _ => this.2, this.1, (lo0 hn).1, (lo0 hn).2, by omega⟩
    · exact ⟨ha, by simp [ho, usesS], by simp [hs], (lo0 hn).1, (lo0 hn).2, by omega⟩
    · have := Nm.sl hV hm; exact ⟨ha, fun _ => this.2, this.1, (lo0 hn).1, (lo0 hn).2, by omega⟩
    · exact ⟨ha, by simp [ho, usesS], by simp [hs], (lo0 hn).1, (lo0 hn).2, by omega⟩
  | s d cl =>
    obtain ⟨-, hn, -, h1⟩ := h1
    rcases h1 with ⟨ho, hs, hto⟩ | ⟨ho, hm, hto⟩ | ⟨ho, hm, hto⟩ | ⟨ho, hm, hto⟩ | ⟨ho, hs, hto, _⟩ | ⟨ho, hs, hto⟩ | ⟨ho, hm, hto⟩ | ⟨ho, hm, hto⟩ | ⟨ho, hs, hto, _⟩ | ⟨ho, hs, hto⟩ | ⟨ho, hs, hto⟩
    all_goals
      first
      | exact ⟨ha, by simp [ho, usesS], by simp [hs], (lo0 hn).1, (lo0 hn).2, by omega⟩
      | (have := Nm.sl hV hm; exact ⟨ha, fun _ => this.2, this.1, (lo0 hn).1, (lo0 hn).2, by omega⟩)
  | c d =>
    obtain ⟨ho, hm, hn, hto, -⟩ := h1
    have := Nm.sl hV hm
    exact ⟨ha, fun _ => this.2, this.1, (lo0 hn).1, (lo0 hn).2, by omega⟩
theorem Gr.ok (hV : ∀ t, V t → TkV t) {x : Fo} : ∀ {p : List It} {st : Option It}, Gr V p st x → x.ok := by
  induction x with
  | nil => intro p st _; trivial
  | cons h k r ih1 ih2 =>
    intro p st hg
    cases p with
    | cons it p => simp only [Gr] at hg; exact ⟨It.nok hV hg.1 hg.2.1, ih1 hg.2.1, ih2 hg.2.2⟩
    | nil =>
      cases st with
      | none => simp [Gr] at hg
      | some it => simp only [Gr] at hg; exact ⟨It.nok hV hg.1 hg.2.1, ih1 hg.2.1, ih2 hg.2.2⟩

/-! a program -/
/-- Blocks, as functions have them. -/
def Bls (V : Tok → Prop) : Fo → Prop
  | .nil => True
  | .cons h k r => h.op = 11 ∧ okI V (.s 1 false) h k.len ∧ Gr V (kI (.s 1 false) h k.len).1 (kI (.s 1 false) h k.len).2 k ∧ Bls V r
theorem Bls.app {x y : Fo} (hx : Bls V x) (hy : Bls V y) : Bls V (x.app y) := by
  induction x with
  | nil => exact hy
  | cons h k r _ ih => exact ⟨hx.1, hx.2.1, hx.2.2.1, ih hx.2.2.2⟩
theorem Bls.ar {x : Fo} (hx : Bls V x) : x.ar := by
  induction x with
  | nil => trivial
  | cons h k r _ ih => exact ⟨It.ar hx.2.1 hx.2.2.1, hx.2.2.1.ar, ih hx.2.2.2⟩
theorem Bls.ok (hV : ∀ t, V t → TkV t) {x : Fo} (hx : Bls V x) : x.ok := by
  induction x with
  | nil => trivial
  | cons h k r _ ih => exact ⟨It.nok hV hx.2.1 hx.2.2.1, hx.2.2.1.ok hV, ih hx.2.2.2⟩
theorem Bls.root {x : Fo} : ∀ c, Bls V x → ∀ b ∈ x.roots c, ∃ n, (x.flat c)[b - c]? = some n ∧ n.h.op = 11 := by
  induction x with
  | nil => intro c _ b hb; cases hb
  | cons h k r _ ih =>
    intro c hx b hb
    simp only [Fo.roots, List.mem_cons] at hb
    have hl := Fo.flat_length k c
    rcases hb with rfl | hb
    · refine ⟨⟨h, k.roots c⟩, ?_, hx.1⟩
      rw [Fo.flat, List.getElem?_append_right (by omega), hl, show c + k.size - c - k.size = 0 by omega]
      rfl
    · have hlt := Fo.roots_lt r _ _ hb
      obtain ⟨n, h1, h2⟩ := ih _ hx.2.2.2 b hb
      refine ⟨n, ?_, h2⟩
      rw [Fo.flat, List.getElem?_append_right (by omega), hl, show b - c - k.size = (b - (c + k.size + 1)) + 1 by omega, List.getElem?_cons_succ]
      exact h1
structure GlV (V : Tok → Prop) (g : Gl) : Prop where
  ty : g.ty = 1 ∨ g.ty = 2 ∨ g.ty = 3
  ar : g.ty = 3 → 1 ≤ g.n
  nm : Nm V g.s
  n : 0 ≤ g.n ∧ g.n ≤ 1024
structure FnV (V : Tok → Prop) (f : Fn') : Prop where
  ty : f.ty = 0 ∨ f.ty = 1 ∨ f.ty = 2
  nm : Nm V f.s
  ps : ∀ p ∈ f.ps, (p.ty = 1 ∨ p.ty = 2) ∧ Nm V p.s
/-- No more than the tokens that were read. -/
def cnt (p : Pg) : Nat := p.g.length + p.f.length + (p.f.map fun f => f.ps.length).sum
/-- A program as far as it was read. -/
structure PgOk (V : Tok → Prop) (K : Nat) (p : Pg) (s : St) : Prop where
  ln : cnt p + s.l.length ≤ K
  vs : Vs V s
  c : s.c = p.t.size
  le : s.c ≤ 4000
  rt : p.f.map (·.b) = p.t.roots 0
  bl : Bls V p.t
  gl : ∀ g ∈ p.g, GlV V g
  fn : ∀ f ∈ p.f, FnV V f

variable {e : Tok} (he : e.k = 4)
include he
theorem block_b {n : Nat} {s : St} (hV : Vs V s) (hc : s.c ≤ 4000) :
    Ans (fun b s' => Vs V s' ∧ s'.c = s.c + b.size ∧ s'.c ≤ 4000 ∧ ∃ h k, b = Fo.one h k ∧ Bls V b) (blockB e (run e n) 1 s) :=
  (must_a he hV).bind fun _ s1 ⟨a1, a2⟩ => (run_a he n (.blk 1) s1 a1 (by omega) trivial).bind fun a s2 ⟨b1, b2, b3, b4⟩ => by
    unfold addM
    split
    · trivial
    · refine ⟨b1, ?_, by simp; omega, _, _, rfl, ?_⟩
      · simp only [lft] at b2; simp only [Fo.one, Fo.size]; omega
      · simp only [Spec] at b4
        exact ⟨rfl, ⟨by omega, rfl, rfl, .inl ⟨rfl, rfl, rfl⟩⟩, by simpa [kI, kS] using b4, trivial⟩
theorem param_b {s : St} (hV : Vs V s) : Ans (fun p s' => Vs V s' ∧ s'.c = s.c ∧ (p.ty = 1 ∨ p.ty = 2) ∧ Nm V p.s) (paramM e s) :=
  (typed_a he hV).bind fun k s1 ⟨a1, a2, a3⟩ => (name_a he a1).bind fun t s2 ⟨b1, b2, b3⟩ => ⟨b1, by omega, by simpa using a3, b3⟩
theorem more_b : ∀ (n : Nat) (l : List Pm) (s : St), Vs V s → (∀ p ∈ l, (p.ty = 1 ∨ p.ty = 2) ∧ Nm V p.s) → Ans (fun ps s' => Vs V s' ∧ s'.c = s.c ∧ ∀ p ∈ ps, (p.ty = 1 ∨ p.ty = 2) ∧ Nm V p.s) (moreM e n l s) := by
  intro n
  induction n with
  | zero => intro l s _ _; trivial
  | succ n ih =>
    intro l s hV hl
    unfold moreM
    split
    · refine (param_b he (Vs.nx he hV)).bind fun p s1 ⟨a1, a2, a3⟩ => (ih (l ++ [p]) s1 a1 ?_).mono fun ps s2 ⟨b1, b2, b3⟩ => ⟨b1, by simp only [St.nx] at a2; omega, b3⟩
      intro x hx
      rcases List.mem_append.1 hx with hx | hx
      · exact hl x hx
      · simp at hx; subst hx; exact a3
    · exact ⟨hV, rfl, hl⟩
theorem params_b {n : Nat} {s : St} (hV : Vs V s) : Ans (fun ps s' => Vs V s' ∧ s'.c = s.c ∧ ∀ p ∈ ps, (p.ty = 1 ∨ p.ty = 2) ∧ Nm V p.s) (paramsM e n s) :=
  (param_b he hV).bind fun p s1 ⟨a1, a2, a3⟩ => (more_b he n [p] s1 a1 (fun x hx => by simp at hx; subst hx; exact a3)).mono fun ps s2 ⟨b1, b2, b3⟩ => ⟨b1, by omega, b3⟩
theorem function_b {n : Nat} {kind : Int} {t : Tok} {s : St} (hk : kind = 0 ∨ kind = 1 ∨ kind = 2) (ht : Nm V t.s) (hV : Vs V s) (hc : s.c ≤ 4000) :
    Ans (fun x s' => Vs V s' ∧ s'.c = s.c + x.2.size ∧ s'.c ≤ 4000 ∧ FnV V x.1 ∧ Bls V x.2 ∧ x.2.roots s.c = [x.1.b]) (functionM e n kind t s) := by
  refine (must_a he hV).bind fun _ s1 ⟨a1, a2⟩ => ?_
  refine Ans.bind (P := fun ps s' => Vs V s' ∧ s'.c = s1.c ∧ ∀ p ∈ ps, (p.ty = 1 ∨ p.ty = 2) ∧ Nm V p.s) ?_ fun ps s2 ⟨b1, b2, b3⟩ => ?_
  · split
    · exact ⟨a1, rfl, fun p hp => by cases hp⟩
    · exact params_b he a1
  · refine (must_a he b1).bind fun _ s3 ⟨c1, c2⟩ => (block_b he c1 (by omega)).bind fun b s4 ⟨d1, d2, d3, h, k, d4, d5⟩ => ?_
    refine ⟨d1, by simp only; omega, d3, ⟨hk, ht, b3⟩, d5, ?_⟩
    subst d4
    simp only [Fo.one, Fo.roots, Fo.size] at d2 ⊢
    congr 1
    omega
theorem size_b {s : St} (hV : Vs V s) : Ans (fun n s' => Vs V s' ∧ s'.c = s.c ∧ 1 ≤ n ∧ n ≤ 1024) (sizeM e s) := by
  unfold sizeM
  split
  · trivial
  · split
    · trivial
    · exact ⟨Vs.nx he hV, rfl, by omega, by omega⟩
theorem global_b {kind : Int} {t : Tok} {s : St} (hk : kind = 1 ∨ kind = 2 ∨ kind = 3) (ht : Nm V t.s) (hV : Vs V s) : Ans (fun g s' => Vs V s' ∧ s'.c = s.c ∧ GlV V g) (globalM e kind t s) := by
  unfold globalM
  split
  · exact (must_a he hV).bind fun _ s1 ⟨a1, a2⟩ => (size_b he a1).bind fun n s2 ⟨b1, b2, b3, b4⟩ => (must_a he b1).bind fun _ s3 ⟨c1, c2⟩ => (must_a he c1).bind fun _ s4 ⟨d1, d2⟩ => ⟨d1, by omega, hk, fun _ => b3, ht, by simp only; omega, b4⟩
  · rename_i h9
    exact (must_a he hV).bind fun _ s1 ⟨a1, a2⟩ => ⟨a1, a2, hk, fun h' => absurd (Or.inl h') h9, ht, by simp⟩
theorem more_n : ∀ (n : Nat) (l : List Pm) (s : St), Ans (fun ps s' => ps.length + s'.l.length ≤ l.length + s.l.length) (moreM e n l s) := by
  intro n
  induction n with
  | zero => intro l s; trivial
  | succ n ih =>
    intro l s
    unfold moreM
    split
    · rename_i hq
      have hn := ne_of_q he (s := s) (fun h' => by simp [isT, h'] at hq)
      refine (param_ends he s.nx).ans.bind fun p s1 h1 => (ih (l ++ [p]) s1).mono fun ps s2 h2 => ?_
      simp only [List.length_append, List.length_cons, List.length_nil] at h2
      omega
    · exact Nat.le_refl _
theorem function_n (n : Nat) (k : Int) (t : Tok) (s : St) (h : 4 * s.l.length + 8 ≤ n) : Ans (fun x s' => x.1.ps.length + 1 + s'.l.length ≤ s.l.length) (functionM e n k t s) := by
  refine (must_ends he (by simp) s).ans.bind fun _ s1 h1 => ?_
  refine Ans.bind (P := fun ps s' => ps.length + s'.l.length ≤ s1.l.length) ?_ fun ps s2 h2 => (must_ends he (by simp) s2).ans.bind fun _ s3 h3 => (blockB_ends he (run_ends he n) 1 s3 (by omega)).ans.bind fun b s4 h4 => ?_
  · split
    · simp [Ans, Rs.Sat]
    · refine (param_ends he s1).ans.bind fun p s2 h2 => (more_n he n [p] s2).mono fun ps s3 h3 => ?_
      simp only [List.length_cons, List.length_nil] at h3
      omega
  · show ps.length + 1 + s4.l.length ≤ s.l.length
    omega
theorem item_b {n K : Nat} {p : Pg} {s : St} (hf : 4 * s.l.length + 4 ≤ n) (h : PgOk V K p s) : Ans (PgOk V K) (itemM e n p s) := by
  refine ((typed_a he h.vs).and (typed_ends he _ s).ans).bind fun kind s1 ⟨⟨a1, a2, a3⟩, a4⟩ => ((name_a he a1).and (name_ends he s1).ans).bind fun t s2 ⟨⟨b1, b2, b3⟩, b4⟩ => ?_
  have hk : kind = 0 ∨ kind = 1 ∨ kind = 2 ∨ kind = 3 := by simpa using a3
  have hc := h.c
  have hle := h.le
  have hln := h.ln
  unfold cnt at hln
  split
  · rename_i h9
    have hk : kind = 0 ∨ kind = 1 ∨ kind = 2 := by
      rcases h9 with h9 | h9
      · exact .inl h9
      · omega
    refine ((function_b he (n := n) hk b3 b1 (by omega)).and (function_n he n kind t s2 (by omega))).bind fun x s3 ⟨⟨c1, c2, c3, c4, c5, c6⟩, c7⟩ => ?_
    refine ⟨?_, c1, ?_, c3, ?_, h.bl.app c5, h.gl, ?_⟩
    · simp only [cnt, List.length_append, List.length_cons, List.length_nil, List.map_append, List.map_cons, List.map_nil, List.sum_append, List.sum_cons, List.sum_nil]
      omega
    · simp only [Fo.size_app]; omega
    · simp only [List.map_append, List.map_cons, List.map_nil, Fo.roots_app, h.rt, ← c6]
      congr 2
      omega
    · intro f hf
      rcases List.mem_append.1 hf with hf | hf
      · exact h.fn f hf
      · simp at hf; subst hf; exact c4
  · rename_i h9
    have hk : kind = 1 ∨ kind = 2 ∨ kind = 3 := by
      have h8 : kind ≠ 0 := fun h' => h9 (Or.inl h')
      omega
    refine ((global_b he hk b3 b1).and (global_ends he kind t s2).ans).bind fun g s3 ⟨⟨c1, c2, c3⟩, c4⟩ => ?_
    refine ⟨?_, c1, by simp only; omega, by omega, h.rt, h.bl, ?_, h.fn⟩
    · simp only [cnt, List.length_append, List.length_cons, List.length_nil]
      omega
    · intro x hx
      rcases List.mem_append.1 hx with hx | hx
      · exact h.gl x hx
      · simp at hx; subst hx; exact c3
theorem prog_b {K : Nat} : ∀ (n : Nat) (p : Pg) (s : St), 4 * s.l.length + 5 ≤ n → PgOk V K p s → Ans (PgOk V K) (progM e n p s) := by
  intro n
  induction n with
  | zero => intro p s _ _; trivial
  | succ n ih =>
    intro p s hf h
    unfold progM
    split
    · exact h
    · exact ((item_b he (by omega) h).and (item_ends he n p s (by omega)).ans).bind fun q s1 ⟨h1, h2⟩ => ih q s1 (by omega) h1
end
/-- What is read of tokens of which each is so. -/
theorem parse_b {V : Tok → Prop} {l : List Tok} (hV : ∀ t ∈ l, V t) : Ans (PgOk V l.length) (parseL l) :=
  have hl : (relT l).length ≤ l.length := (List.takeWhile_sublist _).length_le
  prog_b (endT_k l) _ _ _ (by unfold fuelT; simp only; omega) ⟨(by simp [cnt]; exact hl), fun t ht => hV t ((List.takeWhile_sublist _).subset ht), rfl, by simp, rfl, trivial, fun g hg => (by cases hg), fun f hf => (by cases hf)⟩

/-! what a shape is -/
theorem PgOk.own {V : Tok → Prop} {K : Nat} {p : Pg} {s : St} (h : PgOk V K p s) (k : Nat) : (kidsOf (p.t.flat 0)).count k + (p.f.map (·.b)).count k = if k < p.t.size then 1 else 0 := by
  have := Fo.own p.t 0 k
  rw [h.rt, this]
  simp
end Go.Proofs.YtlbjjpfhkgagiaaGreatDoor
/-! Psa -/
namespace Go.Proofs.YtlbjjpfhkgagiaaGreatDoor
open Go.RowKit
set_option linter.unusedVariables false
set_option linter.unusedSimpArgs false

/-- All texts' bytes. -/
def sumS (l : List Tok) : Nat := (l.map fun t => t.s.length).sum
def bigB (l : List Tok) : Bool := decide (3000 < l.length) || decide (32768 < sumS l)
theorem sumS_snoc (l : List Tok) (t : Tok) : sumS (l ++ [t]) = sumS l + t.s.length := by simp [sumS]
theorem sumS_le {l : List Tok} {k : Nat} (h : ∀ t ∈ l, t.s.length ≤ k) : sumS l ≤ l.length * k := by
  induction l with
  | nil => simp [sumS]
  | cons t l ih =>
    have h1 := h t (by simp)
    have h2 := ih fun x hx => h x (by simp [hx])
    simp only [sumS, List.map_cons, List.sum_cons, List.length_cons, Nat.add_mul] at *
    omega
theorem sumS_mem {l : List Tok} {t : Tok} (h : t ∈ l) : t.s.length ≤ sumS l := by
  induction l with
  | nil => cases h
  | cons x l ih =>
    simp only [sumS, List.map_cons, List.sum_cons] at *
    rcases List.mem_cons.1 h with rfl | h
    · omega
    · have := ih h; omega

set_option maxHeartbeats 2000000 in
set_option maxRecDepth 100000 in
theorem big_any (toks : List Tok) (n : Nat) (hn : toks.length = n) (A : Option Addr) (c B : Nat) (hnc : n ≤ c) (hcm : c ≤ maxLen) (w : World) (h1 : RdT w B A toks) (htx : ∀ t ∈ toks, t.s.length ≤ reachBytes) :
    Calls Tryz.prog 16 #[.slice A n c] w fun e w' => e = .returned (.bool (bigB toks)) ∧ w' = w := by
  unfold maxLen at hcm
  go_enter Tryz.func16, Tryz.ntmps16
  go_wp2
  go_loopw [3, 4] (fun y v wr => ∃ (k : Nat) (z : Int), k ≤ n ∧ v = .int .i64 k ∧ y = .int .i64 z ∧ wr = w ∧ (n ≤ 3000 → z = (sumS (toks.take k) : Nat))) (fun _ v _ => n - (intOf v).toNat)
  case atStart => exact ⟨0, 0, by omega, rfl, rfl, rfl, fun _ => rfl⟩
  case round =>
    obtain ⟨k, z, hk, rfl, rfl, rfl, hz⟩ := hrel
    by_cases hlt : k < n
    · obtain ⟨g, o, rfl, hg, x0, x1, x2, x3⟩ := h1.at_ (by omega : k < toks.length)
      have ht : toks.take (k + 1) = toks.take k ++ [toks[k]] := by rw [List.take_succ_eq_append_getElem (by omega)]
      have hm := htx toks[k] (List.getElem_mem _)
      have hs := sumS_le (l := toks.take k) (k := reachBytes) fun t h => htx t (List.mem_of_mem_take h)
      generalize toks[k] = t at *
      have HT := Lib.hid (And.intro ht (And.intro hm (And.intro hs hz)))
      clear ht hm hs hz
      go_wp2
      go_roundw
      case rel =>
        refine ⟨k + 1, _, by omega, by go_num, rfl, ?_⟩
        refine ⟨trivial, fun h3 => ?_⟩
        have hz := HT.out.2.2.2 h3
        have hs := HT.out.2.2.1
        have hm := HT.out.2.1
        have hl : (toks.take k).length * reachBytes ≤ 3000 * reachBytes := Nat.mul_le_mul_right _ (by simp; omega)
        simp only [reachBytes] at hs hm hl
        rw [HT.out.1, sumS_snoc, hz]
        unfold wrap64
        omega
      case measure => simp [intOf]; omega
    · obtain rfl : k = n := by omega
      have hfin : toks.take k = toks := by rw [← hn, List.take_length]
      rw [hfin] at hz
      by_cases hb : 3000 < k
      · have hB : bigB toks = true := by simp [bigB, hn, hb]
        have HB := Lib.hid hB
        clear hB
        go_wp2
        go_ret
        exact ⟨by rw [HB.out]; rfl, rfl⟩
      · obtain rfl := hz (by omega)
        have hB : bigB toks = decide (32768 < sumS toks) := by simp [bigB, hn, hb]
        have HB := Lib.hid hB
        clear hB
        generalize sumS toks = S at *
        go_wp2
        go_ret
        exact ⟨ret_bool (by rw [HB.out, Bool.eq_iff_iff]; simp; omega), rfl⟩

def kdL (op : Int) : Int × Int :=
  if op = 1 ∨ op = 2 ∨ op = 8 ∨ op = 17 then (0, 0) else if op = 3 ∨ op = 4 ∨ op = 6 ∨ op = 12 ∨ op = 13 ∨ op = 18 ∨ op = 20 ∨ op = 21 then (1, 1)
  else if op = 5 ∨ op = 14 ∨ op = 16 then (2, 2) else if op = 15 then (2, 3) else if op = 19 then (0, 1) else if op = 7 ∨ op = 11 then (0, 4000) else (1, 0)
theorem kdL_ok {op : Int} {n : Nat} (h : arity op n = true) (hn : n ≤ 4000) : (kdL op).1 ≤ (n : Int) ∧ (n : Int) ≤ (kdL op).2 := by
  rcases arity_cases h with ⟨ho, rfl⟩ | ⟨ho, rfl⟩ | ⟨ho, rfl⟩ | ⟨ho, rfl⟩ | ⟨ho, rfl⟩ | ⟨ho, rfl⟩ | ⟨ho, rfl⟩ | ho
  · simp [kdL, ho]
  · unfold kdL; rw [if_neg (by omega), if_pos ho]; simp
  · unfold kdL; rw [if_neg (by omega), if_neg (by omega), if_pos ho]; simp
  · simp [kdL, ho]
  · simp [kdL, ho]
  · simp [kdL, ho]
  · simp [kdL, ho]
  · unfold kdL; rw [if_neg (by omega), if_neg (by omega), if_neg (by omega), if_neg (by omega), if_neg (by omega), if_pos ho]; simp; omega
set_option maxHeartbeats 4000000 in
set_option maxRecDepth 100000 in
theorem lkids_any (op : Int) (w : World) :
    Calls Tryz.prog 17 #[.int .i64 op] w fun e w' => e = .returned (.tuple #[.int .i64 (kdL op).1, .int .i64 (kdL op).2]) ∧ w = w' := by
  go_enter Tryz.func17, Tryz.ntmps17
  go_wp2
  all_goals (go_ret2; refine ⟨?_, rfl⟩; simp_all [kdL])

set_option maxHeartbeats 2000000 in
set_option maxRecDepth 100000 in
theorem sameI_any (ks : List Nat) (n : Nat) (hn : ks.length = n) (A A' : Option Addr) (c c' B B' : Nat) (hc : n ≤ maxLen) (w : World) (h1 : RdI w B A ks) (h2 : RdI w B' A' ks) :
    Calls Tryz.prog 21 #[.slice A n c, .slice A' n c'] w fun e w' => e = .returned (.bool true) ∧ ∃ d, w' = w.drewN d := by
  unfold maxLen at hc
  go_enter Tryz.func21, Tryz.ntmps21
  go_wp2
  go_loopw [5] (fun v wr => ∃ k : Nat, k ≤ n ∧ v = .int .i64 k ∧ ∃ d, wr = w.drewN d) (fun v _ => n - (intOf v).toNat)
  case atStart => exact ⟨0, by omega, rfl, 0, rfl⟩
  case round =>
    obtain ⟨k, hk, rfl, d, rfl⟩ := hrel
    by_cases hlt : k < n
    · have hkl : k < ks.length := by omega
      obtain ⟨g, o, rfl, hg, hx⟩ : ∃ g o, A = some ⟨g, o, none⟩ ∧ g < B ∧ w.cell? ⟨g, o + k, none⟩ = some (.int .i64 (ks[k] : Nat)) := by
        rcases h1 with rfl | ⟨g, o, e, hg, hc⟩
        · simp at hkl
        · exact ⟨g, o, e, hg, hc k _ (List.getElem?_eq_getElem hkl)⟩
      obtain ⟨g', o', rfl, hg', hy⟩ : ∃ g o, A' = some ⟨g, o, none⟩ ∧ g < B' ∧ w.cell? ⟨g, o + k, none⟩ = some (.int .i64 (ks[k] : Nat)) := by
        rcases h2 with rfl | ⟨g, o, e, hg, hc⟩
        · simp at hkl
        · exact ⟨g, o, e, hg, hc k _ (List.getElem?_eq_getElem hkl)⟩
      generalize ks[k] = t at *
      go_wp2
      go_quiet (fail)
      go_wp2
      go_roundw
      case rel => exact ⟨k + 1, by omega, by go_num, _, rfl⟩
      case measure => simp [intOf]; omega
    · go_wp2
      go_ret
      exact ⟨rfl, d, rfl⟩
end Go.Proofs.YtlbjjpfhkgagiaaGreatDoor
/-! Psb -/
namespace Go.Proofs.YtlbjjpfhkgagiaaGreatDoor
set_option linter.unusedVariables false
set_option linter.unusedSimpArgs false
set_option linter.unusedSectionVars false

/-! an error has a number -/
def EOk {α : Type} (r : Rs α) : Prop := ∀ no p, r = .er no p → no ≠ 0
theorem EOk.bind {α β : Type} {r : Rs α} {f : α → St → Rs β} (h : EOk r) (hf : ∀ a s, EOk (f a s)) : EOk (r.bind f) := by
  intro no p e
  cases r with
  | ok a s => exact hf a s no p e
  | er n q => simp only [Rs.bind, Rs.er.injEq] at e; exact h no p (by rw [e.1, e.2])
  | out => simp [Rs.bind] at e
theorem EOk.ok {α : Type} (a : α) (s : St) : EOk (Rs.ok a s) := fun no p e => by cases e
theorem EOk.out {α : Type} : EOk (Rs.out : Rs α) := fun no p e => by cases e
theorem EOk.er {α : Type} (n p : Int) (h : n ≠ 0) : EOk (Rs.er n p : Rs α) := fun no q e => by simp only [Rs.er.injEq] at e; rw [← e.1]; exact h
section
variable (e : Tok)
theorem wr_e {α : Type} (n : Int) (s : St) (h : n ≠ 0) : EOk (wr e n s : Rs α) := EOk.er _ _ h
theorem must_e (x : List UInt8) (s : St) : EOk (must e x s) := by unfold must; split; exact EOk.ok _ _; exact wr_e e 2 s (by decide)
theorem name_e (s : St) : EOk (nameM e s) := by unfold nameM; split; exact EOk.ok _ _; exact wr_e e 2 s (by decide)
theorem typed_e (ks : List Int) (s : St) : EOk (typedM e ks s) := by
  unfold typedM
  split
  · split
    · exact EOk.ok _ _
    · exact wr_e e 2 s (by decide)
  · exact wr_e e 2 s (by decide)
theorem add_e (h : Hd) (k : Fo) (s : St) : EOk (addM h k s) := by unfold addM; split; exact EOk.er _ _ (by decide); exact EOk.ok _ _
theorem enter_e (d : Nat) (s : St) : EOk (enterM e d s) := by unfold enterM; split; exact wr_e e 3 s (by decide); exact EOk.ok _ _
variable {r : Md → St → Rs Fo} (hr : ∀ m s, EOk (r m s))
include hr
theorem callB_e (f : Tok) (d : Nat) (s : St) : EOk (callB e r f d s) := by
  unfold callB
  repeat' (first | exact hr _ _ | exact EOk.ok _ _ | exact must_e e _ _ | exact name_e e _ | exact typed_e e _ _ | exact add_e _ _ _ | exact enter_e e _ _ | exact wr_e e _ _ (by decide) | refine EOk.bind ?_ (fun _ _ => ?_) | split)
theorem varB_e (d : Nat) (s : St) : EOk (varB e r d s) := by
  unfold varB elemB
  repeat' (first | exact hr _ _ | exact callB_e e hr _ _ _ | exact EOk.ok _ _ | exact must_e e _ _ | exact name_e e _ | exact typed_e e _ _ | exact add_e _ _ _ | exact enter_e e _ _ | exact wr_e e _ _ (by decide) | refine EOk.bind ?_ (fun _ _ => ?_) | split)
theorem opdB_e (d : Nat) (s : St) : EOk (opdB e r d s) := by
  unfold opdB numB unB encB encE inB
  repeat' (first | exact hr _ _ | exact varB_e e hr _ _ | exact EOk.ok _ _ | exact must_e e _ _ | exact name_e e _ | exact typed_e e _ _ | exact add_e _ _ _ | exact enter_e e _ _ | exact wr_e e _ _ (by decide) | refine EOk.bind ?_ (fun _ _ => ?_) | split)
theorem guardB_e (d : Nat) (s : St) : EOk (guardB e r d s) := by
  unfold guardB
  repeat' (first | exact hr _ _ | exact EOk.ok _ _ | exact must_e e _ _ | exact name_e e _ | exact typed_e e _ _ | exact add_e _ _ _ | exact enter_e e _ _ | exact wr_e e _ _ (by decide) | refine EOk.bind ?_ (fun _ _ => ?_) | split)
theorem namedB_e (d : Nat) (s : St) : EOk (namedB e r d s) := by
  unfold namedB storeB
  repeat' (first | exact hr _ _ | exact callB_e e hr _ _ _ | exact EOk.ok _ _ | exact must_e e _ _ | exact name_e e _ | exact typed_e e _ _ | exact add_e _ _ _ | exact enter_e e _ _ | exact wr_e e _ _ (by decide) | refine EOk.bind ?_ (fun _ _ => ?_) | split)
theorem blockB_e (d : Nat) (s : St) : EOk (blockB e r d s) := by
  unfold blockB
  repeat' (first | exact hr _ _ | exact EOk.ok _ _ | exact must_e e _ _ | exact name_e e _ | exact typed_e e _ _ | exact add_e _ _ _ | exact enter_e e _ _ | exact wr_e e _ _ (by decide) | refine EOk.bind ?_ (fun _ _ => ?_) | split)
theorem stmB_e (d : Nat) (s : St) : EOk (stmB e r d s) := by
  unfold stmB localB ifB whileB gotoB retB outB
  repeat' (first | exact hr _ _ | exact namedB_e e hr _ _ | exact guardB_e e hr _ _ | exact blockB_e e hr _ _ | exact EOk.ok _ _ | exact must_e e _ _ | exact name_e e _ | exact typed_e e _ _ | exact add_e _ _ _ | exact enter_e e _ _ | exact wr_e e _ _ (by decide) | refine EOk.bind ?_ (fun _ _ => ?_) | split)
omit hr in
theorem run_e : ∀ n m s, EOk (run e n m s) := by
  intro n
  induction n with
  | zero => intro m s; exact EOk.out
  | succ n ih =>
    intro m s
    cases m with
    | bin d l => exact EOk.bind (ih _ _) fun _ _ => ih _ _
    | loop d l x =>
      show EOk (loopB e (run e n) d l x s)
      unfold loopB
      split
      · exact EOk.ok _ _
      · exact EOk.bind (ih _ _) fun _ _ => EOk.bind (add_e _ _ _) fun _ _ => ih _ _
    | opd d => exact opdB_e e ih d s
    | args d =>
      show EOk (argsB e (run e n) d s)
      unfold argsB
      refine EOk.bind (ih _ _) fun _ _ => ?_
      split
      · exact EOk.bind (ih _ _) fun _ _ => EOk.ok _ _
      · exact EOk.ok _ _
    | stm d => exact stmB_e e ih d s
    | blk d =>
      show EOk (blkB e (run e n) d s)
      unfold blkB
      split
      · exact EOk.ok _ _
      · exact EOk.bind (ih _ _) fun _ _ => EOk.bind (ih _ _) fun _ _ => EOk.ok _ _
omit hr in
theorem param_e (s : St) : EOk (paramM e s) := EOk.bind (typed_e e _ _) fun _ _ => EOk.bind (name_e e _) fun _ _ => EOk.ok _ _
omit hr in
theorem more_e : ∀ n l s, EOk (moreM e n l s) := by
  intro n
  induction n with
  | zero => intro l s; exact EOk.out
  | succ n ih =>
    intro l s
    unfold moreM
    split
    · exact EOk.bind (param_e e _) fun _ _ => ih _ _
    · exact EOk.ok _ _
omit hr in
theorem prog_e : ∀ n p s, EOk (progM e n p s) := by
  intro n
  induction n with
  | zero => intro p s; exact EOk.out
  | succ n ih =>
    intro p s
    unfold progM
    split
    · exact EOk.ok _ _
    · refine EOk.bind ?_ fun _ _ => ih _ _
      unfold itemM functionM globalM sizeM paramsM
      repeat' (first | exact param_e e _ | exact more_e e _ _ _ | exact blockB_e e (run_e e n) _ _ | exact EOk.ok _ _ | exact must_e e _ _ | exact name_e e _ | exact typed_e e _ _ | exact wr_e e _ _ (by decide) | refine EOk.bind ?_ (fun _ _ => ?_) | split)
end
theorem parse_e (l : List Tok) : EOk (parseL l) := prog_e _ _ _ _

/-! a text -/
/-- What Read answers: the program, if the text is one. -/
def readL (l : List UInt8) : Option Pg :=
  if (lexL l).2.1 ≠ 0 then none else match parseL (lexL l).1 with
    | .ok pg _ => some pg
    | _ => none
theorem sg_count {l : List UInt8} {segs : List Seg} (h : Sg l segs) : segs.length ≤ l.length := by
  induction h with
  | fin g st hg => simp
  | step g u r tk segs hg hu hsc h0 hr ih =>
    have := List.length_pos_iff.2 hu
    simp only [List.length_cons, List.length_append]
    omega
theorem tokL_len (e a : Nat) (segs : List Seg) : (tokL e a segs).length = segs.length + 1 := by
  induction segs generalizing a with
  | nil => rfl
  | cons s q ih => rw [tokL, List.length_cons, ih, List.length_cons]
theorem tokL_V {l : List UInt8} {segs : List Seg} (h : Sg l segs) (e : Nat) : ∀ a, ∀ t ∈ tokL e a segs, TkV t := by
  have ht := h.tok
  clear h
  induction segs with
  | nil => intro a t hm; rw [tokL, List.mem_singleton] at hm; subst hm; exact ⟨by simp, by simp [isNm], by simp, by simp⟩
  | cons s q ih =>
    intro a t hm
    rw [tokL] at hm
    rcases List.mem_cons.1 hm with rfl | hm
    · obtain ⟨h1, h2, h3, h4⟩ := ht s (by simp)
      refine ⟨h3.1, fun hn => ?_, h3.2.1, h3.2.2⟩
      have hk : s.2.2.k = 1 := by
        simp only [isNm, Tok.to, Bool.and_eq_true] at hn
        exact of_decide_eq_true hn.1
      rw [txt, if_neg (by omega)] at h2
      simp only [Tok.to, h2]
      exact h1
    · exact ih (fun x hx => ht x (List.mem_cons_of_mem _ hx)) _ t hm
/-- The tokens of a text. -/
theorem lex_toks {l : List UInt8} (h : (lexL l).2.1 = 0) : l.length ≤ 1048576 ∧ (lexL l).1.length ≤ l.length + 1 ∧ ∀ t ∈ (lexL l).1, TkV t := by
  obtain ⟨hl, segs, hS⟩ := lex_Sg h
  rw [hS.lex hl]
  exact ⟨hl, by simp only [tokL_len]; have := sg_count hS; omega, tokL_V hS _ _⟩
theorem res_len : ∀ n a l pre, (res pre (sq n a l)).1.length ≤ pre.length + n := by
  intro n
  induction n with
  | zero => intro a l pre; simp [sq, res]
  | succ n ih =>
    intro a l pre
    rw [sq]
    split
    · simp [res]
    · split
      · simp [res, *]
      · have := ih (a + (sc l).2.1 + sk false (l.drop (sc l).2.1)) ((l.drop (sc l).2.1).drop (sk false (l.drop (sc l).2.1))) (pre ++ [(sc l).1.to a])
        simp [res]
        simp at this
        omega

/-! what Print wants -/
theorem nodeT_ok {h : Hd} {k : Fo} (hn : NOk h k.len) (hk : ∀ a ∈ k.tk, ∀ x ∈ a.2, x.length ≤ 45) : ∀ x ∈ nodeT h k.tk, x.length ≤ 45 := by
  intro x hx
  obtain ⟨y, hy, hx⟩ := List.mem_flatMap.1 hx
  have hw := (pat_words _ _ y hy).2
  have hkid : ∀ i, ∀ x ∈ kidT h i k.tk[i]?, x.length ≤ 45 := by
    intro i x hx
    cases ho : k.tk[i]? with
    | none => rw [ho] at hx; cases hx
    | some a =>
      have ha := hk a (List.mem_of_getElem? ho)
      rw [ho] at hx
      simp only [kidT] at hx
      split at hx
      · simp at hx
        rcases hx with rfl | hx | rfl
        · simp
        · exact ha x hx
        · simp
      · exact ha x hx
  unfold partT at hx
  split at hx
  · simp at hx; subst hx; exact (digL_len hn.lo hn.hi).2
  split at hx
  · simp at hx; subst hx; have := hn.sl; omega
  split at hx
  · simp at hx; subst hx; exact (typeW_len _).2
  split at hx; · exact hkid 0 x hx
  split at hx; · exact hkid 1 x hx
  split at hx; · exact hkid 2 x hx
  split at hx
  · obtain ⟨a, ha, hx⟩ := List.mem_flatMap.1 hx; exact hk a ha x hx
  split at hx
  · cases hl : k.tk with
    | nil => rw [hl] at hx; cases hx
    | cons a l =>
      rw [hl] at hx hk
      simp only [sepT, List.mem_append, List.mem_flatMap, List.mem_cons] at hx
      rcases hx with hx | ⟨b, hb, rfl | hx⟩
      · exact hk a (by simp) x hx
      · simp
      · exact hk b (by simp [hb]) x hx
  · simp at hx; subst hx; exact hw
theorem Fo.tk_ok (x : Fo) : x.ok → ∀ a ∈ x.tk, ∀ t ∈ a.2, t.length ≤ 45 := by
  induction x with
  | nil => intro _ a h; cases h
  | cons h k r ih1 ih2 =>
    intro ho a ha
    simp only [Fo.tk, List.mem_cons] at ha
    rcases ha with rfl | ha
    · exact nodeT_ok ho.1 (ih1 ho.2.1)
    · exact ih2 ho.2.2 a ha
/-- The functions' lines. -/
def fnLs : List Fn' → Fo → List UInt8
  | f :: fs, .cons h k r => (wl false (fnT f (nodeT h k.tk)) ++ [10]) ++ fnLs fs r
  | _, _ => []
/-- A program's text. -/
def progT (p : Pg) : List UInt8 := glL p.g ++ fnLs p.f p.t
theorem pmT_len (l : List Pm) : (pmT l).length ≤ 3 * l.length := by
  cases l with
  | nil => simp [pmT]
  | cons p l =>
    have h : ∀ l : List Pm, (l.flatMap fun p => [[44], typeW p.ty, p.s]).length = 3 * l.length := by
      intro l
      induction l with
      | nil => rfl
      | cons p l ih => rw [List.flatMap_cons, List.length_append, ih]; simp; omega
    simp only [pmT, List.length_append, List.length_cons, List.length_nil, h]
    omega
section
variable {V : Tok → Prop} (hV : ∀ t, V t → TkV t)
include hV
theorem pmT_ok {l : List Pm} (h : ∀ p ∈ l, (p.ty = 1 ∨ p.ty = 2) ∧ Nm V p.s) : ∀ x ∈ pmT l, x.length ≤ 45 := by
  have h1 : ∀ p ∈ l, p.s.length ≤ 45 := fun p hp => by have := (Nm.sl hV (h p hp).2).1; omega
  cases l with
  | nil => intro x hx; cases hx
  | cons p l =>
    intro x hx
    simp only [pmT, List.mem_append, List.mem_cons, List.mem_flatMap, List.not_mem_nil, or_false] at hx
    rcases hx with (rfl | rfl) | ⟨q, hq, rfl | rfl | rfl⟩
    · exact (typeW_len _).2
    · exact h1 p (by simp)
    · simp
    · exact (typeW_len _).2
    · exact h1 q (by simp [hq])
theorem fnT_ok {f : Fn'} {t : Tx} (hf : FnV V f) (ht : ∀ x ∈ t, x.length ≤ 45) : ∀ x ∈ fnT f t, x.length ≤ 45 := by
  intro x hx
  simp only [fnT, List.mem_append, List.mem_cons, List.not_mem_nil, or_false] at hx
  rcases hx with (((rfl | rfl | rfl) | hx) | rfl) | hx
  · exact (typeW_len _).2
  · have := (Nm.sl hV hf.nm).1; omega
  · simp
  · exact pmT_ok hV hf.ps x hx
  · simp
  · exact ht x hx
theorem fnLs_len : ∀ (t : Fo) (fs : List Fn'), Bls V t → (∀ f ∈ fs, FnV V f) → (fnLs fs t).length ≤ 46 * (4 * t.len + 3 * (fs.map fun f => f.ps.length).sum + sumL t.tk) + t.len := by
  intro t
  induction t with
  | nil => intro fs _ _; cases fs <;> simp [fnLs]
  | cons h k r _ ih =>
    intro fs hb hf
    cases fs with
    | nil => simp [fnLs]
    | cons f fs =>
      have h1 := ih fs hb.2.2.2 fun x hx => hf x (by simp [hx])
      have hk : k.ok := hb.2.2.1.ok hV
      have hn := It.nok hV hb.2.1 hb.2.2.1
      have h2 := wl_len (fnT f (nodeT h k.tk)) (fnT_ok hV (hf f (by simp)) (nodeT_ok hn (Fo.tk_ok k hk))) false
      have h3 := pmT_len f.ps
      have h4 : (fnT f (nodeT h k.tk)).length = 4 + (pmT f.ps).length + (nodeT h k.tk).length := by simp [fnT]; omega
      simp only [fnLs, List.length_append, List.length_cons, List.length_nil, Fo.len, Fo.tk, sumL, List.map_cons, List.sum_cons] at *
      omega
theorem glL_len {gs : List Gl} (h : ∀ g ∈ gs, GlV V g) : (glL gs).length ≤ 323 * gs.length := by
  induction gs with
  | nil => simp [glL]
  | cons g gs ih =>
    have h1 := ih fun x hx => h x (by simp [hx])
    have hg := h g (by simp)
    have hs := (Nm.sl hV hg.nm).1
    have h2 := wl_len (glT g) (by
      intro x hx
      simp only [glT, List.mem_append, List.mem_cons, List.not_mem_nil, or_false] at hx
      rcases hx with ((rfl | rfl) | hx) | rfl
      · exact (typeW_len _).2
      · omega
      · split at hx
        · cases hx
        · simp at hx
          rcases hx with rfl | rfl | rfl
          · simp
          · have := Lib.itoa_length_le g.n (by have := hg.n; omega) (by have := hg.n; omega); omega
          · simp
      · simp) false
    have h3 : (glT g).length ≤ 6 := by simp only [glT, List.length_append]; split <;> simp
    simp only [glL, List.flatMap_cons, List.length_append, List.length_cons, List.length_nil] at *
    omega
theorem fts_aux (L : List Nd) : ∀ (t : Fo) (c : Nat) (fl : List (Fn' × Value)), Bls V t → fl.map (fun x => x.1.b) = t.roots c → (∀ x ∈ fl, FnOk x.1) → t.flat c <+: L.drop c → c ≤ L.length →
    ∃ l : List FT, l.map (fun x => (x.f, x.v)) = fl ∧ FTs L c l ∧ fnL l = fnLs (fl.map (·.1)) t ∧ ∀ x ∈ l, (nodeT x.h x.k.tk).length ≤ sumL t.tk ∧ x.k.size + 1 ≤ t.size := by
  intro t
  induction t with
  | nil =>
    intro c fl _ h1 _ _ hc
    cases fl with
    | nil => exact ⟨[], rfl, hc, rfl, fun x hx => by cases hx⟩
    | cons a fl => simp [Fo.roots] at h1
  | cons h k r _ ih =>
    intro c fl hb h1 h2 h3 hc
    cases fl with
    | nil => simp [Fo.roots] at h1
    | cons a fl =>
      obtain ⟨f, v⟩ := a
      simp only [List.map_cons, Fo.roots, List.cons.injEq] at h1
      obtain ⟨rst, hr⟩ := h3
      have hfl : (Fo.cons h k r).flat c = (Fo.one h k).flat c ++ r.flat (c + (k.size + 1)) := by simp [Fo.flat, Fo.one, Nat.add_assoc]
      rw [hfl, List.append_assoc] at hr
      have hlen : ((Fo.one h k).flat c).length = k.size + 1 := by rw [Fo.flat_length]; simp [Fo.one, Fo.size]
      have hd : L.drop (c + (k.size + 1)) = r.flat (c + (k.size + 1)) ++ rst := by
        rw [← List.drop_drop, ← hr, List.drop_append_of_le_length (by omega), ← hlen, List.drop_length, List.nil_append]
      have hle : c + (k.size + 1) ≤ L.length := by
        have := congrArg List.length hr
        simp only [List.length_append, List.length_drop, hlen] at this
        omega
      obtain ⟨l, e1, e2, e3, e4⟩ := ih (c + (k.size + 1)) fl hb.2.2.2 (by rw [← Nat.add_assoc]; exact h1.2) (fun x hx => h2 x (by simp [hx])) ⟨rst, hd.symm⟩ hle
      refine ⟨⟨f, v, h, k⟩ :: l, by simp [e1], ⟨h1.1, ⟨It.nok hV hb.2.1 hb.2.2.1, hb.2.2.1.ok hV⟩, ⟨_, hr⟩, h2 (f, v) (by simp), e2⟩, ?_, ?_⟩
      · rw [List.map_cons, fnLs, ← e3]; simp [fnL]
      · intro x hx
        simp only [Fo.tk, sumL, List.map_cons, List.sum_cons, Fo.size]
        rcases List.mem_cons.1 hx with rfl | hx
        · exact ⟨Nat.le_add_right _ _, Nat.le_add_right _ _⟩
        · have := e4 x hx
          simp only [sumL] at this
          omega
omit hV in
theorem le_sum {l : List Nat} {x : Nat} (h : x ∈ l) : x ≤ l.sum := by
  induction l with
  | nil => cases h
  | cons a l ih =>
    rw [List.sum_cons]
    rcases List.mem_cons.1 h with rfl | h
    · omega
    · have := ih h; omega
/-- What was read can be printed. -/
theorem prints_of {K : Nat} {pg : Pg} {s : St} (h : PgOk V K pg s) (hK : K ≤ 1048577) {fl : List (Fn' × Value)} (hfl : fl.map (·.1) = pg.f) :
    ∃ l : List FT, l.map (fun x => (x.f, x.v)) = fl ∧ FTs (pg.t.flat 0) 0 l ∧ (∀ x ∈ pg.g, GlOk x) ∧ pg.g.length ≤ 2000000 ∧ l.length ≤ 2000000 ∧ (∀ x ∈ l, (nodeT x.h x.k.tk).length + (x.k.size + 1) ≤ 1000000) ∧ glL pg.g ++ fnL l = progT pg ∧ (progT pg).length ≤ 900000000 := by
  have hln := h.ln
  unfold cnt at hln
  have hsz := h.le
  rw [h.c] at hsz
  have hok := h.bl.ok hV
  have htc := tk_count pg.t hok
  have hps : ∀ f ∈ pg.f, f.ps.length ≤ (pg.f.map fun f => f.ps.length).sum := fun f hf => le_sum (List.mem_map.2 ⟨f, hf, rfl⟩)
  have hfo : ∀ x ∈ fl, FnOk x.1 := fun x hx => by
    have hm : x.1 ∈ pg.f := by rw [← hfl]; exact List.mem_map.2 ⟨x, hx, rfl⟩
    have hv := h.fn _ hm
    have := hps _ hm
    refine ⟨by have := hv.ty; omega, fun p hp => ?_, by omega⟩
    have := (hv.ps p hp).1
    omega
  obtain ⟨l, e1, e2, e3, e4⟩ := fts_aux hV (pg.t.flat 0) pg.t 0 fl h.bl (by rw [← h.rt, ← hfl, List.map_map]; rfl) hfo (by simp) (by omega)
  refine ⟨l, e1, e2, fun x hx => ?_, by omega, ?_, fun x hx => ?_, by rw [e3, hfl]; rfl, ?_⟩
  · have hg := h.gl x hx
    exact ⟨by have := hg.ty; omega, (Nm.sl hV hg.nm).1, hg.n⟩
  · have h1 := congrArg List.length e1
    have h2 := congrArg List.length hfl
    simp only [List.length_map] at h1 h2
    omega
  · have := e4 x hx
    omega
  · have h1 := fnLs_len hV pg.t pg.f h.bl h.fn
    have h2 := glL_len hV h.gl
    have h3 := Fo.len_le pg.t
    unfold progT
    rw [List.length_append]
    omega
end
end Go.Proofs.YtlbjjpfhkgagiaaGreatDoor
/-! Psc -/
namespace Go.Proofs.YtlbjjpfhkgagiaaGreatDoor
open Go.RowKit
set_option linter.unusedVariables false
set_option linter.unusedSimpArgs false

theorem lexp_use {w : World} {x : List Tok × Int × Int} {e : Ending} {w' : World} (h : LexPost w x e w') :
    ∃ A c, e = .returned (.tuple #[.slice A x.1.length c, .agg #[.int .i64 x.2.1, .int .i64 x.2.2]]) ∧ RdT w' w'.heap.size A x.1 ∧ x.1.length ≤ c ∧ c ≤ maxLen ∧ (A = none → c = 0) ∧ Below w.heap.size w w' := by
  obtain ⟨v, rfl, hr, hb⟩ := h
  obtain ⟨A, c, rfl, hA⟩ : ∃ A c, v = .slice A x.1.length c ∧ (A = none → c = 0) := by
    rcases hr.2 with ⟨rfl, h0⟩ | ⟨g, cap, cur, rfl, _⟩
    · exact ⟨none, 0, by rw [h0], fun _ => rfl⟩
    · exact ⟨_, _, rfl, fun h => by cases h⟩
  obtain ⟨h1, h2, h3⟩ := RdT.of_own hr rfl
  exact ⟨A, c, rfl, h1, h2, h3, hA, hb⟩

theorem pgU : ∃ d, Tryz.prog.underlying tPg = some d ∧ d.isRow = true := ⟨_, Tryz.underlying33, rfl⟩
theorem pgInf3 : (Tryz.prog.info? tPg).map (·.size) = some 3 := by kernel_rfl
theorem results_read {fn : Func} {b : Nat} {x y z : Value} (h : fn.results = #[.cell 2 tPg, .tmp 3]) (tmps : Array Value) (w : World)
    (hp : tmps.getD 2 undef = .pointer (some ⟨b, 0, none⟩)) (hb : Blk w b tPg #[x, y, z]) :
    (results fn tmps).run Tryz.prog w = .ok (.tuple #[.agg #[x, y, z], tmps.getD 3 undef]) w := by
  obtain ⟨d, hu, hr⟩ := pgU
  have hc : w.rangeAt b 0 [x, y, z] := by
    intro j v hv
    rw [Nat.zero_add, hb.cell]
    simpa using hv
  have hl := run_loadVar_mid (P := Tryz.prog) w b 0 tPg [x, y, z] d hc hu hr pgInf3
  simp only [results, h]
  simp [Sem.run_bind, Result.andThen]
  rw [show tmps[2]?.getD undef = .pointer (some ⟨b, 0, none⟩) from by simpa using hp]
  simp [asAddr, hl]

theorem EnvW.more {B B' : Nat} {w : World} (h : EnvW B w) (hB : B ≤ B') : EnvW B' w :=
  ⟨h.en, h.ty, h.pt, h.sp, Nat.lt_of_lt_of_le h.zS hB, Nat.lt_of_lt_of_le h.zT hB, Nat.lt_of_lt_of_le h.zR hB, Nat.lt_of_lt_of_le h.zY hB, Nat.lt_of_lt_of_le h.zP hB, Nat.lt_of_lt_of_le h.zA hB⟩
theorem GlI.more {B B' : Nat} {w : World} {gv : Value} {gs : List Gl} (h : GlI w B gv gs) (hB : B ≤ B') : GlI w B' gv gs := by
  obtain ⟨A, c, h1, h2⟩ := h
  exact ⟨A, c, h1, h2.imp id fun ⟨g, o, a, b, d⟩ => ⟨g, o, a, by omega, d⟩⟩
theorem FnI.more {B B' : Nat} {w : World} {fv : Value} {fl : List (Fn' × Value)} (h : FnI w B fv fl) (hB : B ≤ B') : FnI w B' fv fl := by
  obtain ⟨A, c, h1, h2⟩ := h
  exact ⟨A, c, h1, h2.imp id fun ⟨g, o, a, b, d⟩ => ⟨g, o, a, by omega, d⟩⟩
theorem PmI.more {B B' : Nat} {w : World} {pv : Value} {ps : List Pm} (h : PmI w B pv ps) (hB : B ≤ B') : PmI w B' pv ps := by
  obtain ⟨A, c, h1, h2⟩ := h
  exact ⟨A, c, h1, h2.imp id fun ⟨g, o, a, b, d⟩ => ⟨g, o, a, by omega, d⟩⟩
theorem RdI.more {B B' : Nat} {w : World} {A : Option Addr} {ks : List Nat} (h : RdI w B A ks) (hB : B ≤ B') : RdI w B' A ks :=
  h.imp id fun ⟨g, o, a, b, d⟩ => ⟨g, o, a, by omega, d⟩
theorem Nds.more {B B' : Nat} {w : World} {nv : Value} {ns : List NV} (h : Nds w B nv ns) (hB : B ≤ B') : Nds w B' nv ns where
  len := h.len
  sl := by
    obtain ⟨A, c, h1, h2⟩ := h.sl
    exact ⟨A, c, h1, h2.imp id fun ⟨g, o, a, b, d⟩ => ⟨g, o, a, by omega, d⟩⟩
  kids := fun x hx => by
    obtain ⟨A, c, h1, h2, h3, h4⟩ := h.kids x hx
    exact ⟨A, c, h1, h2, h3, h4.more hB⟩
abbrev vNil : Value := .slice none 0 0
/-- The answer of Read. -/
def ReadPost (l : List UInt8) (w : World) (e : Ending) (w' : World) : Prop :=
  Below w.heap.size w w' ∧ match readL l with
  | some pg => ∃ gv fv nv fl ns, e = .returned (.tuple #[.agg #[gv, fv, nv], .bool true]) ∧ PgM w.heap.size w' pg gv fv nv fl ns
  | none => e = .returned (.tuple #[.agg #[vNil, vNil, vNil], .bool false])

set_option maxHeartbeats 4000000 in
set_option maxRecDepth 100000 in
theorem read_any (s : ByteArray) (hs : s.size ≤ 1048576) (w : World) (hE : EnvW w.heap.size w) :
    Calls Tryz.prog 14 #[.string s] w (ReadPost s.data.toList w) := by
  have hb0 : Below w.heap.size w (w.alloc (.cells #[vNil, vNil, vNil] tPg)) := (Below.refl _ _).alloc (Nat.le_refl _) _
  have hL := lex_any s (by unfold maxLen; omega) _ (hE.below hb0).en
  have b0 := Blk.new w tPg #[vNil, vNil, vNil]
  have e1 : (w.alloc (.cells #[vNil, vNil, vNil] tPg)).heap.size = w.heap.size + 1 := by simp
  have hlx := @lex_toks s.data.toList
  have hpe := parse_e (lexL s.data.toList).1
  have hpo := parse_ends (lexL s.data.toList).1
  obtain ⟨R, hR⟩ : ∃ R : Ending → World → Prop, ReadPost s.data.toList w = R := ⟨_, rfl⟩
  rw [hR]
  obtain ⟨⟨toks, no, at_⟩, hx⟩ : ∃ x, lexL s.data.toList = x := ⟨_, rfl⟩
  rw [hx] at hL hlx hpe hpo
  simp only at hlx hpe hpo
  have HPO : Hid (∀ e w', (Below w.heap.size w w' ∧ match (if no ≠ 0 then none else match parseL toks with | .ok pg _ => some pg | _ => none) with
      | some pg => ∃ gv fv nv fl ns, e = .returned (.tuple #[.agg #[gv, fv, nv], .bool true]) ∧ PgM w.heap.size w' pg gv fv nv fl ns
      | none => e = .returned (.tuple #[.agg #[vNil, vNil, vNil], .bool false])) → R e w') := Lib.hid fun e w' h => by
    rw [← hR]
    unfold ReadPost readL
    rw [hx]
    exact h
  clear hR hx
  have HE := Lib.hid hE
  have HB0 := Lib.hid hb0
  have HX := Lib.hid (And.intro hpe hpo)
  clear hE hb0 hpe hpo
  go_enter Tryz.func14, Tryz.ntmps14
  go_wp2_with fail
  refine hL.mono ?_
  rintro e w1 hp
  clear hL
  obtain ⟨A, c, rfl, hr, hlc, hcm, hA0, hb⟩ := lexp_use hp
  simp only at hr hlc ⊢
  rw [e1] at hb
  have b1 : Blk w1 w.heap.size tPg #[vNil, vNil, vNil] := (hb.block _ (by omega)).trans b0
  have hz1 : w.heap.size < w1.heap.size := b1.lt
  have hbw := HB0.out.trans (hb.mono (Nat.le_succ _))
  have b2 := b1.alloc (.cells #[.int .i64 no, .int .i64 at_] tD)
  have d2 := Blk.new w1 tD #[.int .i64 no, .int .i64 at_]
  have hbw2 := hbw.alloc hbw.size (.cells #[.int .i64 no, .int .i64 at_] tD)
  have B2 := Lib.hid b2
  have D2 := Lib.hid d2
  have HW2 := Lib.hid hbw2
  have HR1 := Lib.hid hr
  clear hp hb hr b0 b1
  by_cases h0 : no = 0
  · obtain ⟨-, hcnt, htv⟩ := hlx h0
    subst h0
    have hzl : s.data.toList.length ≤ 1048576 := by rw [← Lib.size_eq]; exact hs
    have htx : ∀ t ∈ toks, t.s.length ≤ 140737488355328 := fun t ht => by have := (htv t ht).sl; omega
    have HCN := Lib.hid (And.intro hcnt (And.intro hzl (And.intro htx (And.intro hlc (And.intro hcm hA0)))))
    clear hlx hcnt htv hbw hbw2 hcm hlc hA0 htx hzl e1
    go_upto_region 4 with (fail)
    have hr2 : RdT (w1.alloc (.cells #[.int .i64 0, .int .i64 at_] tD)) (w1.alloc (.cells #[.int .i64 0, .int .i64 at_] tD)).heap.size A toks := (HR1.out.below ((Below.refl _ _).alloc (Nat.le_refl _) _)).more (by simp)
    generalize w1.alloc (.cells #[.int .i64 0, .int .i64 at_] tD) = W2 at *
    have HR2 := Lib.hid hr2
    have hE2 := HE.out.below HW2.out
    have HPA := Lib.hid (parse_any toks toks.length c rfl (by have := HCN.out.1; have := HCN.out.2.1; omega) HCN.out.2.2.2.1 HCN.out.2.2.2.2.1 A HCN.out.2.2.2.2.2 W2 HR2.out HCN.out.2.2.1 hE2.ty)
    clear hr2 hE2 b2 d2
    go_wp2_with fail
    refine HPA.out.mono ?_
    rintro e w3 ⟨hb3, hp3⟩
    obtain ⟨gA, gn, gc, fA, fn, fc, uA, un, uc, n, p, rfl, hfin⟩ : ∃ gA gn gc fA fn fc uA un uc n p, e = .returned (.tuple #[.agg #[.slice gA gn gc, .slice fA fn fc, .slice uA un uc], .agg #[.int .i64 n, .int .i64 p]]) ∧
        ∀ w' : World, (∀ i, W2.heap.size ≤ i → i < w3.heap.size → w'.heap[i]? = w3.heap[i]?) →
          match (match parseL toks with | .ok pg _ => some pg | _ => none) with
          | some pg => ∃ gv fv nv fl ns, Ending.returned (.tuple #[.agg #[.slice gA gn gc, .slice fA fn fc, .slice uA un uc], .bool (n == 0)]) = .returned (.tuple #[.agg #[gv, fv, nv], .bool true]) ∧ PgM w.heap.size w' pg gv fv nv fl ns
          | none => Ending.returned (.tuple #[.agg #[.slice gA gn gc, .slice fA fn fc, .slice uA un uc], .bool (n == 0)]) = .returned (.tuple #[.agg #[vNil, vNil, vNil], .bool false]) := by
      have hx1 := HX.out.1
      have hx2 := HX.out.2
      have hsz := HW2.out.size
      cases hP : parseL toks with
      | out => exact absurd hP hx2
      | er n p =>
        rw [hP] at hp3
        refine ⟨none, 0, 0, none, 0, 0, none, 0, 0, n, p, hp3, fun w' hk => ?_⟩
        have hn : (n == 0) = false := by simpa using hx1 n p hP
        simp only [hn]
      | ok pg st =>
        rw [hP] at hp3
        obtain ⟨gv, fv, nv, fl, ns, rfl, hM⟩ := hp3
        obtain ⟨gA, gc, rfl⟩ := shape_row hM.gs
        obtain ⟨fA, fc, rfl⟩ := shape_row hM.fs
        obtain ⟨uA, uc, rfl⟩ := shape_row hM.rows
        exact ⟨gA, _, gc, fA, _, fc, uA, _, uc, 0, 0, rfl, fun w' hk => ⟨_, _, _, fl, ns, rfl, (hM.keep hk).down hsz⟩⟩
    have HFN := Lib.hid hfin
    have b3 : Blk w3 w.heap.size tPg #[vNil, vNil, vNil] := (hb3.block _ B2.out.lt).trans B2.out
    have HB3 := Lib.hid (HW2.out.trans (hb3.mono HW2.out.size))
    have HZ3 := Lib.hid hb3.size
    clear hp3 hb3 hfin HPA HR2 HCN HX
    have B3 := Lib.hid b3
    clear b3
    go_upto_region 5 with (fail)
    have bA : Blk ((w3.alloc (.cells #[.slice gA gn gc, .slice fA fn fc, .slice uA un uc] tPg)).alloc (.cells #[.int .i64 n, .int .i64 p] tD)) w3.heap.size tPg #[.slice gA gn gc, .slice fA fn fc, .slice uA un uc] := (Blk.new w3 tPg _).alloc _
    have bD := Blk.new (w3.alloc (.cells #[.slice gA gn gc, .slice fA fn fc, .slice uA un uc] tPg)) tD #[.int .i64 n, .int .i64 p]
    have eD : (w3.alloc (.cells #[.slice gA gn gc, .slice fA fn fc, .slice uA un uc] tPg)).heap.size = w3.heap.size + 1 := by simp
    rw [eD] at bD
    have bR := (B3.out.alloc (.cells #[.slice gA gn gc, .slice fA fn fc, .slice uA un uc] tPg)).alloc (.cells #[.int .i64 n, .int .i64 p] tD)
    have hbl := (HB3.out.alloc HB3.out.size (.cells #[.slice gA gn gc, .slice fA fn fc, .slice uA un uc] tPg)).alloc (by have := HB3.out.size; simp; omega) (.cells #[.int .i64 n, .int .i64 p] tD)
    have hkp : ∀ i, i < w3.heap.size → ((w3.alloc (.cells #[.slice gA gn gc, .slice fA fn fc, .slice uA un uc] tPg)).alloc (.cells #[.int .i64 n, .int .i64 p] tD)).heap[i]? = w3.heap[i]? := fun i hi => by rw [heap_alloc_old _ _ _ (by simp; omega), heap_alloc_old _ _ _ (by omega)]
    clear eD
    generalize (w3.alloc (.cells #[.slice gA gn gc, .slice fA fn fc, .slice uA un uc] tPg)).alloc (.cells #[.int .i64 n, .int .i64 p] tD) = W4 at *
    have a0 : W4.cell? ⟨w3.heap.size, 0, none⟩ = some (.slice gA gn gc) := bA.cell 0
    have a1 : W4.cell? ⟨w3.heap.size, 1, none⟩ = some (.slice fA fn fc) := bA.cell 1
    have a2 : W4.cell? ⟨w3.heap.size, 2, none⟩ = some (.slice uA un uc) := bA.cell 2
    have al := bA.lt
    have d0 : W4.cell? ⟨w3.heap.size + 1, 0, none⟩ = some (.int .i64 n) := bD.cell 0
    have dl := bD.lt
    have c0 : W4.cell? ⟨w.heap.size, 0, none⟩ = some vNil := bR.cell 0
    have c1 : W4.cell? ⟨w.heap.size, 1, none⟩ = some vNil := bR.cell 1
    have c2 : W4.cell? ⟨w.heap.size, 2, none⟩ = some vNil := bR.cell 2
    have f0 := bR.frozen 0
    have f1 := bR.frozen 1
    have f2 := bR.frozen 2
    have rl := bR.lt
    have hne : w.heap.size ≠ w3.heap.size := by have := B3.out.lt; omega
    have hne1 : w.heap.size ≠ w3.heap.size + 1 := by have := B3.out.lt; omega
    have HR4 := Lib.hid (And.intro bR (And.intro hbl hkp))
    clear bA bD bR hbl hkp
    go_region
    go_wp2_with fail
    have r0 : Blk (((W4.setCell ⟨w.heap.size, 0, none⟩ (.slice gA gn gc)).setCell ⟨w.heap.size, 1, none⟩ (.slice fA fn fc)).setCell ⟨w.heap.size, 2, none⟩ (.slice uA un uc)) w.heap.size tPg #[.slice gA gn gc, .slice fA fn fc, .slice uA un uc] := ((HR4.out.1.set_ 0 _).set_ 1 _).set_ 2 _
    have hbl : Below w.heap.size w (((W4.setCell ⟨w.heap.size, 0, none⟩ (.slice gA gn gc)).setCell ⟨w.heap.size, 1, none⟩ (.slice fA fn fc)).setCell ⟨w.heap.size, 2, none⟩ (.slice uA un uc)) := ((HR4.out.2.1.setCell (p := ⟨w.heap.size, 0, none⟩) (by simp) _).setCell (p := ⟨w.heap.size, 1, none⟩) (by simp) _).setCell (p := ⟨w.heap.size, 2, none⟩) (by simp) _
    have hkp : ∀ i, W2.heap.size ≤ i → i < w3.heap.size → (((W4.setCell ⟨w.heap.size, 0, none⟩ (.slice gA gn gc)).setCell ⟨w.heap.size, 1, none⟩ (.slice fA fn fc)).setCell ⟨w.heap.size, 2, none⟩ (.slice uA un uc)).heap[i]? = w3.heap[i]? := fun i h1 h2 => by
      have hlt := B2.out.lt
      have hc : ∀ (W : World) (o : Nat) (x : Value), (W.setCell ⟨w.heap.size, o, none⟩ x).heap[i]? = W.heap[i]? := fun W o x => Below.heap_setCell _ _ _ _ (by simp; omega)
      rw [hc, hc, hc]
      exact HR4.out.2.2 i h2
    have HEN := Lib.hid (And.intro r0 (And.intro hbl (HFN.out ((((W4.setCell ⟨w.heap.size, 0, none⟩ (.slice gA gn gc)).setCell ⟨w.heap.size, 1, none⟩ (.slice fA fn fc)).setCell ⟨w.heap.size, 2, none⟩ (.slice uA un uc)).drew) hkp)))
    clear r0 hbl hkp
    (try simp only [Exit.inBlock, Exit.then])
    refine bodyPost_ret (results_read rfl _ _ rfl HEN.out.1) rfl ?_
    refine HPO.out _ _ ?_
    rw [if_neg (by simp)]
    exact ⟨HEN.out.2.1.drew, HEN.out.2.2⟩
  · have hd : (no != 0) = true := by simpa using h0
    have H0 := Lib.hid h0
    clear h0 hlx hbw hbw2 hcm hlc e1
    go_upto_region 3 with (fail)
    generalize w1.alloc (.cells #[.int .i64 no, .int .i64 at_] tD) = W2 at *
    have c0 : W2.cell? ⟨w.heap.size, 0, none⟩ = some vNil := b2.cell 0
    have c1 : W2.cell? ⟨w.heap.size, 1, none⟩ = some vNil := b2.cell 1
    have c2 : W2.cell? ⟨w.heap.size, 2, none⟩ = some vNil := b2.cell 2
    have f0 := b2.frozen 0
    have f1 := b2.frozen 1
    have f2 := b2.frozen 2
    have hsz := b2.lt
    have r0 : Blk (((W2.setCell ⟨w.heap.size, 0, none⟩ vNil).setCell ⟨w.heap.size, 1, none⟩ vNil).setCell ⟨w.heap.size, 2, none⟩ vNil) w.heap.size tPg #[vNil, vNil, vNil] := ((b2.set_ 0 vNil).set_ 1 vNil).set_ 2 vNil
    have hbl : Below w.heap.size w (((W2.setCell ⟨w.heap.size, 0, none⟩ vNil).setCell ⟨w.heap.size, 1, none⟩ vNil).setCell ⟨w.heap.size, 2, none⟩ vNil) := ((HW2.out.setCell (p := ⟨w.heap.size, 0, none⟩) (by simp) _).setCell (p := ⟨w.heap.size, 1, none⟩) (by simp) _).setCell (p := ⟨w.heap.size, 2, none⟩) (by simp) _
    have HF := Lib.hid (And.intro r0 hbl)
    clear b2 d2 r0 hbl
    go_wp2_with fail
    (try simp only [Exit.inBlock, Exit.then])
    refine bodyPost_ret (results_read rfl _ _ rfl HF.out.1) rfl ?_
    refine HPO.out _ _ ?_
    rw [if_pos H0.out]
    exact ⟨HF.out.2, rfl⟩
end Go.Proofs.YtlbjjpfhkgagiaaGreatDoor
/-! Psd -/
namespace Go.Proofs.YtlbjjpfhkgagiaaGreatDoor
open Go.RowKit
set_option linter.unusedVariables false
set_option linter.unusedSimpArgs false

theorem read_ok {l : List UInt8} {pg : Pg} (h : readL l = some pg) : ∃ s, PgOk TkV (l.length + 1) pg s ∧ l.length ≤ 1048576 := by
  unfold readL at h
  split at h
  · cases h
  · rename_i h0
    have h0' : (lexL l).2.1 = 0 := by simpa using h0
    obtain ⟨hl, hc, hv⟩ := lex_toks h0'
    have hp := parse_b (V := TkV) hv
    cases hP : parseL (lexL l).1 with
    | out => rw [hP] at h; cases h
    | er n p => rw [hP] at h; cases h
    | ok q s =>
      rw [hP] at h hp
      simp only [Option.some.injEq] at h
      subst h
      have hp2 : PgOk TkV (lexL l).1.length q s := hp
      exact ⟨s, ⟨Nat.le_trans hp2.ln hc, hp2.vs, hp2.c, hp2.le, hp2.rt, hp2.bl, hp2.gl, hp2.fn⟩, hl⟩
/-- Print, of a program in memory that Read answered. -/
theorem print_read {l : List UInt8} {pg : Pg} (hr : readL l = some pg) {w : World} (hE : EnvW w.heap.size w) {gv fv nv : Value} {fl : List (Fn' × Value)} {ns : List NV}
    (hG : GlI w w.heap.size gv pg.g) (hF : FnI w w.heap.size fv fl) (hP : ∀ x ∈ fl, PmI w w.heap.size x.2 x.1.ps) (hN : Nds w w.heap.size nv ns) (hfe : fl.map (·.1) = pg.f) (hnl : ns.map NV.nd = pg.t.flat 0) :
    Calls Tryz.prog 11 #[.agg #[gv, fv, nv]] w fun e w' => e = .returned (.string (str (progT pg))) ∧ Below w.heap.size w w' := by
  obtain ⟨s, hok, hl⟩ := read_ok hr
  obtain ⟨l', e1, e2, e3, e4, e5, e6, e7, e8⟩ := prints_of (V := TkV) (fun t h => h) hok (by omega) hfe
  rw [← e7] at e8 ⊢
  refine print_any w hE pg.g gv hG e3 e4 ns nv hN l' fv (by rw [e1]; exact hF) (fun x hx => ?_) (by rw [hnl]; exact e2) e5 e6 e8
  exact hP (x.f, x.v) (by rw [← e1]; exact List.mem_map.2 ⟨x, hx, rfl⟩)

def tx1 : List UInt8 := [105, 110, 116, 32, 109, 97, 105, 110, 40, 41, 32, 123, 32, 114, 101, 116, 117, 114, 110, 32, 49, 32, 45, 32, 50, 32, 45, 32, 120, 59, 32, 125]
def tx2 : List UInt8 := [105, 110, 116, 32, 109, 97, 105, 110, 40, 41, 32, 123, 32, 114, 101, 116, 117, 114, 110, 32, 49, 32, 45, 32, 59, 32, 125]
def tx3 : List UInt8 := [105, 110, 116, 32, 109, 97, 105, 110, 32, 40, 32, 41, 32, 123, 32, 114, 101, 116, 117, 114, 110, 32, 49, 32, 45, 32, 50, 32, 45, 32, 120, 32, 59, 32, 125, 10]
def wkT : Fo := .one ⟨11, 11, 0, [], 0, 0⟩ (.one ⟨19, 13, 0, [], 0, 0⟩ (.one ⟨5, 26, 0, [45], 0, 0⟩ (.cons ⟨5, 22, 0, [45], 0, 0⟩ (.cons ⟨1, 20, 1, [], 0, 1⟩ .nil (.cons ⟨1, 24, 2, [], 0, 1⟩ .nil .nil)) (.cons ⟨2, 28, 0, [120], 0, 0⟩ .nil .nil))))
def wkP : Pg := ⟨[], [⟨[109, 97, 105, 110], 1, [], 6, 4⟩], wkT⟩
set_option maxRecDepth 100000 in
theorem read1 : readL tx1 = some wkP := by decide +kernel
set_option maxRecDepth 100000 in
theorem read2 : readL tx2 = none := by decide +kernel
theorem text1 : progT wkP = tx3 := by
  have h1 : Lib.itoa 1 = [49] := by simp [Lib.itoa, Lib.decDigits]
  have h2 : Lib.itoa 2 = [50] := by simp [Lib.itoa, Lib.decDigits]
  simp [progT, wkP, wkT, glL, fnLs, Fo.one, fnT, pmT, nodeT, Fo.tk, Fo.len, patL, partT, kidT, encl, digL, h1, h2, typeW, wl, wInt, wReturn, lvl, tx3]

/-- A node out of a slice of nodes. -/
theorem nd_at {w : World} {g o : Nat} {ns : List NV} {L : List Nd} (hnl : ns.map NV.nd = L) {i : Nat} {n : Nd} (hi : L[i]? = some n) (h : ∀ (i : Nat) x, ns[i]? = some x → ∀ j, j < 8 → w.cell? ⟨g, o + i * 8 + j, none⟩ = (cells8 x)[j]?) :
    ∃ x, ns[i]? = some x ∧ x.h = n.h ∧ x.kids = n.kids ∧ w.cell? ⟨g, o + i * 8, none⟩ = some (.int .i64 n.h.op) ∧ w.cell? ⟨g, o + i * 8 + 1, none⟩ = some (.int .i64 n.h.p) ∧ w.cell? ⟨g, o + i * 8 + 2, none⟩ = some (.int .i64 n.h.n) ∧ w.cell? ⟨g, o + i * 8 + 3, none⟩ = some (.string (str n.h.s)) ∧
      w.cell? ⟨g, o + i * 8 + 4, none⟩ = some (.int .i64 n.h.to) ∧ w.cell? ⟨g, o + i * 8 + 5, none⟩ = some x.v ∧ w.cell? ⟨g, o + i * 8 + 6, none⟩ = some (.int .i64 n.h.ty) ∧ w.cell? ⟨g, o + i * 8 + 7, none⟩ = some (.int .i64 0) := by
  subst hnl
  rw [List.getElem?_map] at hi
  cases hx : ns[i]? with
  | none => rw [hx] at hi; cases hi
  | some x =>
    rw [hx] at hi
    simp only [Option.map_some, Option.some.injEq] at hi
    subst hi
    exact ⟨x, rfl, rfl, rfl, h i x hx 0 (by omega), h i x hx 1 (by omega), h i x hx 2 (by omega), h i x hx 3 (by omega), h i x hx 4 (by omega), h i x hx 5 (by omega), h i x hx 6 (by omega), h i x hx 7 (by omega)⟩

set_option maxHeartbeats 4000000 in
set_option maxRecDepth 100000 in
theorem works_any (w : World) (hE : EnvW w.heap.size w) :
    Calls Tryz.prog 7 #[] w fun e w' => e = .returned (.bool true) ∧ Below w.heap.size w w' := by
  have hR1 := read_any (str tx1) (by decide) w hE
  have HE := Lib.hid hE
  clear hE
  go_enter Tryz.func7, Tryz.ntmps7
  go_wp2_with fail
  refine hR1.mono ?_
  clear hR1
  rintro e w1 ⟨hb1, hp⟩
  simp only [read1] at hp
  obtain ⟨gv, fv, nv, fl, ns, rfl, hM⟩ := hp
  obtain ⟨hG, hF, hPs, hN⟩ := hM.views
  have hfe := hM.fe
  have hnl := hM.nl
  clear hM
  obtain ⟨gA, gc, rfl, hgs⟩ := id hG
  obtain ⟨fA, fc, rfl, hfs⟩ := id hF
  obtain ⟨nA, nc, rfl, hns⟩ := id hN.sl
  have hflen : fl.length = 1 := by have := congrArg List.length hfe; simpa [wkP] using this
  have hnlen : ns.length = 7 := by have := congrArg List.length hnl; simpa [wkP, wkT, Fo.flat_length, Fo.size, Fo.one] using this
  obtain ⟨⟨f1, v1⟩, rfl⟩ := List.length_eq_one_iff.1 hflen
  have hf1 : f1 = ⟨[109, 97, 105, 110], 1, [], 6, 4⟩ := by simpa [wkP] using hfe
  subst hf1
  have hL : wkP.t.flat 0 = [⟨⟨1, 20, 1, [], 0, 1⟩, []⟩, ⟨⟨1, 24, 2, [], 0, 1⟩, []⟩, ⟨⟨5, 22, 0, [45], 0, 0⟩, [0, 1]⟩, ⟨⟨2, 28, 0, [120], 0, 0⟩, []⟩, ⟨⟨5, 26, 0, [45], 0, 0⟩, [2, 3]⟩, ⟨⟨19, 13, 0, [], 0, 0⟩, [4]⟩, ⟨⟨11, 11, 0, [], 0, 0⟩, [5]⟩] := by decide
  obtain ⟨gf, fo, rfl, hgf, hcf⟩ : ∃ g o, fA = some ⟨g, o, none⟩ ∧ g < w1.heap.size ∧ w1.cell? ⟨g, o + 3, none⟩ = some (.int .i64 6) := by
    rcases hfs with h9 | ⟨g, o, h1, h2, h3⟩
    · cases h9
    · exact ⟨g, o, h1, h2, by have := h3 0 _ rfl 3 (by omega); simpa [fnA] using this⟩
  obtain ⟨gn, no, rfl, hgn, hcn⟩ : ∃ g o, nA = some ⟨g, o, none⟩ ∧ g < w1.heap.size ∧ ∀ (i : Nat) x, ns[i]? = some x → ∀ j, j < 8 → w1.cell? ⟨g, o + i * 8 + j, none⟩ = (cells8 x)[j]? := by
    rcases hns with h9 | h9
    · rw [h9] at hnlen; cases hnlen
    · exact h9
  have HNL := Lib.hid hnlen
  have hg0 : wkP.g = [] := rfl
  simp only [List.length_cons, List.length_nil, hnlen, hg0] at hG hF hPs hN ⊢
  have HV := Lib.hid (And.intro hG (And.intro hF (And.intro hPs (And.intro hN (And.intro hfe (And.intro hnl (And.intro hL (And.intro hcn hb1))))))))
  clear hG hF hPs hN hfe hnl hL hgs hfs hns hcn hnlen hflen
  go_upto_region 2 with (fail)
  have bP := Blk.new w1 tPg #[.slice gA 0 gc, .slice (some ⟨gf, fo, none⟩) 1 fc, .slice (some ⟨gn, no, none⟩) 7 nc]
  have hk1 : Below w1.heap.size w1 (w1.alloc (.cells #[.slice gA 0 gc, .slice (some ⟨gf, fo, none⟩) 1 fc, .slice (some ⟨gn, no, none⟩) 7 nc] tPg)) := (Below.refl _ _).alloc (Nat.le_refl _) _
  generalize w1.alloc (.cells #[.slice gA 0 gc, .slice (some ⟨gf, fo, none⟩) 1 fc, .slice (some ⟨gn, no, none⟩) 7 nc] tPg) = W1 at *
  have HK1 := Lib.hid hk1
  have BP := Lib.hid bP
  have a1 : W1.cell? ⟨w1.heap.size, 1, none⟩ = some (.slice (some ⟨gf, fo, none⟩) 1 fc) := bP.cell 1
  have a2 : W1.cell? ⟨w1.heap.size, 2, none⟩ = some (.slice (some ⟨gn, no, none⟩) 7 nc) := bP.cell 2
  have al := bP.lt
  have cf : W1.cell? ⟨gf, fo + 3, none⟩ = some (.int .i64 6) := (hk1.cell (p := ⟨gf, fo + 3, none⟩) hgf).trans hcf
  have hgf1 : gf < W1.heap.size := by omega
  have hE1 : EnvW W1.heap.size W1 := ((HE.out.below (hb1.trans (hk1.mono hb1.size))).more (by have := hb1.size; omega))
  have HR2 := Lib.hid (read_any (str tx2) (by decide) W1 hE1)
  clear hk1 bP hE1 hb1
  go_wp2_with fail
  refine HR2.out.mono ?_
  clear HR2
  rintro e w2 ⟨hb2, hp⟩
  simp only [read2] at hp
  subst hp
  go_upto_region 5 with (fail)
  have hk3 : Below W1.heap.size W1 (w2.alloc (.cells #[vNil, vNil, vNil] tPg)) := hb2.alloc hb2.size _
  generalize w2.alloc (.cells #[vNil, vNil, vNil] tPg) = W3 at *
  have HK3 := Lib.hid (HK1.out.trans (hk3.mono HK1.out.size))
  have hcn := HV.out.2.2.2.2.2.2.2.1
  have hnl := HV.out.2.2.2.2.2.1
  rw [HV.out.2.2.2.2.2.2.1] at hnl
  have hcn3 : ∀ (i : Nat) x, ns[i]? = some x → ∀ j, j < 8 → W3.cell? ⟨gn, no + i * 8 + j, none⟩ = (cells8 x)[j]? := fun i x hx j hj => (HK3.out.cell (p := ⟨gn, no + i * 8 + j, none⟩) hgn).trans (hcn i x hx j hj)
  obtain ⟨x4, h4, h4h, h4k, q0, q1, q2, q3, q4, q5, q6, q7⟩ := nd_at hnl (i := 4) rfl hcn3
  obtain ⟨x3, h3, h3h, h3k, -, -, -, s3, -, -, -, -⟩ := nd_at hnl (i := 3) rfl hcn3
  obtain ⟨x5, h5, h5h, h5k, t0, -, -, -, -, -, -, -⟩ := nd_at hnl (i := 5) rfl hcn3
  obtain ⟨A4, c4, hv4, hl4, hc4, hr4⟩ := (HV.out.2.2.2.1.kids x4 (List.mem_of_getElem? h4)).below HK3.out
  rw [h4k] at hv4 hl4 hr4
  rw [hv4] at q5
  simp only [Nat.reduceMul, List.length_cons, List.length_nil, Nat.zero_add, Nat.reduceAdd] at q0 q1 q2 q3 q4 q5 q6 q7 s3 t0 hl4
  have e1 : W3.cell? ⟨w1.heap.size, 1, none⟩ = some (.slice (some ⟨gf, fo, none⟩) 1 fc) := (hk3.cell (p := ⟨w1.heap.size, 1, none⟩) al).trans a1
  have e2 : W3.cell? ⟨w1.heap.size, 2, none⟩ = some (.slice (some ⟨gn, no, none⟩) 7 nc) := (hk3.cell (p := ⟨w1.heap.size, 2, none⟩) al).trans a2
  have hz3 : w1.heap.size < W3.heap.size := by have := hk3.size; omega
  have hgn3 : gn < W3.heap.size := by omega
  have bp3 : Blk W3 w1.heap.size tPg #[.slice gA 0 gc, .slice (some ⟨gf, fo, none⟩) 1 fc, .slice (some ⟨gn, no, none⟩) 7 nc] := (hk3.block _ BP.out.lt).trans BP.out
  have BP3 := Lib.hid bp3
  clear bp3
  have HR4 := Lib.hid (And.intro hr4 (And.intro hl4 hc4))
  clear hcn hnl hcn3 hb2 hk3 hr4 hl4 hc4 h4 h3 h5 h4h h4k h3h h3k h5h h5k hv4 a1 a2 BP cf hcf
  go_upto_region 6 with (fail)
  have bN := Blk.new W3 tN #[.int .i64 5, .int .i64 26, .int .i64 0, .string (str [45]), .int .i64 0, .slice A4 2 c4, .int .i64 0, .int .i64 0]
  have hk5 : Below W3.heap.size W3 (W3.alloc (.cells #[.int .i64 5, .int .i64 26, .int .i64 0, .string (str [45]), .int .i64 0, .slice A4 2 c4, .int .i64 0, .int .i64 0] tN)) := (Below.refl _ _).alloc (Nat.le_refl _) _
  generalize W3.alloc (.cells #[.int .i64 5, .int .i64 26, .int .i64 0, .string (str [45]), .int .i64 0, .slice A4 2 c4, .int .i64 0, .int .i64 0] tN) = W5 at *
  have n0 : W5.cell? ⟨W3.heap.size, 0, none⟩ = some (.int .i64 5) := bN.cell 0
  have n5 : W5.cell? ⟨W3.heap.size, 5, none⟩ = some (.slice A4 2 c4) := bN.cell 5
  have nl := bN.lt
  have HK5 := Lib.hid (HK3.out.trans (hk5.mono HK3.out.size))
  have HR5 := Lib.hid (HR4.out.1.below (hk5.mono HK3.out.size))
  have k0 : ∀ o, o < 4 → True := fun _ _ => trivial
  have e1' : W5.cell? ⟨w1.heap.size, 1, none⟩ = some (.slice (some ⟨gf, fo, none⟩) 1 fc) := (hk5.cell (p := ⟨w1.heap.size, 1, none⟩) hz3).trans e1
  have e2' : W5.cell? ⟨w1.heap.size, 2, none⟩ = some (.slice (some ⟨gn, no, none⟩) 7 nc) := (hk5.cell (p := ⟨w1.heap.size, 2, none⟩) hz3).trans e2
  have e0' : W5.cell? ⟨w1.heap.size, 0, none⟩ = some (.slice gA 0 gc) := (hk5.cell (p := ⟨w1.heap.size, 0, none⟩) hz3).trans (BP3.out.cell 0)
  have s3' : W5.cell? ⟨gn, no + 24 + 3, none⟩ = some (.string (str [120])) := (hk5.cell (p := ⟨gn, no + 24 + 3, none⟩) hgn3).trans s3
  have t0' : W5.cell? ⟨gn, no + 40, none⟩ = some (.int .i64 19) := (hk5.cell (p := ⟨gn, no + 40, none⟩) hgn3).trans t0
  have hz5 : w1.heap.size < W5.heap.size := by have := hk5.size; omega
  have hgn5 : gn < W5.heap.size := by omega
  clear bN hk5 q0 q1 q2 q3 q4 q5 q6 q7 s3 t0 e1 e2 BP3 HR4 k0
  have bI := Blk.new W5 tI #[.int .i64 2, .int .i64 3]
  have hk6 : Below W5.heap.size W5 (W5.alloc (.cells #[.int .i64 2, .int .i64 3] tI)) := (Below.refl _ _).alloc (Nat.le_refl _) _
  have r1 : RdI (W5.alloc (.cells #[.int .i64 2, .int .i64 3] tI)) w1.heap.size A4 [2, 3] := HR5.out.below (hk6.mono HK5.out.size)
  have r2 : RdI (W5.alloc (.cells #[.int .i64 2, .int .i64 3] tI)) (W5.heap.size + 1) (some ⟨W5.heap.size, 0, none⟩) [2, 3] := .inr ⟨W5.heap.size, 0, rfl, by omega, fun i k hk => by
    rw [Nat.zero_add, bI.cell]
    match i, hk with
    | 0, hk => cases hk; rfl
    | 1, hk => cases hk; rfl⟩
  have HS6 := Lib.hid (sameI_any [2, 3] 2 rfl A4 (some ⟨W5.heap.size, 0, none⟩) c4 2 _ _ (by unfold maxLen; omega) _ r1 r2)
  have HK6 := Lib.hid hk6
  clear r1 r2 bI hk6
  go_wp2_with fail
  refine HS6.out.mono ?_
  clear HS6
  rintro e w6 ⟨rfl, d6, rfl⟩
  have hk7 := HK6.out.trans (below_drewN _ _ d6)
  generalize (W5.alloc (.cells #[.int .i64 2, .int .i64 3] tI)).drewN d6 = W7 at *
  have HK7 := Lib.hid (HK5.out.trans (hk7.mono HK5.out.size))
  have e0 : W7.cell? ⟨w1.heap.size, 0, none⟩ = some (.slice gA 0 gc) := (hk7.cell (p := ⟨w1.heap.size, 0, none⟩) hz5).trans e0'
  have e1 : W7.cell? ⟨w1.heap.size, 1, none⟩ = some (.slice (some ⟨gf, fo, none⟩) 1 fc) := (hk7.cell (p := ⟨w1.heap.size, 1, none⟩) hz5).trans e1'
  have e2 : W7.cell? ⟨w1.heap.size, 2, none⟩ = some (.slice (some ⟨gn, no, none⟩) 7 nc) := (hk7.cell (p := ⟨w1.heap.size, 2, none⟩) hz5).trans e2'
  have s3 : W7.cell? ⟨gn, no + 24 + 3, none⟩ = some (.string (str [120])) := (hk7.cell (p := ⟨gn, no + 24 + 3, none⟩) hgn5).trans s3'
  have t0 : W7.cell? ⟨gn, no + 40, none⟩ = some (.int .i64 19) := (hk7.cell (p := ⟨gn, no + 40, none⟩) hgn5).trans t0'
  have hz7 : w1.heap.size < W7.heap.size := by have := hk7.size; omega
  have hgn7 : gn < W7.heap.size := by omega
  have hE7 : EnvW W7.heap.size W7 := ((HE.out.below (HV.out.2.2.2.2.2.2.2.2.trans (HK7.out.mono HV.out.2.2.2.2.2.2.2.2.size))).more (by have := HV.out.2.2.2.2.2.2.2.2.size; omega))
  have hG7 := (HV.out.1.below HK7.out).more (show w1.heap.size ≤ W7.heap.size by omega)
  have hF7 := (HV.out.2.1.below HK7.out).more (show w1.heap.size ≤ W7.heap.size by omega)
  have hP7 : ∀ x ∈ [((⟨[109, 97, 105, 110], 1, [], 6, 4⟩ : Fn'), v1)], PmI W7 W7.heap.size x.2 x.1.ps := fun x hx => ((HV.out.2.2.1 x hx).below HK7.out).more (by omega)
  have hN7 := (HV.out.2.2.2.1.below HK7.out).more (show w1.heap.size ≤ W7.heap.size by omega)
  have HPR := Lib.hid (print_read read1 hE7 hG7 hF7 hP7 hN7 HV.out.2.2.2.2.1 HV.out.2.2.2.2.2.1)
  clear hk7 e0' e1' e2' s3' t0' hE7 hG7 hF7 hP7 hN7
  go_wp2_with fail
  refine HPR.out.mono ?_
  clear HPR
  rw [text1]
  rintro e w8 ⟨rfl, hb8⟩
  have HB8 := Lib.hid (HV.out.2.2.2.2.2.2.2.2.trans ((HK7.out.trans (hb8.mono HK7.out.size)).mono HV.out.2.2.2.2.2.2.2.2.size))
  clear hb8
  unfold tx3
  go_wp2_with fail
  go_ret
  exact ⟨rfl, HB8.out⟩
end Go.Proofs.YtlbjjpfhkgagiaaGreatDoor
