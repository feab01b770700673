/-
  PLAIN MATHEMATICS of layers parse and check together: where a check's errors lie. CheckAgain: programs of the same data at hand: same, bare, checked. CheckAgain's walk.
-/
import Derived.Test.YtgbofbbdefkbpaaGreatDoorMu4
import Derived.Test.YtgbofbbdefkbpaaGreatDoorMt9
/-! Cmg -/
namespace Go.Proofs.YtgbofbbdefkbpaaGreatDoor
open Go
set_option linter.unusedVariables false
set_option linter.unusedSimpArgs false
set_option linter.unusedSectionVars false

section
variable (R : Int → Prop)
/-- The heads' places are such. -/
def FPl : Fo → Prop
  | .nil => True
  | .cons h k r => R h.p ∧ FPl k ∧ FPl r
def SPl (s : St) : Prop := ∀ t ∈ s.l, R t.p
def APl {α : Type} (Q : α → Prop) (r : Rs α) : Prop := ∀ a s, r = .ok a s → SPl R s ∧ Q a
variable {R}
theorem FPl.app {x y : Fo} (hx : FPl R x) (hy : FPl R y) : FPl R (x.app y) := by
  induction x with
  | nil => exact hy
  | cons h k r _ ih => exact ⟨hx.1, hx.2.1, ih hx.2.2⟩
theorem SPl.nx {s : St} (h : SPl R s) : SPl R s.nx := fun t ht => h t (List.mem_of_mem_tail ht)
theorem APl.bind {α β : Type} {P : α → Prop} {Q : β → Prop} {r : Rs α} {f : α → St → Rs β} (h : APl R P r) (hf : ∀ a s, SPl R s → P a → APl R Q (f a s)) : APl R Q (r.bind f) := by
  intro b s2 e
  cases r with
  | ok a s => exact hf a s (h a s rfl).1 (h a s rfl).2 b s2 e
  | er n q => cases e
  | out => cases e
theorem APl.ok {α : Type} {Q : α → Prop} {a : α} {s : St} (hs : SPl R s) (hq : Q a) : APl R Q (Rs.ok a s) := fun a' s' e => by cases e; exact ⟨hs, hq⟩
theorem APl.er {α : Type} {Q : α → Prop} {n p : Int} : APl R Q (Rs.er n p : Rs α) := fun a' s' e => by cases e
theorem APl.out {α : Type} {Q : α → Prop} : APl R Q (Rs.out : Rs α) := fun a' s' e => by cases e
variable {e : Tok} (he : R e.p)
include he
theorem pk_p {s : St} (h : SPl R s) : R (pk e s).p := by
  cases hl : s.l with
  | nil => simpa [pk, hl] using he
  | cons t l => simpa [pk, hl] using h t (by rw [hl]; exact List.mem_cons_self)
theorem must_p (x : List UInt8) {s : St} (h : SPl R s) : APl R (fun _ => True) (must e x s) := by unfold must; split; exact APl.ok h.nx trivial; exact APl.er
theorem name_p {s : St} (h : SPl R s) : APl R (fun t : Tok => R t.p) (nameM e s) := by unfold nameM; split; exact APl.ok h.nx (pk_p he h); exact APl.er
theorem typed_p (ks : List Int) {s : St} (h : SPl R s) : APl R (fun _ => True) (typedM e ks s) := by
  unfold typedM
  split
  · split
    · exact APl.ok h.nx trivial
    · exact APl.er
  · exact APl.er
theorem enter_p (d : Nat) {s : St} (h : SPl R s) : APl R (fun _ => True) (enterM e d s) := by unfold enterM; split; exact APl.er; exact APl.ok h trivial
omit he in
theorem add_p {h : Hd} {k : Fo} {s : St} (hs : SPl R s) (hh : R h.p) (hk : FPl R k) : APl R (FPl R) (addM h k s) := by
  unfold addM
  split
  · exact APl.er
  · exact APl.ok (fun t ht => hs t ht) ⟨hh, hk, trivial⟩
end
section
variable {R : Int → Prop} {e : Tok} (he : R e.p) {r : Md → St → Rs Fo} (hr : ∀ m s, SPl R s → (∀ d l x, m = .loop d l x → FPl R x) → APl R (FPl R) (r m s))
include he hr
theorem callB_p {f : Tok} (hf : R f.p) (d : Nat) {s : St} (hs : SPl R s) : APl R (FPl R) (callB e r f d s) := by
  unfold callB
  repeat' (first | assumption | exact trivial | exact APl.er | (with_reducible refine SPl.nx ?_) | (with_reducible refine pk_p he ?_) | (with_reducible refine FPl.app ?_ ?_) | (refine APl.ok ?_ ?_) | (refine add_p ?_ ?_ ?_) | (refine APl.bind (must_p he _ ?_) (fun _ _ _ _ => ?_)) | (refine APl.bind (name_p he ?_) (fun _ _ _ _ => ?_)) | (refine APl.bind (typed_p he _ ?_) (fun _ _ _ _ => ?_)) | (refine APl.bind (enter_p he _ ?_) (fun _ _ _ _ => ?_)) | (refine hr _ _ ?_ (fun _ _ _ h => by cases h)) | (refine APl.bind (P := FPl R) ?_ (fun _ _ _ _ => ?_)) | split)
theorem varB_p (d : Nat) {s : St} (hs : SPl R s) : APl R (FPl R) (varB e r d s) := by
  unfold varB elemB
  repeat' (first | assumption | exact trivial | exact APl.er | (with_reducible refine SPl.nx ?_) | (with_reducible refine pk_p he ?_) | (with_reducible refine FPl.app ?_ ?_) | (refine APl.ok ?_ ?_) | (refine add_p ?_ ?_ ?_) | (refine APl.bind (must_p he _ ?_) (fun _ _ _ _ => ?_)) | (refine APl.bind (name_p he ?_) (fun _ _ _ _ => ?_)) | (refine APl.bind (typed_p he _ ?_) (fun _ _ _ _ => ?_)) | (refine APl.bind (enter_p he _ ?_) (fun _ _ _ _ => ?_)) | (refine callB_p he hr ?_ _ ?_) | (refine hr _ _ ?_ (fun _ _ _ h => by cases h)) | (refine APl.bind (P := FPl R) ?_ (fun _ _ _ _ => ?_)) | split)
theorem opdB_p (d : Nat) {s : St} (hs : SPl R s) : APl R (FPl R) (opdB e r d s) := by
  unfold opdB numB unB encB encE inB
  repeat' (first | assumption | exact trivial | exact APl.er | (with_reducible refine SPl.nx ?_) | (with_reducible refine pk_p he ?_) | (with_reducible refine FPl.app ?_ ?_) | (refine APl.ok ?_ ?_) | (refine add_p ?_ ?_ ?_) | (refine APl.bind (must_p he _ ?_) (fun _ _ _ _ => ?_)) | (refine APl.bind (name_p he ?_) (fun _ _ _ _ => ?_)) | (refine APl.bind (typed_p he _ ?_) (fun _ _ _ _ => ?_)) | (refine APl.bind (enter_p he _ ?_) (fun _ _ _ _ => ?_)) | (refine varB_p he hr _ ?_) | (refine hr _ _ ?_ (fun _ _ _ h => by cases h)) | (refine APl.bind (P := FPl R) ?_ (fun _ _ _ _ => ?_)) | split)
theorem guardB_p (d : Nat) {s : St} (hs : SPl R s) : APl R (FPl R) (guardB e r d s) := by
  unfold guardB
  repeat' (first | assumption | exact trivial | exact APl.er | (with_reducible refine SPl.nx ?_) | (with_reducible refine pk_p he ?_) | (with_reducible refine FPl.app ?_ ?_) | (refine APl.ok ?_ ?_) | (refine add_p ?_ ?_ ?_) | (refine APl.bind (must_p he _ ?_) (fun _ _ _ _ => ?_)) | (refine APl.bind (name_p he ?_) (fun _ _ _ _ => ?_)) | (refine APl.bind (typed_p he _ ?_) (fun _ _ _ _ => ?_)) | (refine APl.bind (enter_p he _ ?_) (fun _ _ _ _ => ?_)) | (refine hr _ _ ?_ (fun _ _ _ h => by cases h)) | (refine APl.bind (P := FPl R) ?_ (fun _ _ _ _ => ?_)) | split)
theorem namedB_p (d : Nat) {s : St} (hs : SPl R s) : APl R (FPl R) (namedB e r d s) := by
  unfold namedB storeB
  repeat' (first | assumption | exact trivial | exact APl.er | (with_reducible refine SPl.nx ?_) | (with_reducible refine pk_p he ?_) | (with_reducible refine FPl.app ?_ ?_) | (refine APl.ok ?_ ?_) | (refine add_p ?_ ?_ ?_) | (refine APl.bind (must_p he _ ?_) (fun _ _ _ _ => ?_)) | (refine APl.bind (name_p he ?_) (fun _ _ _ _ => ?_)) | (refine APl.bind (typed_p he _ ?_) (fun _ _ _ _ => ?_)) | (refine APl.bind (enter_p he _ ?_) (fun _ _ _ _ => ?_)) | (refine callB_p he hr ?_ _ ?_) | (refine hr _ _ ?_ (fun _ _ _ h => by cases h)) | (refine APl.bind (P := FPl R) ?_ (fun _ _ _ _ => ?_)) | exact APl.er | split)
theorem blockB_p (d : Nat) {s : St} (hs : SPl R s) : APl R (FPl R) (blockB e r d s) := by
  unfold blockB
  repeat' (first | assumption | exact trivial | exact APl.er | (with_reducible refine SPl.nx ?_) | (with_reducible refine pk_p he ?_) | (with_reducible refine FPl.app ?_ ?_) | (refine APl.ok ?_ ?_) | (refine add_p ?_ ?_ ?_) | (refine APl.bind (must_p he _ ?_) (fun _ _ _ _ => ?_)) | (refine APl.bind (name_p he ?_) (fun _ _ _ _ => ?_)) | (refine APl.bind (typed_p he _ ?_) (fun _ _ _ _ => ?_)) | (refine APl.bind (enter_p he _ ?_) (fun _ _ _ _ => ?_)) | (refine hr _ _ ?_ (fun _ _ _ h => by cases h)) | (refine APl.bind (P := FPl R) ?_ (fun _ _ _ _ => ?_)) | split)
theorem stmB_p (d : Nat) {s : St} (hs : SPl R s) : APl R (FPl R) (stmB e r d s) := by
  unfold stmB localB ifB whileB gotoB retB outB
  repeat' (first | assumption | exact trivial | exact APl.er | (with_reducible refine SPl.nx ?_) | (with_reducible refine pk_p he ?_) | (with_reducible refine FPl.app ?_ ?_) | (refine APl.ok ?_ ?_) | (refine add_p ?_ ?_ ?_) | (refine APl.bind (must_p he _ ?_) (fun _ _ _ _ => ?_)) | (refine APl.bind (name_p he ?_) (fun _ _ _ _ => ?_)) | (refine APl.bind (typed_p he _ ?_) (fun _ _ _ _ => ?_)) | (refine APl.bind (enter_p he _ ?_) (fun _ _ _ _ => ?_)) | (refine namedB_p he hr _ ?_) | (refine guardB_p he hr _ ?_) | (refine blockB_p he hr _ ?_) | (refine hr _ _ ?_ (fun _ _ _ h => by cases h)) | (refine APl.bind (P := FPl R) ?_ (fun _ _ _ _ => ?_)) | split)
omit hr in
theorem run_p : ∀ n m s, SPl R s → (∀ d l x, m = .loop d l x → FPl R x) → APl R (FPl R) (run e n m s) := by
  intro n
  induction n with
  | zero => intro m s _ _; exact APl.out
  | succ n ih =>
    intro m s hs hm
    cases m with
    | bin d l => exact APl.bind (ih _ _ hs (fun _ _ _ h => by cases h)) fun a s' h1 h2 => ih _ _ h1 (fun _ _ _ h => by cases h; exact h2)
    | loop d l x =>
      have hx := hm _ _ _ rfl
      show APl R (FPl R) (loopB e (run e n) d l x s)
      unfold loopB
      split
      · exact APl.ok hs hx
      · exact APl.bind (ih _ _ hs.nx (fun _ _ _ h => by cases h)) fun b s1 h1 h2 => APl.bind (add_p h1 (pk_p he hs) (hx.app h2)) fun y s2 h3 h4 => ih _ _ h3 (fun _ _ _ h => by cases h; exact h4)
    | opd d => exact opdB_p he ih d hs
    | args d =>
      show APl R (FPl R) (argsB e (run e n) d s)
      unfold argsB
      refine APl.bind (ih _ _ hs (fun _ _ _ h => by cases h)) fun a s1 h1 h2 => ?_
      split
      · exact APl.bind (ih _ _ h1.nx (fun _ _ _ h => by cases h)) fun b s2 h3 h4 => APl.ok h3 (h2.app h4)
      · exact APl.ok h1 h2
    | stm d => exact stmB_p he ih d hs
    | blk d =>
      show APl R (FPl R) (blkB e (run e n) d s)
      unfold blkB
      split
      · exact APl.ok hs.nx trivial
      · exact APl.bind (ih _ _ hs (fun _ _ _ h => by cases h)) fun a s1 h1 h2 => APl.bind (ih _ _ h1 (fun _ _ _ h => by cases h)) fun b s2 h3 h4 => APl.ok h3 (h2.app h4)
omit hr in
theorem param_p {s : St} (hs : SPl R s) : APl R (fun _ => True) (paramM e s) := APl.bind (typed_p he _ hs) fun _ _ h1 _ => APl.bind (name_p he h1) fun _ _ h2 _ => APl.ok h2 trivial
omit hr in
theorem more_p : ∀ n l s, SPl R s → APl R (fun _ => True) (moreM e n l s) := by
  intro n
  induction n with
  | zero => intro l s _; exact APl.out
  | succ n ih =>
    intro l s hs
    unfold moreM
    split
    · exact APl.bind (param_p he hs.nx) fun _ _ h _ => ih _ _ h
    · exact APl.ok hs trivial
omit hr in
theorem size_p {s : St} (hs : SPl R s) : APl R (fun _ => True) (sizeM e s) := by
  unfold sizeM
  split
  · exact APl.er
  · split
    · exact APl.er
    · exact APl.ok hs.nx trivial
/-- The places of a program are such. -/
structure PgPl (R : Int → Prop) (p : Pg) : Prop where
  g : ∀ x ∈ p.g, R x.p
  f : ∀ x ∈ p.f, R x.p
  t : FPl R p.t
omit hr in
theorem global_p {k : Int} {t : Tok} (ht : R t.p) {s : St} (hs : SPl R s) : APl R (fun g : Gl => R g.p) (globalM e k t s) := by
  unfold globalM
  split
  · exact APl.bind (must_p he _ hs) fun _ _ h1 _ => APl.bind (size_p he h1) fun _ _ h2 _ => APl.bind (must_p he _ h2) fun _ _ h3 _ => APl.bind (must_p he _ h3) fun _ _ h4 _ => APl.ok h4 ht
  · exact APl.bind (must_p he _ hs) fun _ _ h1 _ => APl.ok h1 ht
omit hr in
theorem function_p {n : Nat} {k : Int} {t : Tok} (ht : R t.p) {s : St} (hs : SPl R s) : APl R (fun x : Fn' × Fo => R x.1.p ∧ FPl R x.2) (functionM e n k t s) := by
  unfold functionM
  refine APl.bind (must_p he _ hs) fun _ s1 h1 _ => APl.bind (P := fun _ => True) ?_ fun ps s2 h2 _ => APl.bind (must_p he _ h2) fun _ s3 h3 _ => APl.bind (blockB_p he (run_p he n) _ h3) fun b s4 h4 h5 => APl.ok h4 ⟨ht, h5⟩
  split
  · exact APl.ok h1 trivial
  · exact APl.bind (param_p he h1) fun _ _ h _ => more_p he _ _ _ h
omit hr in
theorem prog_p : ∀ n p s, SPl R s → PgPl R p → APl R (PgPl R) (progM e n p s) := by
  intro n
  induction n with
  | zero => intro p s _ _; exact APl.out
  | succ n ih =>
    intro p s hs hp
    unfold progM
    split
    · exact APl.ok hs hp
    · refine APl.bind (P := PgPl R) ?_ fun p' s' h1 h2 => ih p' s' h1 h2
      unfold itemM
      refine APl.bind (typed_p he _ hs) fun k s1 h1 _ => APl.bind (name_p he h1) fun t s2 h2 ht => ?_
      split
      · refine APl.bind (function_p he ht h2) fun x s3 h3 h4 => APl.ok h3 ⟨hp.g, fun y hy => ?_, hp.t.app h4.2⟩
        rcases List.mem_append.1 hy with hy | hy
        · exact hp.f y hy
        · rw [List.mem_singleton.1 hy]; exact h4.1
      · refine APl.bind (global_p he ht h2) fun g s3 h3 h4 => APl.ok h3 ⟨fun y hy => ?_, hp.f, hp.t⟩
        rcases List.mem_append.1 hy with hy | hy
        · exact hp.g y hy
        · rw [List.mem_singleton.1 hy]; exact h4
end
theorem parse_p {R : Int → Prop} {l : List Tok} (h0 : R 0) (hl : ∀ t ∈ l, R t.p) {p : Pg} {s : St} (h : parseL l = .ok p s) : PgPl R p := by
  have he : R (endT l).p := by
    unfold endT
    cases hf : l.find? (fun t => decide (t.k = 4)) with
    | some t => exact hl t (List.mem_of_find?_eq_some hf)
    | none =>
      simp only [Option.getD_none]
      cases hg : l.getLast? with
      | none => simpa using h0
      | some t => simpa using hl t (List.mem_of_getLast? hg)
  have hp0 : PgPl R ⟨[], [], .nil⟩ := { g := fun _ h => (by cases h), f := fun _ h => (by cases h), t := trivial }
  exact (prog_p he _ _ _ (fun t ht => hl t (List.takeWhile_subset _ ht)) hp0 p s h).2
/-- The tokens of a text lie in it. -/
theorem tokL_p {l : List UInt8} {segs : List Seg} (h : Sg l segs) (e : Nat) : ∀ a, a + l.length ≤ e → ∀ t ∈ tokL e a segs, 0 ≤ t.p ∧ t.p ≤ e := by
  induction h with
  | fin g st hg =>
    intro a ha t ht
    rw [tokL, List.mem_singleton] at ht
    subst ht
    exact ⟨by simp, by simp⟩
  | step g u r tk segs hg hu hsc h0 hr ih =>
    intro a ha t ht
    rw [tokL] at ht
    simp only [List.length_append] at ha
    rcases List.mem_cons.1 ht with rfl | ht
    · simp only [Tok.to]
      omega
    · exact ih _ (by simp only; omega) t ht
theorem lex_p {l : List UInt8} (h : (lexL l).2.1 = 0) : ∀ t ∈ (lexL l).1, 0 ≤ t.p ∧ t.p ≤ l.length := by
  obtain ⟨hl, segs, hS⟩ := lex_Sg h
  rw [hS.lex hl]
  exact tokL_p hS _ 0 (by omega)
theorem read_p {l : List UInt8} {pg : Pg} (h : readL l = some pg) : PgPl (fun p => 0 ≤ p ∧ p ≤ l.length) pg := by
  unfold readL at h
  split at h
  · cases h
  · rename_i h0
    have h1 : (lexL l).2.1 = 0 := by simpa using h0
    cases hp : parseL (lexL l).1 with
    | ok p s =>
      rw [hp] at h
      obtain rfl := Option.some.inj h
      exact parse_p ⟨by omega, by omega⟩ (lex_p h1) hp
    | er no q => rw [hp] at h; cases h
    | out => rw [hp] at h; cases h

/-! what a check says -/
def CEr {α : Type} (R : Int → Prop) (r : Ck α) : Prop := ∀ no p, r = .er no p → no ≠ 0 ∧ R p
theorem CEr.bind {α β : Type} {R : Int → Prop} {r : Ck α} {f : α → Ck β} (h : CEr R r) (hf : ∀ a, CEr R (f a)) : CEr R (r.bind f) := by
  intro no p e
  cases r with
  | ok a => exact hf a no p e
  | er n q => simp only [Ck.bind, Ck.er.injEq] at e; exact h no p (by rw [e.1, e.2])
theorem CEr.ok {α : Type} {R : Int → Prop} {a : α} : CEr R (Ck.ok a) := fun no p e => by cases e
theorem CEr.er {α : Type} {R : Int → Prop} {n p : Int} (h : R p) (hn : n ≠ 0 := by decide) : CEr R (Ck.er n p : Ck α) := fun no q e => by simp only [Ck.er.injEq] at e; rw [← e.1, ← e.2]; exact ⟨hn, h⟩
theorem CEr.refuse {R : Int → Prop} {b : Bool} {n p : Int} (h : R p) (hn : n ≠ 0 := by decide) : CEr R (refuse b n p) := by unfold Go.Proofs.YtgbofbbdefkbpaaGreatDoor.refuse; split; exact CEr.er h hn; exact CEr.ok
section
variable {R : Int → Prop}
theorem glob_c : ∀ (l : List Gl) (i : Nat) (b : Int) (s : Scp), (∀ g ∈ l, R g.p) → CEr R (globM l i b s) := by
  intro l
  induction l with
  | nil => intro i b s _; exact CEr.ok
  | cons g l ih =>
    intro i b s h
    unfold globM
    split
    · exact CEr.er (h g (by simp))
    · split
      · exact CEr.er (h g (by simp))
      · exact ih _ _ _ fun x hx => h x (by simp [hx])
theorem fun_c : ∀ (l : List Fn') (i : Nat) (s : Scp), (∀ g ∈ l, R g.p) → CEr R (funM l i s) := by
  intro l
  induction l with
  | nil => intro i s _; exact CEr.ok
  | cons g l ih =>
    intro i s h
    have hg := h g (by simp)
    unfold funM
    split
    · exact CEr.er hg
    · split
      · exact CEr.er hg
      · split
        · exact CEr.er hg
        · split
          · exact CEr.er hg
          · exact ih _ _ fun x hx => h x (by simp [hx])
theorem refer_c {h : Hd} (hp : R h.p) (so : List Int) (sc : List Scp) : CEr R (referM h so sc) := by
  unfold referM
  split
  · exact CEr.er hp
  · split
    · exact CEr.ok
    · exact CEr.er hp
theorem rule_c {K : Kn} {h : Hd} (hp : R h.p) (ks : List Nat) (i : Nat) (σ : Cs) : CEr R (ruleM K h ks i σ) := by
  unfold ruleM exprM stmtM valsM
  repeat' (first | exact CEr.ok | exact refer_c hp _ _ | exact CEr.refuse hp | (refine CEr.bind ?_ (fun _ => ?_)) | split)
theorem vis_c (K : Kn) : ∀ (F : Fo) (c : Nat) (σ : Cs), FPl R F → CEr R (visM K F c σ) := by
  intro F
  induction F with
  | nil => intro c σ _; exact CEr.ok
  | cons h k r ihk ihr =>
    intro c σ hF
    unfold visM
    refine CEr.bind ?_ fun τ => ihr _ _ hF.2.2
    split
    · exact CEr.bind (ihk _ _ hF.2.1) fun _ => CEr.ok
    · exact CEr.bind (ihk _ _ hF.2.1) fun _ => rule_c hF.1 _ _ _
theorem lab_c : ∀ (l : List Nd) (s : List Nm'), (∀ n ∈ l, R n.h.p) → CEr R (labM l s) := by
  intro l
  induction l with
  | nil => intro s _; exact CEr.ok
  | cons n l ih =>
    intro s h
    unfold labM
    split
    · split
      · exact CEr.er (h n (by simp))
      · exact ih _ fun x hx => h x (by simp [hx])
    · exact ih _ fun x hx => h x (by simp [hx])
theorem FPl.flat : ∀ (F : Fo) (c : Nat), FPl R F → ∀ n ∈ F.flat c, R n.h.p := by
  intro F
  induction F with
  | nil => intro c _ n hn; simp [Fo.flat] at hn
  | cons h k r ihk ihr =>
    intro c hF n hn
    simp only [Fo.flat, List.mem_append, List.mem_cons] at hn
    rcases hn with hn | hn
    · first
        | exact ihk _ hF.2.1 n hn
        | (rcases hn with hn | rfl | hn
           · exact ihk _ hF.2.1 n hn
           · exact hF.1
           · cases hn)
    · first
        | exact ihr _ hF.2.2 n hn
        | (rcases hn with rfl | hn
           · exact hF.1
           · exact ihr _ hF.2.2 n hn)
theorem bods_c (np : List Nat) (G : Scp) : ∀ (fs : List Fn') (F : Fo) (c : Nat) (tr : List (Int × Int)), FPl R F → CEr R (bodsM np G fs F c tr) := by
  intro fs
  induction fs with
  | nil => intro F c tr _; unfold bodsM; exact CEr.ok
  | cons f l ih =>
    intro F c tr hF
    cases F with
    | nil => unfold bodsM; exact CEr.ok
    | cons h k r =>
      unfold bodsM
      refine CEr.bind ?_ fun x => CEr.bind (ih _ _ _ hF.2.2) fun y => CEr.ok
      unfold bodyM
      exact CEr.bind (lab_c _ _ (FPl.flat _ _ ⟨hF.1, hF.2.1, trivial⟩)) fun lb => CEr.bind (vis_c _ _ _ _ hF.2.1) fun σ => CEr.ok
theorem main_c {G : Scp} {fs : List Fn'} (h0 : R 0) (hf : ∀ f ∈ fs, R f.p) : CEr R (mainM G fs) := by
  unfold mainM
  split
  · exact CEr.er h0
  · split
    · exact CEr.er h0
    · split
      · exact CEr.er h0
      · rename_i f hx
        split
        · exact CEr.er (hf f (List.mem_of_getElem? hx))
        · exact CEr.ok
theorem check_c {pg : Pg} (h0 : R 0) (h : PgPl R pg) : CEr R (checkM pg) := by
  unfold checkM
  exact CEr.bind (glob_c _ _ _ _ h.g) fun s => CEr.bind (fun_c _ _ _ h.f) fun G => CEr.bind (bods_c _ _ _ _ _ _ h.t) fun y => CEr.bind (main_c h0 h.f) fun _ => CEr.ok
end
/-- A check's errors lie in the text. -/
theorem check_at {l : List UInt8} {pg : Pg} (h : readL l = some pg) {no p : Int} (hc : checkM pg = .er no p) : no ≠ 0 ∧ 0 ≤ p ∧ p ≤ l.length :=
  check_c (R := fun p => 0 ≤ p ∧ p ≤ l.length) ⟨by omega, by omega⟩ (read_p h) no p hc
end Go.Proofs.YtgbofbbdefkbpaaGreatDoor
/-! Cmh -/
namespace Go.Proofs.YtgbofbbdefkbpaaGreatDoor
open Go Go.RowKit Go.Maps
set_option linter.unusedVariables false
set_option linter.unusedSimpArgs false

/-! how many variables there are -/
theorem rule_vs {K : Kn} {h : Hd} {ks : List Nat} {i n : Nat} {σ τ : Cs} (hn : 64 ≤ n) (hσ : σ.vs.length ≤ n) (e : ruleM K h ks i σ = .ok τ) : τ.vs.length ≤ n := by
  unfold ruleM at e
  split at e
  · unfold exprM at e
    split at e
    · obtain ⟨m, -, e⟩ := bind_ok_iff e; cases e; exact hσ
    split at e
    · obtain ⟨m, -, e⟩ := bind_ok_iff e; obtain ⟨_, -, e⟩ := bind_ok_iff e; cases e; exact hσ
    split at e
    · obtain ⟨m, -, e⟩ := bind_ok_iff e; cases e; exact hσ
    split at e
    · obtain ⟨m, -, e⟩ := bind_ok_iff e; cases e; exact hσ
    split at e
    · obtain ⟨m, -, e⟩ := bind_ok_iff e; cases e; exact hσ
    split at e
    · obtain ⟨m, -, e⟩ := bind_ok_iff e; obtain ⟨_, -, e⟩ := bind_ok_iff e; obtain ⟨_, -, e⟩ := bind_ok_iff e; cases e; exact hσ
    split at e
    · cases e; exact hσ
    · cases e; exact hσ
  · unfold stmtM at e
    split at e
    · obtain ⟨_, -, e⟩ := bind_ok_iff e
      obtain ⟨_, -, e⟩ := bind_ok_iff e
      obtain ⟨_, h3, e⟩ := bind_ok_iff e
      cases e
      by_cases h64 : 64 ≤ σ.vs.length
      · rw [decide_eq_true h64] at h3; cases h3
      · simp only [List.length_append, List.length_cons, List.length_nil]
        omega
    split at e
    · obtain ⟨m, -, e⟩ := bind_ok_iff e; obtain ⟨_, -, e⟩ := bind_ok_iff e; cases e; exact hσ
    split at e
    · obtain ⟨m, -, e⟩ := bind_ok_iff e; obtain ⟨_, -, e⟩ := bind_ok_iff e; cases e; exact hσ
    split at e
    · obtain ⟨m, -, e⟩ := bind_ok_iff e; cases e; exact hσ
    split at e
    · obtain ⟨m, -, e⟩ := bind_ok_iff e; cases e; exact hσ
    split at e
    · obtain ⟨m, -, e⟩ := bind_ok_iff e; obtain ⟨_, -, e⟩ := bind_ok_iff e; cases e; exact hσ
    split at e
    · obtain ⟨m, -, e⟩ := bind_ok_iff e; cases e; exact hσ
    · cases e; exact hσ
theorem vis_vs (K : Kn) {n : Nat} (hn : 64 ≤ n) (F : Fo) : ∀ (c : Nat) (σ τ : Cs), σ.vs.length ≤ n → visM K F c σ = .ok τ → τ.vs.length ≤ n := by
  induction F with
  | nil => intro c σ τ h e; simp only [visM] at e; cases e; exact h
  | cons h k r ih1 ih2 =>
    intro c σ τ hσ e
    simp only [visM] at e
    obtain ⟨ρ, e1, e⟩ := bind_ok_iff e
    refine ih2 _ _ _ ?_ e
    split at e1
    · obtain ⟨κ, e3, e2⟩ := bind_ok_iff e1
      cases e2
      have h9 := ih1 _ _ _ (show ({ σ with sc := σ.sc ++ [[]] } : Cs).vs.length ≤ n from hσ) e3
      exact h9
    · obtain ⟨κ, e3, e2⟩ := bind_ok_iff e1
      exact rule_vs hn (ih1 _ _ _ hσ e3) e2
theorem bods_vs (np : List Nat) (G : Scp) : ∀ (fs : List Fn') (F : Fo) (c : Nat) (a b : List (Int × Int)) (vs : List (List Int)), (∀ f ∈ fs, f.ps.length ≤ 1000000) → bodsM np G fs F c a = .ok (b, vs) → ∀ l ∈ vs, l.length ≤ 1000000 := by
  intro fs
  induction fs with
  | nil => intro F c a b vs _ e; simp only [bodsM] at e; cases e; intro l hl; cases hl
  | cons f l ih =>
    intro F c a b vs hf e
    cases F with
    | nil => simp only [bodsM] at e; cases e; intro l hl; cases hl
    | cons h k r =>
      rw [bods_step] at e
      obtain ⟨x, e1, e⟩ := bind_ok_iff e
      obtain ⟨y, e2, e⟩ := bind_ok_iff e
      cases e
      unfold bodyM at e1
      obtain ⟨lb, -, e1⟩ := bind_ok_iff e1
      obtain ⟨τ, e3, e1⟩ := bind_ok_iff e1
      cases e1
      intro z hz
      rcases List.mem_cons.1 hz with rfl | hz
      · exact vis_vs _ (by omega) _ _ _ _ (by simpa using hf f (by simp)) e3
      · exact ih r _ _ _ _ (fun f hf' => hf f (by simp [hf'])) (show bodsM np G l r (c + k.size + 1) τ.tr = .ok (y.1, y.2) from e2) z hz
theorem check_vs {pg : Pg} {tr : List (Int × Int)} {vs : List (List Int)} (hf : ∀ f ∈ pg.f, f.ps.length ≤ 1000000) (h : checkM pg = .ok (tr, vs)) : ∀ l ∈ vs, l.length ≤ 1000000 := by
  obtain ⟨s, G, -, -, h3, -⟩ := check_un h
  exact bods_vs _ _ _ _ _ _ _ _ hf h3
theorem trZ_nd (ns : List CN) (tr : List (Int × Int)) : trZ ns tr = ((ns.map CN.nd).zip tr).map fun y => (if y.1.h.op = 1 then y.2.1 else 0, 0) := by
  unfold trZ
  rw [List.zip_map_left, List.map_map]
  rfl
theorem trZ_same {ns ms : List CN} (h : ms.map CN.nd = ns.map CN.nd) (tr : List (Int × Int)) : trZ ms tr = trZ ns tr := by rw [trZ_nd, trZ_nd, h]

/-! programs of one datum -/
/-- The bounds of a program. -/
structure BdP (pg : Pg) : Prop where
  g : pg.g.length ≤ 1000000
  f : pg.f.length ≤ 1000000
  n : pg.t.size ≤ 1000000
  p : ∀ f ∈ pg.f, f.ps.length ≤ 1000000
  k : ∀ n ∈ pg.t.flat 0, n.kids.length ≤ 1000000
theorem CkIn.bd {pg : Pg} {gs : List Gl} {fl : List (Fn' × Value)} {ns : List CN} {tr : List (Int × Int)} (h : CkIn pg gs fl ns tr) : BdP pg := by
  refine ⟨by have := h.gl.1; rw [h.g] at this; omega, by have := h.fn.1; omega, by have := h.sz; omega, fun f hf => (h.fn.2 f hf).2.1, fun n hn => ?_⟩
  rw [← h.n] at hn
  obtain ⟨x, hx, rfl⟩ := List.mem_map.1 hn
  exact (h.nn x hx).2
/-- A program that is read, of one datum. -/
structure PgU (w : World) (gA fA nA : Option Addr) (gc fc nc : Nat) (pg : Pg) (fl : List (Fn' × Value)) (vls : List Value) (ns : List CN) (tr : List (Int × Int)) (vs : List (List Int)) : Prop where
  r : PgR w gA fA nA gc fc nc pg.g fl vls ns tr vs
  f : fl.map (·.1) = pg.f
  n : ns.map CN.nd = pg.t.flat 0
  v : ∀ l ∈ vs, l.length ≤ 1000000
section
variable {w : World} {gA fA nA gA' fA' nA' : Option Addr} {gc fc nc gc' fc' nc' : Nat} {pg : Pg} {fl ml : List (Fn' × Value)} {vls uls : List Value} {ns ms : List CN} {tr : List (Int × Int)} {vs : List (List Int)}
theorem PgU.on {w' : World} (h : PgU w gA fA nA gc fc nc pg fl vls ns tr vs) (hb : Below w.heap.size w w') : PgU w' gA fA nA gc fc nc pg fl vls ns tr vs := ⟨h.r.on hb, h.f, h.n, h.v⟩
theorem PgU.lf (h : PgU w gA fA nA gc fc nc pg fl vls ns tr vs) : fl.length = pg.f.length := by have := congrArg List.length h.f; rwa [List.length_map] at this
theorem PgU.ln (h : PgU w gA fA nA gc fc nc pg fl vls ns tr vs) : ns.length = pg.t.size := by have := congrArg List.length h.n; rwa [List.length_map, Fo.flat_length] at this
theorem PgU.pl (h : PgU w gA fA nA gc fc nc pg fl vls ns tr vs) (hB : BdP pg) : ∀ x ∈ fl, x.1.ps.length ≤ 1000000 := fun x hx => hB.p _ (by rw [← h.f]; exact List.mem_map_of_mem hx)
theorem PgU.kl (h : PgU w gA fA nA gc fc nc pg fl vls ns tr vs) (hB : BdP pg) : ∀ x ∈ ns, x.kids.length ≤ 1000000 := fun x hx => hB.k x.nd (by rw [← h.n]; exact List.mem_map_of_mem hx)
theorem sameU (hB : BdP pg) (h : PgU w gA fA nA gc fc nc pg fl vls ns tr vs) (h' : PgU w gA' fA' nA' gc' fc' nc' pg ml uls ms tr vs) :
    Calls Tryz.prog 12 #[pgV gA fA nA pg.g.length gc pg.f.length fc pg.t.size nc, pgV gA' fA' nA' pg.g.length gc' pg.f.length fc' pg.t.size nc'] w fun e w' => e = .returned (.bool true) ∧ Below w.heap.size w w' := by
  have h1 := sPr_eq h.r h'.r (h'.f.trans h.f.symm) (h'.n.trans h.n.symm) hB.g (by rw [h.lf]; exact hB.f) (by rw [h.ln]; exact hB.n) (h.pl hB) (h.kl hB) h.v
  rw [h.lf, h.ln, h'.lf, h'.ln] at h1
  exact h1
theorem bareU (hB : BdP pg) (h : PgU w gA fA nA gc fc nc pg fl vls ns tr vs) (ht : trZ ns tr = tr0 (pg.t.flat 0)) :
    Calls Tryz.prog 14 #[pgV gA fA nA pg.g.length gc pg.f.length fc pg.t.size nc] w fun e w' => ∃ gA' fA' nA' gc' fc' nc' ml ms, e = .returned (pgV gA' fA' nA' pg.g.length gc' pg.f.length fc' pg.t.size nc') ∧
      PgU w' gA' fA' nA' gc' fc' nc' pg ml (List.replicate pg.f.length (.slice none 0 0)) ms (tr0 (pg.t.flat 0)) (List.replicate pg.f.length []) ∧ Below w.heap.size w w' := by
  have h1 := bareP_any h.r rfl h.f h.n hB.g (by rw [h.lf]; exact hB.f) (by rw [h.ln]; exact hB.n) (h.pl hB) (h.kl hB) h.v
  rw [h.lf, h.ln] at h1
  refine h1.mono ?_
  rintro e w' ⟨gA', fA', nA', gc', fc', nc', ml, ms, rfl, hM, hb⟩
  have e1 : trZ ms tr = tr0 (pg.t.flat 0) := by rw [trZ_same (hM.ne.trans h.n.symm) tr, ht]
  rw [e1] at hM
  exact ⟨gA', fA', nA', gc', fc', nc', ml, ms, rfl, ⟨hM.rd, hM.fe, hM.ne, fun l hl => by rw [List.eq_of_mem_replicate hl]; simp⟩, hb⟩
end
/-- What was parsed. -/
theorem parsedU {l : List UInt8} {pg : Pg} (hl : l.length ≤ 4096) (hr : readL l = some pg) {B : Nat} {w : World} {gv fv nv : Value} {fl : List (Fn' × Value)} {ns : List NV} (h : PgM B w pg gv fv nv fl ns) :
    ∃ gA fA nA gc fc nc, gv = .slice gA pg.g.length gc ∧ fv = .slice fA pg.f.length fc ∧ nv = .slice nA pg.t.size nc ∧ CkIn pg pg.g fl (ns.map toCN) (ns.map fun x => (x.h.ty, 0)) ∧
      PgU w gA fA nA gc fc nc pg fl (List.replicate fl.length (.slice none 0 0)) (ns.map toCN) (ns.map fun x => (x.h.ty, 0)) (List.replicate fl.length []) ∧ trZ (ns.map toCN) (ns.map fun x => (x.h.ty, 0)) = tr0 (pg.t.flat 0) := by
  obtain ⟨gA, gc, rfl⟩ := shape_row h.gs
  obtain ⟨fA, fc, rfl⟩ := shape_row h.fs
  obtain ⟨nA, nc, rfl⟩ := shape_row h.rows
  have h0 : (lexL l).2.1 = 0 := by
    unfold readL at hr
    split at hr
    · cases hr
    · rename_i h0; simpa using h0
  obtain ⟨s, hok⟩ : ∃ s, PgOk TkV (lexL l).1.length pg s := by
    have hp := parse_b (V := TkV) (lex_toks h0).2.2
    unfold readL at hr
    rw [if_neg (by simpa using h0)] at hr
    cases hP : parseL (lexL l).1 with
    | out => rw [hP] at hr; cases hr
    | er n p => rw [hP] at hr; cases hr
    | ok q s => rw [hP] at hr hp; simp only [Option.some.injEq] at hr; subst hr; exact ⟨s, hp⟩
  have hin := ckIn_parsed h hok (by have := (lex_toks h0).2.1; omega)
  have hI := pgM_in h
  have hfl : fl.length = pg.f.length := by have := congrArg List.length h.fe; rwa [List.length_map] at this
  have hnl : ns.length = pg.t.size := by have := congrArg List.length h.nl; rwa [List.length_map, Fo.flat_length] at this
  refine ⟨gA, fA, nA, gc, fc, nc, rfl, by rw [hfl], by rw [hnl], hin, ⟨⟨hI, by simp, fun j v l h1 h2 => ?_⟩, h.fe, by rw [toCN_nd]; exact h.nl, fun l hl => by rw [List.eq_of_mem_replicate hl]; simp⟩, tr0_trZ hin (by simp)⟩
  obtain rfl := List.eq_of_mem_replicate (List.mem_of_getElem? h1)
  obtain rfl := List.eq_of_mem_replicate (List.mem_of_getElem? h2)
  exact RdS.of_row (World.ownsRow_nil w 0 tInt 1)
end Go.Proofs.YtgbofbbdefkbpaaGreatDoor
/-! Cmi -/
namespace Go.Proofs.YtgbofbbdefkbpaaGreatDoor
open Go Go.RowKit Go.Maps
set_option linter.unusedVariables false
set_option linter.unusedSimpArgs false

set_option maxHeartbeats 4000000 in
set_option maxRecDepth 100000 in
theorem checkAgain_walk (s : ByteArray) (w : World) (hs : s.size ≤ maxLen) (hE : Env w ∧ EnvY w) :
    Calls Tryz.prog 4 #[.string s] w fun e w' => e = .returned (.bool true) ∧ Below w.heap.size w w' := by
  have HR := Lib.hid (parsedA_any s hs w hE)
  have HE := Lib.hid hE
  unfold maxLen at hs
  clear hE
  cases hP : readL s.data.toList with
  | none =>
    go_enter Tryz.func4, Tryz.ntmps4
    go_wp2_with fail
    refine HR.out.mono ?_
    clear HR
    rintro e w1 ⟨hb1, hp⟩
    rw [hP] at hp
    simp only at hp
    subst hp
    clear hP
    go_upto_region 2 with (fail)
    have hbw := hb1.alloc hb1.size (.cells #[vNil, vNil, vNil] tPro)
    generalize w1.alloc (.cells #[vNil, vNil, vNil] tPro) = W2 at *
    have HBW := Lib.hid hbw
    have HK := Lib.hid (knownC_any W2 ⟨HE.out.1.of hbw, HE.out.2.below hbw (Nat.le_refl _)⟩)
    clear hbw hb1
    go_wp2_with fail
    refine HK.out.mono ?_
    clear HK
    rintro e w3 ⟨rfl, hb3⟩
    have HB3 := Lib.hid (HBW.out.trans (hb3.mono HBW.out.size))
    clear hb3
    go_wp2_with fail
    go_ret
    exact ⟨rfl, HB3.out⟩
  | some pg =>
    by_cases hbig : 4096 < s.size
    · go_enter Tryz.func4, Tryz.ntmps4
      go_wp2_with fail
      refine HR.out.mono ?_
      clear HR
      rintro e w1 ⟨hb1, hp⟩
      rw [hP] at hp
      simp only at hp
      obtain ⟨gv, fv, nv, fl, ns, rfl, hM⟩ := hp
      obtain ⟨A0, c0, rfl⟩ := shape_row hM.gs
      obtain ⟨A1, c1, rfl⟩ := shape_row hM.fs
      obtain ⟨A2, c2, rfl⟩ := shape_row hM.rows
      clear hP hM
      generalize pg.g.length = n0 at *
      generalize fl.length = n1 at *
      generalize ns.length = n2 at *
      go_upto_region 2 with (fail)
      have hbw := hb1.alloc hb1.size (.cells #[.slice A0 n0 c0, .slice A1 n1 c1, .slice A2 n2 c2] tPro)
      generalize w1.alloc (.cells #[.slice A0 n0 c0, .slice A1 n1 c1, .slice A2 n2 c2] tPro) = W2 at *
      have HBW := Lib.hid hbw
      have HK := Lib.hid (knownC_any W2 ⟨HE.out.1.of hbw, HE.out.2.below hbw (Nat.le_refl _)⟩)
      clear hbw hb1
      go_wp2_with fail
      refine HK.out.mono ?_
      clear HK
      rintro e w3 ⟨rfl, hb3⟩
      have HB3 := Lib.hid (HBW.out.trans (hb3.mono HBW.out.size))
      clear hb3
      go_wp2_with fail
      go_ret
      exact ⟨rfl, HB3.out⟩
    · have hlen : s.data.toList.length ≤ 4096 := by rw [← Lib.size_eq]; omega
      go_enter Tryz.func4, Tryz.ntmps4
      go_wp2_with fail
      refine HR.out.mono ?_
      clear HR
      rintro e w1 ⟨hb1, hp⟩
      rw [hP] at hp
      simp only at hp
      obtain ⟨gv, fv, nv, fl, ns, rfl, hM⟩ := hp
      obtain ⟨A0, A1, A2, c0, c1, c2, rfl, rfl, rfl, hin, hU, htz⟩ := parsedU hlen hP hM
      have hat := fun no p => check_at (no := no) (p := p) hP
      have hsz : (s.data.toList.length : Int) = (s.size : Int) := by rw [← Lib.size_eq]
      have hlf := hU.lf
      have hln := hU.ln
      rw [hsz] at hat
      have hB := hin.bd
      have hI := hU.r.pi
      have hCk : ∀ W, Below w1.heap.size w1 W → Calls Tryz.prog 10 #[pgV A0 A1 A2 pg.g.length c0 pg.f.length c1 pg.t.size c2] W (CkPost pg W) := fun W hW => by
        have h9 := checkA_any (hI.on hW) hin
        rw [hlf, hln] at h9
        exact h9
      obtain ⟨n0, hn0⟩ : ∃ n, pg.g.length = n := ⟨_, rfl⟩
      obtain ⟨n1, hn1⟩ : ∃ n, pg.f.length = n := ⟨_, rfl⟩
      obtain ⟨n2, hn2⟩ : ∃ n, pg.t.size = n := ⟨_, rfl⟩
      have HN := Lib.hid (And.intro hn0 (And.intro hn1 hn2))
      have hb2 : Below w1.heap.size w1 (w1.alloc (.cells #[.slice A0 n0 c0, .slice A1 n1 c1, .slice A2 n2 c2] tPro)) := (Below.refl _ _).alloc (Nat.le_refl _) _
      have hbw := hb1.alloc hb1.size (.cells #[.slice A0 n0 c0, .slice A1 n1 c1, .slice A2 n2 c2] tPro)
      have k2 := Blk.new w1 tPro #[.slice A0 n0 c0, .slice A1 n1 c1, .slice A2 n2 c2]
      rw [hn0, hn1, hn2] at hCk ⊢
      have HCk := Lib.hid hCk
      have HX := Lib.hid (And.intro hat (And.intro hB (And.intro hin (And.intro hU htz))))
      clear hP hM hin hU htz hat hsz hlf hln hB hI hCk hn0 hn1 hn2
      go_upto_region 4 with (fail)
      have hU2 := HX.out.2.2.2.1.on hb2
      have HC2 := Lib.hid (HCk.out _ hb2)
      obtain ⟨K, hK⟩ : ∃ x, w1.heap.size = x := ⟨_, rfl⟩
      rw [hK] at k2
      generalize w1.alloc (.cells #[.slice A0 n0 c0, .slice A1 n1 c1, .slice A2 n2 c2] tPro) = W2 at *
      simp only [hK]
      have z0 : W2.cell? ⟨K, 0, none⟩ = some (.slice A0 n0 c0) := k2.cell 0
      have z1 : W2.cell? ⟨K, 1, none⟩ = some (.slice A1 n1 c1) := k2.cell 1
      have z2 : W2.cell? ⟨K, 2, none⟩ = some (.slice A2 n2 c2) := k2.cell 2
      have zl := k2.lt
      have K2 := Lib.hid k2
      have HBW := Lib.hid hbw
      have HU2 := Lib.hid hU2
      clear hU2 hbw k2 hb1 hb2 hK HCk
      go_wp2_with fail
      refine HC2.out.mono ?_
      clear HC2
      rintro e w3 ⟨hb3, hres⟩
      rcases hres with ⟨no, q, hc, rfl⟩ | ⟨tr, vs, gA', fA', nA', gc', fc', nc', fl', vls', ns', hc, rfl, hC⟩
      · obtain ⟨hno, hq0, hq1⟩ := HX.out.1 no q hc
        have hbw3 := HBW.out.trans (hb3.mono HBW.out.size)
        clear hc hb3 z0 z1 z2 zl
        go_upto_region 5 with (fail)
        have k5 := Blk.new (w3.alloc (.cells #[.slice none 0 0, .slice none 0 0, .slice none 0 0] tPro)) tDg #[.int .i64 no, .int .i64 q]
        have k4 := (Blk.new w3 tPro #[.slice none 0 0, .slice none 0 0, .slice none 0 0]).alloc (.cells #[.int .i64 no, .int .i64 q] tDg)
        have h5 := (hbw3.alloc hbw3.size (.cells #[.slice none 0 0, .slice none 0 0, .slice none 0 0] tPro)).alloc (by have := hbw3.size; simp; omega) (.cells #[.int .i64 no, .int .i64 q] tDg)
        rw [show (w3.alloc (.cells #[.slice none 0 0, .slice none 0 0, .slice none 0 0] tPro)).heap.size = w3.heap.size + 1 by simp] at k5
        generalize (w3.alloc (.cells #[.slice none 0 0, .slice none 0 0, .slice none 0 0] tPro)).alloc (.cells #[.int .i64 no, .int .i64 q] tDg) = W5 at *
        have d0 : W5.cell? ⟨w3.heap.size + 1, 0, none⟩ = some (.int .i64 no) := k5.cell 0
        have d1 : W5.cell? ⟨w3.heap.size + 1, 1, none⟩ = some (.int .i64 q) := k5.cell 1
        have a0 : W5.cell? ⟨w3.heap.size, 0, none⟩ = some (.slice none 0 0) := k4.cell 0
        have a1 : W5.cell? ⟨w3.heap.size, 1, none⟩ = some (.slice none 0 0) := k4.cell 1
        have a2 : W5.cell? ⟨w3.heap.size, 2, none⟩ = some (.slice none 0 0) := k4.cell 2
        have dl := k5.lt
        have al := k4.lt
        have dn : (no != 0) = true := by simpa using hno
        have HB5 := Lib.hid h5
        have HK := Lib.hid (knownC_any W5 ⟨HE.out.1.of h5, HE.out.2.below h5 (Nat.le_refl _)⟩)
        clear k4 k5 h5 hbw3
        go_wp2_with fail
        refine HK.out.mono ?_
        clear HK
        rintro e w6 ⟨rfl, hb6⟩
        have HB6 := Lib.hid (HB5.out.trans (hb6.mono HB5.out.size))
        clear hb6
        go_wp2_with fail
        go_ret
        exact ⟨rfl, HB6.out⟩
      · have hU3 : PgU w3 gA' fA' nA' gc' fc' nc' pg fl' vls' ns' tr vs := ⟨hC.rd, hC.fe, hC.ne, check_vs HX.out.2.1.p hc⟩
        have hin3 := ckIn_again HX.out.2.2.1 hC hc
        have htz3 : trZ ns' tr = tr0 (pg.t.flat 0) := tr0_trZ hin3 hC.tl
        have hlf := hU3.lf
        have hln := hU3.ln
        have hCk : ∀ W, Below w3.heap.size w3 W → Calls Tryz.prog 10 #[pgV gA' fA' nA' n0 gc' n1 fc' n2 nc'] W (CkPost pg W) := fun W hW => by
          have h9 := checkA_any (hU3.r.pi.on hW) hin3
          rw [hlf, hln, HN.out.1, HN.out.2.1, HN.out.2.2] at h9
          exact h9
        have HCk := Lib.hid hCk
        rw [HN.out.1, hlf, HN.out.2.1, hln, HN.out.2.2]
        have hbw3 := HBW.out.trans (hb3.mono HBW.out.size)
        have hp3 := K2.out.below hb3 K2.out.lt
        have HU3 := Lib.hid (And.intro hU3 (And.intro (HU2.out.on hb3) htz3))
        have HC := Lib.hid hc
        clear hU3 hin3 htz3 hlf hln hCk hc hC hb3 z0 z1 z2 zl
        go_upto_region 5 with (fail)
        have k5 := Blk.new (w3.alloc (.cells #[.slice gA' n0 gc', .slice fA' n1 fc', .slice nA' n2 nc'] tPro)) tDg #[.int .i64 0, .int .i64 0]
        have k4 := (Blk.new w3 tPro #[.slice gA' n0 gc', .slice fA' n1 fc', .slice nA' n2 nc']).alloc (.cells #[.int .i64 0, .int .i64 0] tDg)
        have h35 : Below w3.heap.size w3 ((w3.alloc (.cells #[.slice gA' n0 gc', .slice fA' n1 fc', .slice nA' n2 nc'] tPro)).alloc (.cells #[.int .i64 0, .int .i64 0] tDg)) := ((Below.refl _ _).alloc (Nat.le_refl _) _).alloc (by simp) _
        rw [show (w3.alloc (.cells #[.slice gA' n0 gc', .slice fA' n1 fc', .slice nA' n2 nc'] tPro)).heap.size = w3.heap.size + 1 by simp] at k5
        generalize (w3.alloc (.cells #[.slice gA' n0 gc', .slice fA' n1 fc', .slice nA' n2 nc'] tPro)).alloc (.cells #[.int .i64 0, .int .i64 0] tDg) = W5 at *
        have HC5 := Lib.hid (HCk.out _ h35)
        have h5 := hbw3.trans (h35.mono hbw3.size)
        have hp5 := hp3.below h35 hp3.lt
        have HU5 := Lib.hid (And.intro (HU3.out.1.on h35) (HU3.out.2.1.on h35))
        obtain ⟨L, hL⟩ : ∃ x, w3.heap.size = x := ⟨_, rfl⟩
        rw [hL] at k4 k5
        simp only [hL]
        have d0 : W5.cell? ⟨L + 1, 0, none⟩ = some (.int .i64 0) := k5.cell 0
        have a0 : W5.cell? ⟨L, 0, none⟩ = some (.slice gA' n0 gc') := k4.cell 0
        have a1 : W5.cell? ⟨L, 1, none⟩ = some (.slice fA' n1 fc') := k4.cell 1
        have a2 : W5.cell? ⟨L, 2, none⟩ = some (.slice nA' n2 nc') := k4.cell 2
        have dl := k5.lt
        have al := k4.lt
        have HB5 := Lib.hid (And.intro h5 (And.intro k4 hp5))
        clear k4 k5 h5 hbw3 hp3 h35 hp5 HCk hL
        go_wp2_with fail
        refine HC5.out.mono ?_
        clear HC5
        rintro e w6 ⟨hb6, hres⟩
        rcases hres with ⟨no, q, hc, rfl⟩ | ⟨tr', vs', gB, fB, nB, gd, fd, nd, fm, vm, nm, hc, rfl, hD⟩
        · rw [HC.out] at hc; cases hc
        rw [HC.out] at hc
        simp only [Ck.ok.injEq, Prod.mk.injEq] at hc
        obtain ⟨rfl, rfl⟩ := hc
        have hU6 : PgU w6 gB fB nB gd fd nd pg fm vm nm tr vs := ⟨hD.rd, hD.fe, hD.ne, HU3.out.1.v⟩
        have hlf := hU6.lf
        have hln := hU6.ln
        rw [HN.out.1, hlf, HN.out.2.1, hln, HN.out.2.2]
        have h6 := HB5.out.1.trans (hb6.mono HB5.out.1.size)
        have a6 := HB5.out.2.1.below hb6 HB5.out.2.1.lt
        have p6 := HB5.out.2.2.below hb6 HB5.out.2.2.lt
        have HU6 := Lib.hid (And.intro hU6 (And.intro (HU5.out.1.on hb6) (HU5.out.2.on hb6)))
        clear hU6 hlf hln hD hb6 d0 a0 a1 a2 dl al HU5
        go_upto_region 8 with (fail)
        have k8 := Blk.new (w6.alloc (.cells #[.slice gB n0 gd, .slice fB n1 fd, .slice nB n2 nd] tPro)) tDg #[.int .i64 0, .int .i64 0]
        have k7 := (Blk.new w6 tPro #[.slice gB n0 gd, .slice fB n1 fd, .slice nB n2 nd]).alloc (.cells #[.int .i64 0, .int .i64 0] tDg)
        have h67 : Below w6.heap.size w6 ((w6.alloc (.cells #[.slice gB n0 gd, .slice fB n1 fd, .slice nB n2 nd] tPro)).alloc (.cells #[.int .i64 0, .int .i64 0] tDg)) := ((Below.refl _ _).alloc (Nat.le_refl _) _).alloc (by simp) _
        rw [show (w6.alloc (.cells #[.slice gB n0 gd, .slice fB n1 fd, .slice nB n2 nd] tPro)).heap.size = w6.heap.size + 1 by simp] at k8
        generalize (w6.alloc (.cells #[.slice gB n0 gd, .slice fB n1 fd, .slice nB n2 nd] tPro)).alloc (.cells #[.int .i64 0, .int .i64 0] tDg) = W7 at *
        have h7 := h6.trans (h67.mono h6.size)
        have a7 := a6.below h67 a6.lt
        have p7 := p6.below h67 p6.lt
        obtain ⟨M, hM⟩ : ∃ x, w6.heap.size = x := ⟨_, rfl⟩
        have HU7 := Lib.hid (And.intro (HU6.out.1.on h67) (And.intro (HU6.out.2.1.on h67) (HU6.out.2.2.on h67)))
        rw [hM] at k7 k8
        simp only [hM]
        have HB7 := Lib.hid h7
        have HS : Hid (∀ Wx, Below W7.heap.size W7 Wx → Wx.cell? ⟨K, 0, none⟩ = some (.slice A0 n0 c0) ∧ Wx.cell? ⟨K, 1, none⟩ = some (.slice A1 n1 c1) ∧ Wx.cell? ⟨K, 2, none⟩ = some (.slice A2 n2 c2) ∧ K < Wx.heap.size ∧
            Wx.cell? ⟨L, 0, none⟩ = some (.slice gA' n0 gc') ∧ Wx.cell? ⟨L, 1, none⟩ = some (.slice fA' n1 fc') ∧ Wx.cell? ⟨L, 2, none⟩ = some (.slice nA' n2 nc') ∧ L < Wx.heap.size ∧
            Wx.cell? ⟨M, 0, none⟩ = some (.slice gB n0 gd) ∧ Wx.cell? ⟨M, 1, none⟩ = some (.slice fB n1 fd) ∧ Wx.cell? ⟨M, 2, none⟩ = some (.slice nB n2 nd) ∧ M < Wx.heap.size ∧ Wx.cell? ⟨M + 1, 0, none⟩ = some (.int .i64 0) ∧ M + 1 < Wx.heap.size) := Lib.hid fun Wx hW => by
          have u1 := p7.below hW p7.lt
          have u2 := a7.below hW a7.lt
          have u3 := k7.below hW k7.lt
          have u4 := k8.below hW k8.lt
          exact ⟨u1.cell 0, u1.cell 1, u1.cell 2, u1.lt, u2.cell 0, u2.cell 1, u2.cell 2, u2.lt, u3.cell 0, u3.cell 1, u3.cell 2, u3.lt, u4.cell 0, u4.lt⟩
        have hB := HX.out.2.1
        have HA : Hid ((∀ W, Below W7.heap.size W7 W → Calls Tryz.prog 12 #[pgV gA' fA' nA' n0 gc' n1 fc' n2 nc', pgV gB fB nB n0 gd n1 fd n2 nd] W fun e w' => e = .returned (.bool true) ∧ Below W7.heap.size W7 w') ∧
            (∀ W, Below W7.heap.size W7 W → Calls Tryz.prog 14 #[pgV gA' fA' nA' n0 gc' n1 fc' n2 nc'] W fun e w' => ∃ x1 x2 x3 y1 y2 y3 ml ms, e = .returned (pgV x1 x2 x3 n0 y1 n1 y2 n2 y3) ∧
              PgU w' x1 x2 x3 y1 y2 y3 pg ml (List.replicate pg.f.length (.slice none 0 0)) ms (tr0 (pg.t.flat 0)) (List.replicate pg.f.length []) ∧ Below W7.heap.size W7 w') ∧
            (∀ W0 W, Below W7.heap.size W7 W0 → Below W0.heap.size W0 W → Calls Tryz.prog 14 #[pgV A0 A1 A2 n0 c0 n1 c1 n2 c2] W fun e w' => ∃ x1 x2 x3 y1 y2 y3 ml ms, e = .returned (pgV x1 x2 x3 n0 y1 n1 y2 n2 y3) ∧
              PgU w' x1 x2 x3 y1 y2 y3 pg ml (List.replicate pg.f.length (.slice none 0 0)) ms (tr0 (pg.t.flat 0)) (List.replicate pg.f.length []) ∧ Below W0.heap.size W0 w' ∧ Below W7.heap.size W7 w') ∧
            (∀ W0 W x1 x2 x3 y1 y2 y3 ml ms z1 z2 z3 t1 t2 t3 mk mt, PgU W0 x1 x2 x3 y1 y2 y3 pg ml (List.replicate pg.f.length (.slice none 0 0)) ms (tr0 (pg.t.flat 0)) (List.replicate pg.f.length []) → PgU W0 z1 z2 z3 t1 t2 t3 pg mk (List.replicate pg.f.length (.slice none 0 0)) mt (tr0 (pg.t.flat 0)) (List.replicate pg.f.length []) →
              Below W7.heap.size W7 W0 → Below W0.heap.size W0 W → Calls Tryz.prog 12 #[pgV x1 x2 x3 n0 y1 n1 y2 n2 y3, pgV z1 z2 z3 n0 t1 n1 t2 n2 t3] W fun e w' => e = .returned (.bool true) ∧ Below W7.heap.size W7 w') ∧
            (∀ W, Below W7.heap.size W7 W → Calls Tryz.prog 7 #[] W fun e w' => e = .returned (.bool true) ∧ Below W7.heap.size W7 w')) := by
          refine Lib.hid ⟨fun W hW => ?_, fun W hW => ?_, fun W0 W h0 hW => ?_, fun W0 W x1 x2 x3 y1 y2 y3 ml ms z1 z2 z3 t1 t2 t3 mk mt hx hz h0 hW => ?_, fun W hW => ?_⟩
          · have h9 := sameU hB (HU7.out.2.1.on hW) (HU7.out.1.on hW)
            rw [HN.out.1, HN.out.2.1, HN.out.2.2] at h9
            exact h9.mono fun e w' h => ⟨h.1, hW.trans (h.2.mono hW.size)⟩
          · have h9 := bareU hB (HU7.out.2.1.on hW) HU3.out.2.2
            rw [HN.out.1, HN.out.2.1, HN.out.2.2] at h9
            refine h9.mono ?_
            rintro e w' ⟨x1, x2, x3, y1, y2, y3, ml, ms, rfl, hu, hb⟩
            exact ⟨x1, x2, x3, y1, y2, y3, ml, ms, rfl, by rw [HN.out.2.1]; exact hu, hW.trans (hb.mono hW.size)⟩
          · have h97 := h0.trans (hW.mono h0.size)
            have h9 := bareU hB (HU7.out.2.2.on h97) HX.out.2.2.2.2
            rw [HN.out.1, HN.out.2.1, HN.out.2.2] at h9
            refine h9.mono ?_
            rintro e w' ⟨x1, x2, x3, y1, y2, y3, ml, ms, rfl, hu, hb⟩
            exact ⟨x1, x2, x3, y1, y2, y3, ml, ms, rfl, by rw [HN.out.2.1]; exact hu, hW.trans (hb.mono hW.size), h97.trans (hb.mono h97.size)⟩
          · have h97 := h0.trans (hW.mono h0.size)
            have h9 := sameU hB (hx.on hW) (hz.on hW)
            rw [HN.out.1, HN.out.2.1, HN.out.2.2] at h9
            exact h9.mono fun e w' h => ⟨h.1, h97.trans (h.2.mono h97.size)⟩
          · have h9 := HB7.out.trans (hW.mono HB7.out.size)
            exact (knownC_any W ⟨HE.out.1.of h9, HE.out.2.below h9 (Nat.le_refl _)⟩).mono fun e w' h => ⟨h.1, hW.trans (h.2.mono hW.size)⟩
        have J : Below W7.heap.size W7 W7 := Below.refl _ _
        clear hB k7 k8 h67 h6 h7 a6 a7 p6 p7 hM HU7 HU6 HU3 HX HN HC
        obtain ⟨p0, p1, p2, pl, a0, a1, a2, al, b0, b1, b2, bl, d0, dl⟩ := HS.out _ J
        go_region_held2 (fun Wx => Wx.cell? ⟨K, 0, none⟩ = some (.slice A0 n0 c0) ∧ Wx.cell? ⟨K, 1, none⟩ = some (.slice A1 n1 c1) ∧ Wx.cell? ⟨K, 2, none⟩ = some (.slice A2 n2 c2) ∧ K < Wx.heap.size ∧
            Wx.cell? ⟨L, 0, none⟩ = some (.slice gA' n0 gc') ∧ Wx.cell? ⟨L, 1, none⟩ = some (.slice fA' n1 fc') ∧ Wx.cell? ⟨L, 2, none⟩ = some (.slice nA' n2 nc') ∧ L < Wx.heap.size ∧
            Wx.cell? ⟨M, 0, none⟩ = some (.slice gB n0 gd) ∧ Wx.cell? ⟨M, 1, none⟩ = some (.slice fB n1 fd) ∧ Wx.cell? ⟨M, 2, none⟩ = some (.slice nB n2 nd) ∧ M < Wx.heap.size ∧ Wx.cell? ⟨M + 1, 0, none⟩ = some (.int .i64 0) ∧ M + 1 < Wx.heap.size)
          (first | exact ⟨p0, p1, p2, pl, a0, a1, a2, al, b0, b1, b2, bl, d0, dl⟩ | exact HS.out _ J)
          (first
            | (go_at_call 12; (with_reducible refine Calls.mono (HA.out.1 _ (by first | exact J | exact J.drew)) ?_); rintro e v1 ⟨rfl, J⟩)
            | (go_at_call 14; (with_reducible refine Calls.mono (HA.out.2.1 _ (by first | exact J | exact J.drew)) ?_); rintro e v2 ⟨x1, x2, x3, y1, y2, y3, ml, ms, rfl, R0, J⟩; have R1 := Lib.hid R0; clear R0)
            | (go_at_call 14; (with_reducible refine Calls.mono (HA.out.2.2.1 v2 _ J (by first | exact Below.refl _ _ | exact (Below.refl _ _).drew)) ?_); rintro e v3 ⟨z1, z2, z3, t1, t2, t3, mk, mt, rfl, R0, J3, J⟩; have R2 := Lib.hid (And.intro (R1.out.on J3) R0); clear R0 J3)
            | (go_at_call 12; (with_reducible refine Calls.mono (HA.out.2.2.2.1 v3 _ _ _ _ _ _ _ _ _ _ _ _ _ _ _ _ _ R2.out.1 R2.out.2 J (by first | exact Below.refl _ _ | exact (Below.refl _ _).drew)) ?_); rintro e v4 ⟨rfl, J⟩)
            | (go_at_call 7; (with_reducible refine Calls.mono (HA.out.2.2.2.2 _ (by first | exact J | exact J.drew)) ?_); rintro e v5 ⟨rfl, J⟩))
        all_goals
          go_wp2_with fail
          go_ret
          exact ⟨rfl, HB7.out.trans ((show Below W7.heap.size W7 _ from by first | exact J | exact J.drew).mono HB7.out.size)⟩
end Go.Proofs.YtgbofbbdefkbpaaGreatDoor
