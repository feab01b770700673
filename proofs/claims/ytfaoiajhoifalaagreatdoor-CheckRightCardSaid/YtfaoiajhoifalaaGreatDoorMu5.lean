/-
  PLAIN MATHEMATICS of layers parse and check together: where a check's errors lie. Programs of one datum at hand: parsed, checked. Layer check, mathematics: in what was checked each name is there, and each expression has a type.
-/
import Derived.Test.YtfaoiajhoifalaaGreatDoorMu3
import Derived.Test.YtfaoiajhoifalaaGreatDoorMt9
/-! Cmg -/
namespace Go.Proofs.YtfaoiajhoifalaaGreatDoor
open Go
set_option linter.unusedVariables false
set_option linter.unusedSimpArgs false
set_option linter.unusedSectionVars false

section
variable (R : Int → Prop)
/-- The heads' places are such. -/
def FPl : Fo → Prop
  | .nil => True
  | .cons h k r => R h.p ∧ FPl k ∧ FPl r
def SPl (s : St) : Prop := ∀ t ∈ s.l, R t.p
def APl {α : Type} (Q : α → Prop) (r : Rs α) : Prop := ∀ a s, r = .ok a s → SPl R s ∧ Q a
variable {R}
theorem FPl.app {x y : Fo} (hx : FPl R x) (hy : FPl R y) : FPl R (x.app y) := by
  induction x with
  | nil => exact hy
  | cons h k r _ ih => exact ⟨hx.1, hx.2.1, ih hx.2.2⟩
theorem SPl.nx {s : St} (h : SPl R s) : SPl R s.nx := fun t ht => h t (List.mem_of_mem_tail ht)
theorem APl.bind {α β : Type} {P : α → Prop} {Q : β → Prop} {r : Rs α} {f : α → St → Rs β} (h : APl R P r) (hf : ∀ a s, SPl R s → P a → APl R Q (f a s)) : APl R Q (r.bind f) := by
  intro b s2 e
  cases r with
  | ok a s => exact hf a s (h a s rfl).1 (h a s rfl).2 b s2 e
  | er n q => cases e
  | out => cases e
theorem APl.ok {α : Type} {Q : α → Prop} {a : α} {s : St} (hs : SPl R s) (hq : Q a) : APl R Q (Rs.ok a s) := fun a' s' e => by cases e; exact ⟨hs, hq⟩
theorem APl.er {α : Type} {Q : α → Prop} {n p : Int} : APl R Q (Rs.er n p : Rs α) := fun a' s' e => by cases e
theorem APl.out {α : Type} {Q : α → Prop} : APl R Q (Rs.out : Rs α) := fun a' s' e => by cases e
variable {e : Tok} (he : R e.p)
include he
theorem pk_p {s : St} (h : SPl R s) : R (pk e s).p := by
  cases hl : s.l with
  | nil => simpa [pk, hl] using he
  | cons t l => simpa [pk, hl] using h t (by rw [hl]; exact List.mem_cons_self)
theorem must_p (x : List UInt8) {s : St} (h : SPl R s) : APl R (fun _ => True) (must e x s) := by unfold must; split; exact APl.ok h.nx trivial; exact APl.er
theorem name_p {s : St} (h : SPl R s) : APl R (fun t : Tok => R t.p) (nameM e s) := by unfold nameM; split; exact APl.ok h.nx (pk_p he h); exact APl.er
theorem typed_p (ks : List Int) {s : St} (h : SPl R s) : APl R (fun _ => True) (typedM e ks s) := by
  unfold typedM
  split
  · split
    · exact APl.ok h.nx trivial
    · exact APl.er
  · exact APl.er
theorem enter_p (d : Nat) {s : St} (h : SPl R s) : APl R (fun _ => True) (enterM e d s) := by unfold enterM; split; exact APl.er; exact APl.ok h trivial
omit he in
theorem add_p {h : Hd} {k : Fo} {s : St} (hs : SPl R s) (hh : R h.p) (hk : FPl R k) : APl R (FPl R) (addM h k s) := by
  unfold addM
  split
  · exact APl.er
  · exact APl.ok (fun t ht => hs t ht) ⟨hh, hk, trivial⟩
end
section
variable {R : Int → Prop} {e : Tok} (he : R e.p) {r : Md → St → Rs Fo} (hr : ∀ m s, SPl R s → (∀ d l x, m = .loop d l x → FPl R x) → APl R (FPl R) (r m s))
include he hr
theorem callB_p {f : Tok} (hf : R f.p) (d : Nat) {s : St} (hs : SPl R s) : APl R (FPl R) (callB e r f d s) := by
  unfold callB
  repeat' (first | assumption | exact trivial | exact APl.er | (with_reducible refine SPl.nx ?_) | (with_reducible refine pk_p he ?_) | (with_reducible refine FPl.app ?_ ?_) | (refine APl.ok ?_ ?_) | (refine add_p ?_ ?_ ?_) | (refine APl.bind (must_p he _ ?_) (fun _ _ _ _ => ?_)) | (refine APl.bind (name_p he ?_) (fun _ _ _ _ => ?_)) | (refine APl.bind (typed_p he _ ?_) (fun _ _ _ _ => ?_)) | (refine APl.bind (enter_p he _ ?_) (fun _ _ _ _ => ?_)) | (refine hr _ _ ?_ (fun _ _ _ h => by cases h)) | (refine APl.bind (P := FPl R) ?_ (fun _ _ _ _ => ?_)) | split)
theorem varB_p (d : Nat) {s : St} (hs : SPl R s) : APl R (FPl R) (varB e r d s) := by
  unfold varB elemB
  repeat' (first | assumption | exact trivial | exact APl.er | (with_reducible refine SPl.nx ?_) | (with_reducible refine pk_p he ?_) | (with_reducible refine FPl.app ?_ ?_) | (refine APl.ok ?_ ?_) | (refine add_p ?_ ?_ ?_) | (refine APl.bind (must_p he _ ?_) (fun _ _ _ _ => ?_)) | (refine APl.bind (name_p he ?_) (fun _ _ _ _ => ?_)) | (refine APl.bind (typed_p he _ ?_) (fun _ _ _ _ => ?_)) | (refine APl.bind (enter_p he _ ?_) (fun _ _ _ _ => ?_)) | (refine callB_p he hr ?_ _ ?_) | (refine hr _ _ ?_ (fun _ _ _ h => by cases h)) | (refine APl.bind (P := FPl R) ?_ (fun _ _ _ _ => ?_)) | split)
theorem opdB_p (d : Nat) {s : St} (hs : SPl R s) : APl R (FPl R) (opdB e r d s) := by
  unfold opdB numB unB encB encE inB
  repeat' (first | assumption | exact trivial | exact APl.er | (with_reducible refine SPl.nx ?_) | (with_reducible refine pk_p he ?_) | (with_reducible refine FPl.app ?_ ?_) | (refine APl.ok ?_ ?_) | (refine add_p ?_ ?_ ?_) | (refine APl.bind (must_p he _ ?_) (fun _ _ _ _ => ?_)) | (refine APl.bind (name_p he ?_) (fun _ _ _ _ => ?_)) | (refine APl.bind (typed_p he _ ?_) (fun _ _ _ _ => ?_)) | (refine APl.bind (enter_p he _ ?_) (fun _ _ _ _ => ?_)) | (refine varB_p he hr _ ?_) | (refine hr _ _ ?_ (fun _ _ _ h => by cases h)) | (refine APl.bind (P := FPl R) ?_ (fun _ _ _ _ => ?_)) | split)
theorem guardB_p (d : Nat) {s : St} (hs : SPl R s) : APl R (FPl R) (guardB e r d s) := by
  unfold guardB
  repeat' (first | assumption | exact trivial | exact APl.er | (with_reducible refine SPl.nx ?_) | (with_reducible refine pk_p he ?_) | (with_reducible refine FPl.app ?_ ?_) | (refine APl.ok ?_ ?_) | (refine add_p ?_ ?_ ?_) | (refine APl.bind (must_p he _ ?_) (fun _ _ _ _ => ?_)) | (refine APl.bind (name_p he ?_) (fun _ _ _ _ => ?_)) | (refine APl.bind (typed_p he _ ?_) (fun _ _ _ _ => ?_)) | (refine APl.bind (enter_p he _ ?_) (fun _ _ _ _ => ?_)) | (refine hr _ _ ?_ (fun _ _ _ h => by cases h)) | (refine APl.bind (P := FPl R) ?_ (fun _ _ _ _ => ?_)) | split)
theorem namedB_p (d : Nat) {s : St} (hs : SPl R s) : APl R (FPl R) (namedB e r d s) := by
  unfold namedB storeB
  repeat' (first | assumption | exact trivial | exact APl.er | (with_reducible refine SPl.nx ?_) | (with_reducible refine pk_p he ?_) | (with_reducible refine FPl.app ?_ ?_) | (refine APl.ok ?_ ?_) | (refine add_p ?_ ?_ ?_) | (refine APl.bind (must_p he _ ?_) (fun _ _ _ _ => ?_)) | (refine APl.bind (name_p he ?_) (fun _ _ _ _ => ?_)) | (refine APl.bind (typed_p he _ ?_) (fun _ _ _ _ => ?_)) | (refine APl.bind (enter_p he _ ?_) (fun _ _ _ _ => ?_)) | (refine callB_p he hr ?_ _ ?_) | (refine hr _ _ ?_ (fun _ _ _ h => by cases h)) | (refine APl.bind (P := FPl R) ?_ (fun _ _ _ _ => ?_)) | exact APl.er | split)
theorem blockB_p (d : Nat) {s : St} (hs : SPl R s) : APl R (FPl R) (blockB e r d s) := by
  unfold blockB
  repeat' (first | assumption | exact trivial | exact APl.er | (with_reducible refine SPl.nx ?_) | (with_reducible refine pk_p he ?_) | (with_reducible refine FPl.app ?_ ?_) | (refine APl.ok ?_ ?_) | (refine add_p ?_ ?_ ?_) | (refine APl.bind (must_p he _ ?_) (fun _ _ _ _ => ?_)) | (refine APl.bind (name_p he ?_) (fun _ _ _ _ => ?_)) | (refine APl.bind (typed_p he _ ?_) (fun _ _ _ _ => ?_)) | (refine APl.bind (enter_p he _ ?_) (fun _ _ _ _ => ?_)) | (refine hr _ _ ?_ (fun _ _ _ h => by cases h)) | (refine APl.bind (P := FPl R) ?_ (fun _ _ _ _ => ?_)) | split)
theorem stmB_p (d : Nat) {s : St} (hs : SPl R s) : APl R (FPl R) (stmB e r d s) := by
  unfold stmB localB ifB whileB gotoB retB outB
  repeat' (first | assumption | exact trivial | exact APl.er | (with_reducible refine SPl.nx ?_) | (with_reducible refine pk_p he ?_) | (with_reducible refine FPl.app ?_ ?_) | (refine APl.ok ?_ ?_) | (refine add_p ?_ ?_ ?_) | (refine APl.bind (must_p he _ ?_) (fun _ _ _ _ => ?_)) | (refine APl.bind (name_p he ?_) (fun _ _ _ _ => ?_)) | (refine APl.bind (typed_p he _ ?_) (fun _ _ _ _ => ?_)) | (refine APl.bind (enter_p he _ ?_) (fun _ _ _ _ => ?_)) | (refine namedB_p he hr _ ?_) | (refine guardB_p he hr _ ?_) | (refine blockB_p he hr _ ?_) | (refine hr _ _ ?_ (fun _ _ _ h => by cases h)) | (refine APl.bind (P := FPl R) ?_ (fun _ _ _ _ => ?_)) | split)
omit hr in
theorem run_p : ∀ n m s, SPl R s → (∀ d l x, m = .loop d l x → FPl R x) → APl R (FPl R) (run e n m s) := by
  intro n
  induction n with
  | zero => intro m s _ _; exact APl.out
  | succ n ih =>
    intro m s hs hm
    cases m with
    | bin d l => exact APl.bind (ih _ _ hs (fun _ _ _ h => by cases h)) fun a s' h1 h2 => ih _ _ h1 (fun _ _ _ h => by cases h; exact h2)
    | loop d l x =>
      have hx := hm _ _ _ rfl
      show APl R (FPl R) (loopB e (run e n) d l x s)
      unfold loopB
      split
      · exact APl.ok hs hx
      · exact APl.bind (ih _ _ hs.nx (fun _ _ _ h => by cases h)) fun b s1 h1 h2 => APl.bind (add_p h1 (pk_p he hs) (hx.app h2)) fun y s2 h3 h4 => ih _ _ h3 (fun _ _ _ h => by cases h; exact h4)
    | opd d => exact opdB_p he ih d hs
    | args d =>
      show APl R (FPl R) (argsB e (run e n) d s)
      unfold argsB
      refine APl.bind (ih _ _ hs (fun _ _ _ h => by cases h)) fun a s1 h1 h2 => ?_
      split
      · exact APl.bind (ih _ _ h1.nx (fun _ _ _ h => by cases h)) fun b s2 h3 h4 => APl.ok h3 (h2.app h4)
      · exact APl.ok h1 h2
    | stm d => exact stmB_p he ih d hs
    | blk d =>
      show APl R (FPl R) (blkB e (run e n) d s)
      unfold blkB
      split
      · exact APl.ok hs.nx trivial
      · exact APl.bind (ih _ _ hs (fun _ _ _ h => by cases h)) fun a s1 h1 h2 => APl.bind (ih _ _ h1 (fun _ _ _ h => by cases h)) fun b s2 h3 h4 => APl.ok h3 (h2.app h4)
omit hr in
theorem param_p {s : St} (hs : SPl R s) : APl R (fun _ => True) (paramM e s) := APl.bind (typed_p he _ hs) fun _ _ h1 _ => APl.bind (name_p he h1) fun _ _ h2 _ => APl.ok h2 trivial
omit hr in
theorem more_p : ∀ n l s, SPl R s → APl R (fun _ => True) (moreM e n l s) := by
  intro n
  induction n with
  | zero => intro l s _; exact APl.out
  | succ n ih =>
    intro l s hs
    unfold moreM
    split
    · exact APl.bind (param_p he hs.nx) fun _ _ h _ => ih _ _ h
    · exact APl.ok hs trivial
omit hr in
theorem size_p {s : St} (hs : SPl R s) : APl R (fun _ => True) (sizeM e s) := by
  unfold sizeM
  split
  · exact APl.er
  · split
    · exact APl.er
    · exact APl.ok hs.nx trivial
/-- The places of a program are such. -/
structure PgPl (R : Int → Prop) (p : Pg) : Prop where
  g : ∀ x ∈ p.g, R x.p
  f : ∀ x ∈ p.f, R x.p
  t : FPl R p.t
omit hr in
theorem global_p {k : Int} {t : Tok} (ht : R t.p) {s : St} (hs : SPl R s) : APl R (fun g : Gl => R g.p) (globalM e k t s) := by
  unfold globalM
  split
  · exact APl.bind (must_p he _ hs) fun _ _ h1 _ => APl.bind (size_p he h1) fun _ _ h2 _ => APl.bind (must_p he _ h2) fun _ _ h3 _ => APl.bind (must_p he _ h3) fun _ _ h4 _ => APl.ok h4 ht
  · exact APl.bind (must_p he _ hs) fun _ _ h1 _ => APl.ok h1 ht
omit hr in
theorem function_p {n : Nat} {k : Int} {t : Tok} (ht : R t.p) {s : St} (hs : SPl R s) : APl R (fun x : Fn' × Fo => R x.1.p ∧ FPl R x.2) (functionM e n k t s) := by
  unfold functionM
  refine APl.bind (must_p he _ hs) fun _ s1 h1 _ => APl.bind (P := fun _ => True) ?_ fun ps s2 h2 _ => APl.bind (must_p he _ h2) fun _ s3 h3 _ => APl.bind (blockB_p he (run_p he n) _ h3) fun b s4 h4 h5 => APl.ok h4 ⟨ht, h5⟩
  split
  · exact APl.ok h1 trivial
  · exact APl.bind (param_p he h1) fun _ _ h _ => more_p he _ _ _ h
omit hr in
theorem prog_p : ∀ n p s, SPl R s → PgPl R p → APl R (PgPl R) (progM e n p s) := by
  intro n
  induction n with
  | zero => intro p s _ _; exact APl.out
  | succ n ih =>
    intro p s hs hp
    unfold progM
    split
    · exact APl.ok hs hp
    · refine APl.bind (P := PgPl R) ?_ fun p' s' h1 h2 => ih p' s' h1 h2
      unfold itemM
      refine APl.bind (typed_p he _ hs) fun k s1 h1 _ => APl.bind (name_p he h1) fun t s2 h2 ht => ?_
      split
      · refine APl.bind (function_p he ht h2) fun x s3 h3 h4 => APl.ok h3 ⟨hp.g, fun y hy => ?_, hp.t.app h4.2⟩
        rcases List.mem_append.1 hy with hy | hy
        · exact hp.f y hy
        · rw [List.mem_singleton.1 hy]; exact h4.1
      · refine APl.bind (global_p he ht h2) fun g s3 h3 h4 => APl.ok h3 ⟨fun y hy => ?_, hp.f, hp.t⟩
        rcases List.mem_append.1 hy with hy | hy
        · exact hp.g y hy
        · rw [List.mem_singleton.1 hy]; exact h4
end
theorem parse_p {R : Int → Prop} {l : List Tok} (h0 : R 0) (hl : ∀ t ∈ l, R t.p) {p : Pg} {s : St} (h : parseL l = .ok p s) : PgPl R p := by
  have he : R (endT l).p := by
    unfold endT
    cases hf : l.find? (fun t => decide (t.k = 4)) with
    | some t => exact hl t (List.mem_of_find?_eq_some hf)
    | none =>
      simp only [Option.getD_none]
      cases hg : l.getLast? with
      | none => simpa using h0
      | some t => simpa using hl t (List.mem_of_getLast? hg)
  have hp0 : PgPl R ⟨[], [], .nil⟩ := { g := fun _ h => (by cases h), f := fun _ h => (by cases h), t := trivial }
  exact (prog_p he _ _ _ (fun t ht => hl t (List.takeWhile_subset _ ht)) hp0 p s h).2
/-- The tokens of a text lie in it. -/
theorem tokL_p {l : List UInt8} {segs : List Seg} (h : Sg l segs) (e : Nat) : ∀ a, a + l.length ≤ e → ∀ t ∈ tokL e a segs, 0 ≤ t.p ∧ t.p ≤ e := by
  induction h with
  | fin g st hg =>
    intro a ha t ht
    rw [tokL, List.mem_singleton] at ht
    subst ht
    exact ⟨by simp, by simp⟩
  | step g u r tk segs hg hu hsc h0 hr ih =>
    intro a ha t ht
    rw [tokL] at ht
    simp only [List.length_append] at ha
    rcases List.mem_cons.1 ht with rfl | ht
    · simp only [Tok.to]
      omega
    · exact ih _ (by simp only; omega) t ht
theorem lex_p {l : List UInt8} (h : (lexL l).2.1 = 0) : ∀ t ∈ (lexL l).1, 0 ≤ t.p ∧ t.p ≤ l.length := by
  obtain ⟨hl, segs, hS⟩ := lex_Sg h
  rw [hS.lex hl]
  exact tokL_p hS _ 0 (by omega)
theorem read_p {l : List UInt8} {pg : Pg} (h : readL l = some pg) : PgPl (fun p => 0 ≤ p ∧ p ≤ l.length) pg := by
  unfold readL at h
  split at h
  · cases h
  · rename_i h0
    have h1 : (lexL l).2.1 = 0 := by simpa using h0
    cases hp : parseL (lexL l).1 with
    | ok p s =>
      rw [hp] at h
      obtain rfl := Option.some.inj h
      exact parse_p ⟨by omega, by omega⟩ (lex_p h1) hp
    | er no q => rw [hp] at h; cases h
    | out => rw [hp] at h; cases h

/-! what a check says -/
def CEr {α : Type} (R : Int → Prop) (r : Ck α) : Prop := ∀ no p, r = .er no p → no ≠ 0 ∧ R p
theorem CEr.bind {α β : Type} {R : Int → Prop} {r : Ck α} {f : α → Ck β} (h : CEr R r) (hf : ∀ a, CEr R (f a)) : CEr R (r.bind f) := by
  intro no p e
  cases r with
  | ok a => exact hf a no p e
  | er n q => simp only [Ck.bind, Ck.er.injEq] at e; exact h no p (by rw [e.1, e.2])
theorem CEr.ok {α : Type} {R : Int → Prop} {a : α} : CEr R (Ck.ok a) := fun no p e => by cases e
theorem CEr.er {α : Type} {R : Int → Prop} {n p : Int} (h : R p) (hn : n ≠ 0 := by decide) : CEr R (Ck.er n p : Ck α) := fun no q e => by simp only [Ck.er.injEq] at e; rw [← e.1, ← e.2]; exact ⟨hn, h⟩
theorem CEr.refuse {R : Int → Prop} {b : Bool} {n p : Int} (h : R p) (hn : n ≠ 0 := by decide) : CEr R (refuse b n p) := by unfold Go.Proofs.YtfaoiajhoifalaaGreatDoor.refuse; split; exact CEr.er h hn; exact CEr.ok
section
variable {R : Int → Prop}
theorem glob_c : ∀ (l : List Gl) (i : Nat) (b : Int) (s : Scp), (∀ g ∈ l, R g.p) → CEr R (globM l i b s) := by
  intro l
  induction l with
  | nil => intro i b s _; exact CEr.ok
  | cons g l ih =>
    intro i b s h
    unfold globM
    split
    · exact CEr.er (h g (by simp))
    · split
      · exact CEr.er (h g (by simp))
      · exact ih _ _ _ fun x hx => h x (by simp [hx])
theorem fun_c : ∀ (l : List Fn') (i : Nat) (s : Scp), (∀ g ∈ l, R g.p) → CEr R (funM l i s) := by
  intro l
  induction l with
  | nil => intro i s _; exact CEr.ok
  | cons g l ih =>
    intro i s h
    have hg := h g (by simp)
    unfold funM
    split
    · exact CEr.er hg
    · split
      · exact CEr.er hg
      · split
        · exact CEr.er hg
        · split
          · exact CEr.er hg
          · exact ih _ _ fun x hx => h x (by simp [hx])
theorem refer_c {h : Hd} (hp : R h.p) (so : List Int) (sc : List Scp) : CEr R (referM h so sc) := by
  unfold referM
  split
  · exact CEr.er hp
  · split
    · exact CEr.ok
    · exact CEr.er hp
theorem rule_c {K : Kn} {h : Hd} (hp : R h.p) (ks : List Nat) (i : Nat) (σ : Cs) : CEr R (ruleM K h ks i σ) := by
  unfold ruleM exprM stmtM valsM
  repeat' (first | exact CEr.ok | exact refer_c hp _ _ | exact CEr.refuse hp | (refine CEr.bind ?_ (fun _ => ?_)) | split)
theorem vis_c (K : Kn) : ∀ (F : Fo) (c : Nat) (σ : Cs), FPl R F → CEr R (visM K F c σ) := by
  intro F
  induction F with
  | nil => intro c σ _; exact CEr.ok
  | cons h k r ihk ihr =>
    intro c σ hF
    unfold visM
    refine CEr.bind ?_ fun τ => ihr _ _ hF.2.2
    split
    · exact CEr.bind (ihk _ _ hF.2.1) fun _ => CEr.ok
    · exact CEr.bind (ihk _ _ hF.2.1) fun _ => rule_c hF.1 _ _ _
theorem lab_c : ∀ (l : List Nd) (s : List Nm'), (∀ n ∈ l, R n.h.p) → CEr R (labM l s) := by
  intro l
  induction l with
  | nil => intro s _; exact CEr.ok
  | cons n l ih =>
    intro s h
    unfold labM
    split
    · split
      · exact CEr.er (h n (by simp))
      · exact ih _ fun x hx => h x (by simp [hx])
    · exact ih _ fun x hx => h x (by simp [hx])
theorem FPl.flat : ∀ (F : Fo) (c : Nat), FPl R F → ∀ n ∈ F.flat c, R n.h.p := by
  intro F
  induction F with
  | nil => intro c _ n hn; simp [Fo.flat] at hn
  | cons h k r ihk ihr =>
    intro c hF n hn
    simp only [Fo.flat, List.mem_append, List.mem_cons] at hn
    rcases hn with hn | hn
    · first
        | exact ihk _ hF.2.1 n hn
        | (rcases hn with hn | rfl | hn
           · exact ihk _ hF.2.1 n hn
           · exact hF.1
           · cases hn)
    · first
        | exact ihr _ hF.2.2 n hn
        | (rcases hn with rfl | hn
           · exact hF.1
           · exact ihr _ hF.2.2 n hn)
theorem bods_c (np : List Nat) (G : Scp) : ∀ (fs : List Fn') (F : Fo) (c : Nat) (tr : List (Int × Int)), FPl R F → CEr R (bodsM np G fs F c tr) := by
  intro fs
  induction fs with
  | nil => intro F c tr _; unfold bodsM; exact CEr.ok
  | cons f l ih =>
    intro F c tr hF
    cases F with
    | nil => unfold bodsM; exact CEr.ok
    | cons h k r =>
      unfold bodsM
      refine CEr.bind ?_ fun x => CEr.bind (ih _ _ _ hF.2.2) fun y => CEr.ok
      unfold bodyM
      exact CEr.bind (lab_c _ _ (FPl.flat _ _ ⟨hF.1, hF.2.1, trivial⟩)) fun lb => CEr.bind (vis_c _ _ _ _ hF.2.1) fun σ => CEr.ok
theorem main_c {G : Scp} {fs : List Fn'} (h0 : R 0) (hf : ∀ f ∈ fs, R f.p) : CEr R (mainM G fs) := by
  unfold mainM
  split
  · exact CEr.er h0
  · split
    · exact CEr.er h0
    · split
      · exact CEr.er h0
      · rename_i f hx
        split
        · exact CEr.er (hf f (List.mem_of_getElem? hx))
        · exact CEr.ok
theorem check_c {pg : Pg} (h0 : R 0) (h : PgPl R pg) : CEr R (checkM pg) := by
  unfold checkM
  exact CEr.bind (glob_c _ _ _ _ h.g) fun s => CEr.bind (fun_c _ _ _ h.f) fun G => CEr.bind (bods_c _ _ _ _ _ _ h.t) fun y => CEr.bind (main_c h0 h.f) fun _ => CEr.ok
end
/-- A check's errors lie in the text. -/
theorem check_at {l : List UInt8} {pg : Pg} (h : readL l = some pg) {no p : Int} (hc : checkM pg = .er no p) : no ≠ 0 ∧ 0 ≤ p ∧ p ≤ l.length :=
  check_c (R := fun p => 0 ≤ p ∧ p ≤ l.length) ⟨by omega, by omega⟩ (read_p h) no p hc
end Go.Proofs.YtfaoiajhoifalaaGreatDoor
/-! Cmh0 -/
namespace Go.Proofs.YtfaoiajhoifalaaGreatDoor
open Go Go.RowKit Go.Maps
set_option linter.unusedVariables false
set_option linter.unusedSimpArgs false

/-! how many variables there are -/
theorem rule_vs {K : Kn} {h : Hd} {ks : List Nat} {i n : Nat} {σ τ : Cs} (hn : 64 ≤ n) (hσ : σ.vs.length ≤ n) (e : ruleM K h ks i σ = .ok τ) : τ.vs.length ≤ n := by
  unfold ruleM at e
  split at e
  · unfold exprM at e
    split at e
    · obtain ⟨m, -, e⟩ := bind_ok_iff e; cases e; exact hσ
    split at e
    · obtain ⟨m, -, e⟩ := bind_ok_iff e; obtain ⟨_, -, e⟩ := bind_ok_iff e; cases e; exact hσ
    split at e
    · obtain ⟨m, -, e⟩ := bind_ok_iff e; cases e; exact hσ
    split at e
    · obtain ⟨m, -, e⟩ := bind_ok_iff e; cases e; exact hσ
    split at e
    · obtain ⟨m, -, e⟩ := bind_ok_iff e; cases e; exact hσ
    split at e
    · obtain ⟨m, -, e⟩ := bind_ok_iff e; obtain ⟨_, -, e⟩ := bind_ok_iff e; obtain ⟨_, -, e⟩ := bind_ok_iff e; cases e; exact hσ
    split at e
    · cases e; exact hσ
    · cases e; exact hσ
  · unfold stmtM at e
    split at e
    · obtain ⟨_, -, e⟩ := bind_ok_iff e
      obtain ⟨_, -, e⟩ := bind_ok_iff e
      obtain ⟨_, h3, e⟩ := bind_ok_iff e
      cases e
      by_cases h64 : 64 ≤ σ.vs.length
      · rw [decide_eq_true h64] at h3; cases h3
      · simp only [List.length_append, List.length_cons, List.length_nil]
        omega
    split at e
    · obtain ⟨m, -, e⟩ := bind_ok_iff e; obtain ⟨_, -, e⟩ := bind_ok_iff e; cases e; exact hσ
    split at e
    · obtain ⟨m, -, e⟩ := bind_ok_iff e; obtain ⟨_, -, e⟩ := bind_ok_iff e; cases e; exact hσ
    split at e
    · obtain ⟨m, -, e⟩ := bind_ok_iff e; cases e; exact hσ
    split at e
    · obtain ⟨m, -, e⟩ := bind_ok_iff e; cases e; exact hσ
    split at e
    · obtain ⟨m, -, e⟩ := bind_ok_iff e; obtain ⟨_, -, e⟩ := bind_ok_iff e; cases e; exact hσ
    split at e
    · obtain ⟨m, -, e⟩ := bind_ok_iff e; cases e; exact hσ
    · cases e; exact hσ
theorem vis_vs (K : Kn) {n : Nat} (hn : 64 ≤ n) (F : Fo) : ∀ (c : Nat) (σ τ : Cs), σ.vs.length ≤ n → visM K F c σ = .ok τ → τ.vs.length ≤ n := by
  induction F with
  | nil => intro c σ τ h e; simp only [visM] at e; cases e; exact h
  | cons h k r ih1 ih2 =>
    intro c σ τ hσ e
    simp only [visM] at e
    obtain ⟨ρ, e1, e⟩ := bind_ok_iff e
    refine ih2 _ _ _ ?_ e
    split at e1
    · obtain ⟨κ, e3, e2⟩ := bind_ok_iff e1
      cases e2
      have h9 := ih1 _ _ _ (show ({ σ with sc := σ.sc ++ [[]] } : Cs).vs.length ≤ n from hσ) e3
      exact h9
    · obtain ⟨κ, e3, e2⟩ := bind_ok_iff e1
      exact rule_vs hn (ih1 _ _ _ hσ e3) e2
theorem bods_vs (np : List Nat) (G : Scp) : ∀ (fs : List Fn') (F : Fo) (c : Nat) (a b : List (Int × Int)) (vs : List (List Int)), (∀ f ∈ fs, f.ps.length ≤ 1000000) → bodsM np G fs F c a = .ok (b, vs) → ∀ l ∈ vs, l.length ≤ 1000000 := by
  intro fs
  induction fs with
  | nil => intro F c a b vs _ e; simp only [bodsM] at e; cases e; intro l hl; cases hl
  | cons f l ih =>
    intro F c a b vs hf e
    cases F with
    | nil => simp only [bodsM] at e; cases e; intro l hl; cases hl
    | cons h k r =>
      rw [bods_step] at e
      obtain ⟨x, e1, e⟩ := bind_ok_iff e
      obtain ⟨y, e2, e⟩ := bind_ok_iff e
      cases e
      unfold bodyM at e1
      obtain ⟨lb, -, e1⟩ := bind_ok_iff e1
      obtain ⟨τ, e3, e1⟩ := bind_ok_iff e1
      cases e1
      intro z hz
      rcases List.mem_cons.1 hz with rfl | hz
      · exact vis_vs _ (by omega) _ _ _ _ (by simpa using hf f (by simp)) e3
      · exact ih r _ _ _ _ (fun f hf' => hf f (by simp [hf'])) (show bodsM np G l r (c + k.size + 1) τ.tr = .ok (y.1, y.2) from e2) z hz
theorem check_vs {pg : Pg} {tr : List (Int × Int)} {vs : List (List Int)} (hf : ∀ f ∈ pg.f, f.ps.length ≤ 1000000) (h : checkM pg = .ok (tr, vs)) : ∀ l ∈ vs, l.length ≤ 1000000 := by
  obtain ⟨s, G, -, -, h3, -⟩ := check_un h
  exact bods_vs _ _ _ _ _ _ _ _ hf h3
theorem trZ_nd (ns : List CN) (tr : List (Int × Int)) : trZ ns tr = ((ns.map CN.nd).zip tr).map fun y => (if y.1.h.op = 1 then y.2.1 else 0, 0) := by
  unfold trZ
  rw [List.zip_map_left, List.map_map]
  rfl
theorem trZ_same {ns ms : List CN} (h : ms.map CN.nd = ns.map CN.nd) (tr : List (Int × Int)) : trZ ms tr = trZ ns tr := by rw [trZ_nd, trZ_nd, h]

/-! programs of one datum -/
/-- The bounds of a program. -/
structure BdP (pg : Pg) : Prop where
  g : pg.g.length ≤ 1000000
  f : pg.f.length ≤ 1000000
  n : pg.t.size ≤ 1000000
  p : ∀ f ∈ pg.f, f.ps.length ≤ 1000000
  k : ∀ n ∈ pg.t.flat 0, n.kids.length ≤ 1000000
theorem CkIn.bd {pg : Pg} {gs : List Gl} {fl : List (Fn' × Value)} {ns : List CN} {tr : List (Int × Int)} (h : CkIn pg gs fl ns tr) : BdP pg := by
  refine ⟨by have := h.gl.1; rw [h.g] at this; omega, by have := h.fn.1; omega, by have := h.sz; omega, fun f hf => (h.fn.2 f hf).2.1, fun n hn => ?_⟩
  rw [← h.n] at hn
  obtain ⟨x, hx, rfl⟩ := List.mem_map.1 hn
  exact (h.nn x hx).2
/-- A program that is read, of one datum. -/
structure PgU (w : World) (gA fA nA : Option Addr) (gc fc nc : Nat) (pg : Pg) (fl : List (Fn' × Value)) (vls : List Value) (ns : List CN) (tr : List (Int × Int)) (vs : List (List Int)) : Prop where
  r : PgR w gA fA nA gc fc nc pg.g fl vls ns tr vs
  f : fl.map (·.1) = pg.f
  n : ns.map CN.nd = pg.t.flat 0
  v : ∀ l ∈ vs, l.length ≤ 1000000
section
variable {w : World} {gA fA nA gA' fA' nA' : Option Addr} {gc fc nc gc' fc' nc' : Nat} {pg : Pg} {fl ml : List (Fn' × Value)} {vls uls : List Value} {ns ms : List CN} {tr : List (Int × Int)} {vs : List (List Int)}
theorem PgU.on {w' : World} (h : PgU w gA fA nA gc fc nc pg fl vls ns tr vs) (hb : Below w.heap.size w w') : PgU w' gA fA nA gc fc nc pg fl vls ns tr vs := ⟨h.r.on hb, h.f, h.n, h.v⟩
theorem PgU.lf (h : PgU w gA fA nA gc fc nc pg fl vls ns tr vs) : fl.length = pg.f.length := by have := congrArg List.length h.f; rwa [List.length_map] at this
theorem PgU.ln (h : PgU w gA fA nA gc fc nc pg fl vls ns tr vs) : ns.length = pg.t.size := by have := congrArg List.length h.n; rwa [List.length_map, Fo.flat_length] at this
theorem PgU.pl (h : PgU w gA fA nA gc fc nc pg fl vls ns tr vs) (hB : BdP pg) : ∀ x ∈ fl, x.1.ps.length ≤ 1000000 := fun x hx => hB.p _ (by rw [← h.f]; exact List.mem_map_of_mem hx)
theorem PgU.kl (h : PgU w gA fA nA gc fc nc pg fl vls ns tr vs) (hB : BdP pg) : ∀ x ∈ ns, x.kids.length ≤ 1000000 := fun x hx => hB.k x.nd (by rw [← h.n]; exact List.mem_map_of_mem hx)
end
/-- What was parsed. -/
theorem parsedU {l : List UInt8} {pg : Pg} (hl : l.length ≤ 4096) (hr : readL l = some pg) {B : Nat} {w : World} {gv fv nv : Value} {fl : List (Fn' × Value)} {ns : List NV} (h : PgM B w pg gv fv nv fl ns) :
    ∃ gA fA nA gc fc nc, gv = .slice gA pg.g.length gc ∧ fv = .slice fA pg.f.length fc ∧ nv = .slice nA pg.t.size nc ∧ CkIn pg pg.g fl (ns.map toCN) (ns.map fun x => (x.h.ty, 0)) ∧
      PgU w gA fA nA gc fc nc pg fl (List.replicate fl.length (.slice none 0 0)) (ns.map toCN) (ns.map fun x => (x.h.ty, 0)) (List.replicate fl.length []) ∧ trZ (ns.map toCN) (ns.map fun x => (x.h.ty, 0)) = tr0 (pg.t.flat 0) := by
  obtain ⟨gA, gc, rfl⟩ := shape_row h.gs
  obtain ⟨fA, fc, rfl⟩ := shape_row h.fs
  obtain ⟨nA, nc, rfl⟩ := shape_row h.rows
  have h0 : (lexL l).2.1 = 0 := by
    unfold readL at hr
    split at hr
    · cases hr
    · rename_i h0; simpa using h0
  obtain ⟨s, hok⟩ : ∃ s, PgOk TkV (lexL l).1.length pg s := by
    have hp := parse_b (V := TkV) (lex_toks h0).2.2
    unfold readL at hr
    rw [if_neg (by simpa using h0)] at hr
    cases hP : parseL (lexL l).1 with
    | out => rw [hP] at hr; cases hr
    | er n p => rw [hP] at hr; cases hr
    | ok q s => rw [hP] at hr hp; simp only [Option.some.injEq] at hr; subst hr; exact ⟨s, hp⟩
  have hin := ckIn_parsed h hok (by have := (lex_toks h0).2.1; omega)
  have hI := pgM_in h
  have hfl : fl.length = pg.f.length := by have := congrArg List.length h.fe; rwa [List.length_map] at this
  have hnl : ns.length = pg.t.size := by have := congrArg List.length h.nl; rwa [List.length_map, Fo.flat_length] at this
  refine ⟨gA, fA, nA, gc, fc, nc, rfl, by rw [hfl], by rw [hnl], hin, ⟨⟨hI, by simp, fun j v l h1 h2 => ?_⟩, h.fe, by rw [toCN_nd]; exact h.nl, fun l hl => by rw [List.eq_of_mem_replicate hl]; simp⟩, tr0_trZ hin (by simp)⟩
  obtain rfl := List.eq_of_mem_replicate (List.mem_of_getElem? h1)
  obtain rfl := List.eq_of_mem_replicate (List.mem_of_getElem? h2)
  exact RdS.of_row (World.ownsRow_nil w 0 tInt 1)
end Go.Proofs.YtfaoiajhoifalaaGreatDoor
/-! Cmj -/
namespace Go.Proofs.YtfaoiajhoifalaaGreatDoor
open Go Go.RowKit Go.Maps
set_option linter.unusedVariables false
set_option linter.unusedSimpArgs false

/-- What a node must have by its place in the grammar. -/
def Sh (h : Hd) : Prop := (h.op = 1 → h.ty = 1 ∨ h.ty = 2) ∧ (h.op = 12 → h.to = 1 ∨ h.to = 2) ∧ ((1 ≤ h.op ∧ h.op ≤ 8) ∨ (11 ≤ h.op ∧ h.op ≤ 21))
def Fo.sh : Fo → Prop
  | .nil => True
  | .cons h k r => Sh h ∧ k.sh ∧ r.sh
theorem okI_sh {V : Tok → Prop} {it : It} {h : Hd} {n : Nat} (h1 : okI V it h n) : Sh h := by
  cases it with
  | e d lv =>
    rcases h1 with ⟨ho, _, ⟨t, ht, -, hn, hty⟩, hs, hto⟩ | ⟨ho, _⟩ | ⟨ho, _⟩ | ⟨ho, _⟩ | ⟨ho, _⟩ | ⟨ho, _⟩ | ⟨ho, _⟩ | ⟨ho, _⟩
    · refine ⟨fun _ => ?_, fun e => by omega, by omega⟩
      rw [hty]
      split <;> simp
    all_goals exact ⟨fun e => by omega, fun e => by omega, by omega⟩
  | s d cl =>
    obtain ⟨-, hn, -, h1⟩ := h1
    rcases h1 with ⟨ho, _⟩ | ⟨ho, hm, hto⟩ | ⟨ho, _⟩ | ⟨ho, _⟩ | ⟨ho, _⟩ | ⟨ho, _⟩ | ⟨ho, _⟩ | ⟨ho, _⟩ | ⟨ho, _⟩ | ⟨ho, _⟩ | ⟨ho, _⟩
    · exact ⟨fun e => by omega, fun e => by omega, by omega⟩
    · exact ⟨fun e => by omega, fun _ => hto, by omega⟩
    all_goals exact ⟨fun e => by omega, fun e => by omega, by omega⟩
  | c d =>
    obtain ⟨ho, _⟩ := h1
    exact ⟨fun e => by omega, fun e => by omega, by omega⟩
theorem Gr.sh {V : Tok → Prop} {x : Fo} : ∀ {p : List It} {st : Option It}, Gr V p st x → x.sh := by
  induction x with
  | nil => intro p st _; trivial
  | cons h k r ih1 ih2 =>
    intro p st hg
    cases p with
    | cons it p => simp only [Gr] at hg; exact ⟨okI_sh hg.1, ih1 hg.2.1, ih2 hg.2.2⟩
    | nil =>
      cases st with
      | none => simp [Gr] at hg
      | some it => simp only [Gr] at hg; exact ⟨okI_sh hg.1, ih1 hg.2.1, ih2 hg.2.2⟩
theorem Bls.sh {V : Tok → Prop} {x : Fo} (hx : Bls V x) : x.sh := by
  induction x with
  | nil => trivial
  | cons h k r _ ih => exact ⟨okI_sh hx.2.1, hx.2.2.1.sh, ih hx.2.2.2⟩
theorem get_app {α : Type} {l x : List α} {j : Nat} {t : α} (h : l[j]? = some t) : (l ++ x)[j]? = some t := by
  rw [List.getElem?_append_left (List.getElem?_eq_some_iff.1 h).1]; exact h

section
variable (gs : List Gl) (fs : List Fn')
def Scal (vs : List Int) (rf t : Int) : Prop := (∃ j : Nat, rf = j ∧ vs[j]? = some t) ∨ ∃ (j : Nat) (g : Gl), rf = -1 - j ∧ gs[j]? = some g ∧ g.n = 0 ∧ g.ty = t
/-- What a name denotes is there. -/
def MgOk (vs : List Int) (x : Nm') (m : Mg) : Prop :=
  (m.so = 1 ∧ (∃ j : Nat, m.rf = j ∧ vs[j]? = some m.vl) ∧ (m.vl = 1 ∨ m.vl = 2)) ∨
  (m.so = 2 ∧ (∃ (j : Nat) (g : Gl), m.rf = -1 - j ∧ gs[j]? = some g ∧ g.n = 0 ∧ g.ty = m.vl) ∧ (m.vl = 1 ∨ m.vl = 2)) ∨
  (m.so = 3 ∧ ∃ (j : Nat) (g : Gl), m.rf = j ∧ gs[j]? = some g ∧ 1 ≤ g.n ∧ g.s = x ∧ m.vl = if g.ty = 2 then 2 else 1) ∨
  (m.so = 4 ∧ ∃ (j : Nat) (f : Fn'), m.rf = j ∧ fs[j]? = some f ∧ f.s = x ∧ m.vl = f.ty)
def SpOk (vs : List Int) (s : Scp) : Prop := ∀ y ∈ s, MgOk gs fs vs y.1 y.2
/-- What a node of a checked function has: pl parameters, variables vs, kn kids, its Type and Ref t. -/
structure Rt (pl : Nat) (vs : List Int) (h : Hd) (kn : Nat) (t : Int × Int) : Prop where
  nm : h.op = 2 → Scal gs vs t.2 t.1
  sg : h.op = 13 → Scal gs vs t.2 1 ∨ Scal gs vs t.2 2
  lo : h.op = 12 → (pl : Int) ≤ t.2 ∧ Scal gs vs t.2 h.to
  ar : h.op = 3 ∨ h.op = 14 → ∃ (j : Nat) (g : Gl), t.2 = j ∧ gs[j]? = some g ∧ 1 ≤ g.n ∧ g.s = h.s ∧ (h.op = 3 → (t.1 = 2 ↔ g.ty = 2))
  ca : h.op = 7 → ∃ (j : Nat) (f : Fn'), t.2 = j ∧ fs[j]? = some f ∧ f.s = h.s ∧ f.ty = t.1 ∧ f.ps.length = kn
  ex : h.op = 5 ∨ h.op = 4 ∨ h.op = 6 ∨ h.op = 1 ∨ h.op = 8 → t.1 = 1 ∨ t.1 = 2
  st : 11 ≤ h.op → t.1 = 0
  op : (1 ≤ h.op ∧ h.op ≤ 8) ∨ (11 ≤ h.op ∧ h.op ≤ 21)
variable {gs fs}
theorem Scal.app {vs x : List Int} {rf t : Int} (h : Scal gs vs rf t) : Scal gs (vs ++ x) rf t := by
  rcases h with ⟨j, e, h⟩ | h
  · exact .inl ⟨j, e, get_app h⟩
  · exact .inr h
theorem MgOk.app {vs x : List Int} {n : Nm'} {m : Mg} (h : MgOk gs fs vs n m) : MgOk gs fs (vs ++ x) n m := by
  rcases h with ⟨e, ⟨j, e1, h⟩, ht⟩ | h
  · exact .inl ⟨e, ⟨j, e1, get_app h⟩, ht⟩
  · exact .inr h
theorem SpOk.app {vs x : List Int} {s : Scp} (h : SpOk gs fs vs s) : SpOk gs fs (vs ++ x) s := fun y hy => (h y hy).app
theorem Rt.app {pl kn : Nat} {vs x : List Int} {h : Hd} {t : Int × Int} (r : Rt gs fs pl vs h kn t) : Rt gs fs pl (vs ++ x) h kn t :=
  ⟨fun e => (r.nm e).app, fun e => (r.sg e).imp Scal.app Scal.app, fun e => ⟨(r.lo e).1, (r.lo e).2.app⟩, r.ar, r.ca, r.ex, r.st, r.op⟩
theorem look_mem2 {s : Scp} {x : Nm'} {m : Mg} (h : look s x = some m) : (x, m) ∈ s := by
  unfold look at h
  cases hf : s.find? fun y => decide (y.1 = x) with
  | none => rw [hf] at h; cases h
  | some p =>
    rw [hf] at h
    have h1 := List.find?_some hf
    have h2 := List.mem_of_find?_eq_some hf
    simp only [decide_eq_true_eq] at h1
    cases h
    rw [← h1]
    exact h2
theorem refer_ok {vs : List Int} {h : Hd} {so : List Int} {sc : List Scp} {m : Mg} (hsc : ∀ s ∈ sc, SpOk gs fs vs s) (e : referM h so sc = .ok m) : m.so ∈ so ∧ MgOk gs fs vs h.s m := by
  unfold referM at e
  cases hl : lookS sc h.s with
  | none => rw [hl] at e; cases e
  | some m' =>
    rw [hl] at e
    simp only at e
    split at e
    · rename_i hm
      cases e
      refine ⟨hm, ?_⟩
      unfold lookS at hl
      obtain ⟨s, hs, hx⟩ := List.exists_of_findSome?_eq_some hl
      exact hsc s (List.mem_reverse.1 hs) _ (look_mem2 hx)
    · cases e
theorem tr_rf {σ : Cs} {i : Nat} {a b r : Int} (h : σ.tr[i]? = some (a, b)) : (setRf σ i r).tr[i]? = some (a, r) := by
  have hl := (List.getElem?_eq_some_iff.1 h).1
  unfold setRf
  simp only [List.getElem?_set_self hl, List.getD, h, Option.getD_some]
theorem tr_ty {σ : Cs} {i : Nat} {a b t : Int} (h : σ.tr[i]? = some (a, b)) : (setTy σ i t).tr[i]? = some (t, b) := by
  have hl := (List.getElem?_eq_some_iff.1 h).1
  unfold setTy
  simp only [List.getElem?_set_self hl, List.getD, h, Option.getD_some]
theorem iol_ok (b : Bool) : iol b = 1 ∨ iol b = 2 := by cases b <;> simp [iol]
theorem mg_scal {vs : List Int} {x : Nm'} {m : Mg} (hso : m.so ∈ ([1, 2] : List Int)) (h : MgOk gs fs vs x m) : Scal gs vs m.rf m.vl ∧ (m.vl = 1 ∨ m.vl = 2) := by
  rcases h with ⟨e, h, ht⟩ | ⟨e, h, ht⟩ | ⟨e, h⟩ | ⟨e, h⟩
  · exact ⟨.inl h, ht⟩
  · exact ⟨.inr h, ht⟩
  · rw [e] at hso; simp at hso
  · rw [e] at hso; simp at hso
theorem mg_arr {vs : List Int} {x : Nm'} {m : Mg} (hso : m.so ∈ ([3] : List Int)) (h : MgOk gs fs vs x m) : ∃ (j : Nat) (g : Gl), m.rf = j ∧ gs[j]? = some g ∧ 1 ≤ g.n ∧ g.s = x ∧ m.vl = if g.ty = 2 then 2 else 1 := by
  rcases h with ⟨e, h⟩ | ⟨e, h⟩ | ⟨e, h⟩ | ⟨e, h⟩
  · rw [e] at hso; simp at hso
  · rw [e] at hso; simp at hso
  · exact h
  · rw [e] at hso; simp at hso
theorem mg_fun {vs : List Int} {x : Nm'} {m : Mg} (hso : m.so ∈ ([4] : List Int)) (h : MgOk gs fs vs x m) : ∃ (j : Nat) (f : Fn'), m.rf = j ∧ fs[j]? = some f ∧ f.s = x ∧ m.vl = f.ty := by
  rcases h with ⟨e, h⟩ | ⟨e, h⟩ | ⟨e, h⟩ | ⟨e, h⟩
  · rw [e] at hso; simp at hso
  · rw [e] at hso; simp at hso
  · rw [e] at hso; simp at hso
  · exact h
/-- What a step of a visit leaves. -/
structure Stp (gs : List Gl) (fs : List Fn') (σ τ : Cs) : Prop where
  vs : ∃ x, τ.vs = σ.vs ++ x
  sc : ∀ s ∈ τ.sc, SpOk gs fs τ.vs s
set_option maxHeartbeats 1000000 in
theorem rule_rt {pl : Nat} {K : Kn} (hnp : K.np = fs.map fun f => f.ps.length) {h : Hd} {ks : List Nat} {i : Nat} {σ τ : Cs} (hs : Sh h) (h11 : h.op ≠ 11) (hi : σ.tr[i]? = some (if h.op = 1 then h.ty else 0, 0))
    (hsc : ∀ s ∈ σ.sc, SpOk gs fs σ.vs s) (hpl : pl ≤ σ.vs.length) (e : ruleM K h ks i σ = .ok τ) : Stp gs fs σ τ ∧ ∃ t, τ.tr[i]? = some t ∧ Rt gs fs pl τ.vs h ks.length t := by
  have hstp : ∀ ρ : Cs, ρ.vs = σ.vs → ρ.sc = σ.sc → Stp gs fs σ ρ := fun ρ h1 h2 => ⟨⟨[], by rw [h1, List.append_nil]⟩, by rw [h1, h2]; exact hsc⟩
  have hop := hs.2.2
  unfold ruleM at e
  split at e
  · unfold exprM at e
    split at e
    · rename_i ho
      obtain ⟨m, hm, e⟩ := bind_ok_iff e
      cases e
      obtain ⟨h1, h2⟩ := refer_ok hsc hm
      obtain ⟨h3, h4⟩ := mg_scal h1 h2
      refine ⟨hstp _ rfl rfl, _, tr_ty (tr_rf hi), ?_⟩
      exact ⟨fun _ => h3, fun o => by omega, fun o => by omega, fun o => by omega, fun o => by omega, fun o => by omega, fun o => by omega, hop⟩
    split at e
    · rename_i ho
      obtain ⟨m, hm, e⟩ := bind_ok_iff e
      obtain ⟨_, -, e⟩ := bind_ok_iff e
      cases e
      obtain ⟨h1, h2⟩ := refer_ok hsc hm
      obtain ⟨j, g, a1, a2, a3, a4, a5⟩ := mg_arr h1 h2
      refine ⟨hstp _ rfl rfl, _, tr_ty (tr_rf hi), ?_⟩
      refine ⟨fun o => by omega, fun o => by omega, fun o => by omega, fun _ => ⟨j, g, a1, a2, a3, a4, fun _ => ?_⟩, fun o => by omega, fun o => by omega, fun o => by omega, hop⟩
      simp only
      rw [a5]
      split <;> omega
    split at e
    · rename_i ho
      obtain ⟨_, -, e⟩ := bind_ok_iff e
      cases e
      exact ⟨hstp _ rfl rfl, _, tr_ty hi, fun o => by omega, fun o => by omega, fun o => by omega, fun o => by omega, fun o => by omega, fun _ => iol_ok _, fun o => by omega, hop⟩
    split at e
    · rename_i ho
      obtain ⟨_, -, e⟩ := bind_ok_iff e
      cases e
      exact ⟨hstp _ rfl rfl, _, tr_ty hi, fun o => by omega, fun o => by omega, fun o => by omega, fun o => by omega, fun o => by omega, fun _ => iol_ok _, fun o => by omega, hop⟩
    split at e
    · rename_i ho
      obtain ⟨_, -, e⟩ := bind_ok_iff e
      cases e
      exact ⟨hstp _ rfl rfl, _, tr_ty hi, fun o => by omega, fun o => by omega, fun o => by omega, fun o => by omega, fun o => by omega, fun _ => iol_ok _, fun o => by omega, hop⟩
    split at e
    · rename_i ho
      obtain ⟨m, hm, e⟩ := bind_ok_iff e
      obtain ⟨_, hn, e⟩ := bind_ok_iff e
      obtain ⟨_, -, e⟩ := bind_ok_iff e
      cases e
      obtain ⟨h1, h2⟩ := refer_ok hsc hm
      obtain ⟨j, f, a1, a2, a3, a4⟩ := mg_fun h1 h2
      have hn := refuse_ok_iff hn
      refine ⟨hstp _ rfl rfl, _, tr_ty (tr_rf hi), ?_⟩
      refine ⟨fun o => by omega, fun o => by omega, fun o => by omega, fun o => by omega, fun _ => ⟨j, f, a1, a2, a3, a4.symm, ?_⟩, fun o => by omega, fun o => by omega, hop⟩
      rw [hnp, a1, Int.toNat_natCast] at hn
      simp only [List.getD, List.getElem?_map, a2, Option.map_some, Option.getD_some, ne_eq, decide_not, Bool.not_eq_false', decide_eq_true_eq] at hn
      exact hn.symm
    split at e
    · rename_i ho
      cases e
      exact ⟨hstp _ rfl rfl, _, tr_ty hi, fun o => by omega, fun o => by omega, fun o => by omega, fun o => by omega, fun o => by omega, fun _ => .inr rfl, fun o => by omega, hop⟩
    · cases e
      have ho : h.op = 1 := by omega
      rw [if_pos ho] at hi
      exact ⟨hstp _ rfl rfl, _, hi, fun o => by omega, fun o => by omega, fun o => by omega, fun o => by omega, fun o => by omega, fun _ => hs.1 ho, fun o => by omega, hop⟩
  · rw [if_neg (by omega)] at hi
    have hst : ∀ r : Int, h.op ≠ 12 → h.op ≠ 13 → h.op ≠ 14 → Rt gs fs pl σ.vs h ks.length (0, r) := fun r _ _ _ =>
      ⟨fun o => by omega, fun o => by omega, fun o => by omega, fun o => by omega, fun o => by omega, fun o => by omega, fun _ => rfl, hop⟩
    unfold stmtM at e
    split at e
    · rename_i ho
      obtain ⟨_, -, e⟩ := bind_ok_iff e
      obtain ⟨_, -, e⟩ := bind_ok_iff e
      obtain ⟨_, -, e⟩ := bind_ok_iff e
      cases e
      have hnew : (σ.vs ++ [h.to])[σ.vs.length]? = some h.to := by simp
      refine ⟨⟨⟨_, rfl⟩, ?_⟩, _, tr_rf hi, ?_⟩
      · intro s hs'
        simp only [decl, List.mem_append, List.mem_singleton] at hs'
        rcases hs' with hs' | rfl
        · exact (hsc s (List.dropLast_subset _ hs')).app
        · intro y hy
          rcases List.mem_cons.1 hy with rfl | hy
          · exact .inl ⟨rfl, ⟨_, rfl, hnew⟩, hs.2.1 ho⟩
          · cases hg : σ.sc.getLast? with
            | none => rw [hg] at hy; cases hy
            | some s =>
              rw [hg] at hy
              exact (hsc s (List.mem_of_getLast? hg)).app y hy
      · refine ⟨fun o => by omega, fun o => by omega, fun _ => ⟨?_, .inl ⟨_, rfl, hnew⟩⟩, fun o => by omega, fun o => by omega, fun o => by omega, fun _ => rfl, hop⟩
        simp only
        omega
    split at e
    · rename_i ho
      obtain ⟨m, hm, e⟩ := bind_ok_iff e
      obtain ⟨_, -, e⟩ := bind_ok_iff e
      cases e
      obtain ⟨h1, h2⟩ := refer_ok hsc hm
      obtain ⟨h3, h4⟩ := mg_scal h1 h2
      refine ⟨hstp _ rfl rfl, _, tr_rf hi, fun o => by omega, fun _ => ?_, fun o => by omega, fun o => by omega, fun o => by omega, fun o => by omega, fun _ => rfl, hop⟩
      rcases h4 with h4 | h4
      · rw [h4] at h3; exact .inl h3
      · rw [h4] at h3; exact .inr h3
    split at e
    · rename_i ho
      obtain ⟨m, hm, e⟩ := bind_ok_iff e
      obtain ⟨_, -, e⟩ := bind_ok_iff e
      cases e
      obtain ⟨h1, h2⟩ := refer_ok hsc hm
      obtain ⟨j, g, a1, a2, a3, a4, a5⟩ := mg_arr h1 h2
      exact ⟨hstp _ rfl rfl, _, tr_rf hi, fun o => by omega, fun o => by omega, fun o => by omega, fun _ => ⟨j, g, a1, a2, a3, a4, fun o => by omega⟩, fun o => by omega, fun o => by omega, fun _ => rfl, hop⟩
    split at e
    · obtain ⟨_, -, e⟩ := bind_ok_iff e
      cases e
      exact ⟨hstp _ rfl rfl, _, hi, hst _ (by omega) (by omega) (by omega)⟩
    split at e
    · obtain ⟨_, -, e⟩ := bind_ok_iff e
      cases e
      exact ⟨hstp _ rfl rfl, _, hi, hst _ (by omega) (by omega) (by omega)⟩
    split at e
    · obtain ⟨_, -, e⟩ := bind_ok_iff e
      obtain ⟨_, -, e⟩ := bind_ok_iff e
      cases e
      exact ⟨hstp _ rfl rfl, _, hi, hst _ (by omega) (by omega) (by omega)⟩
    split at e
    · obtain ⟨_, -, e⟩ := bind_ok_iff e
      cases e
      exact ⟨hstp _ rfl rfl, _, hi, hst _ (by omega) (by omega) (by omega)⟩
    · cases e
      exact ⟨hstp _ rfl rfl, _, hi, hst _ (by omega) (by omega) (by omega)⟩
/-- Each node of trees from c on has what it must have. -/
def RtF (gs : List Gl) (fs : List Fn') (pl : Nat) (vs : List Int) (tr : List (Int × Int)) (F : Fo) (c : Nat) : Prop :=
  ∀ j n, (F.flat c)[j]? = some n → ∃ t, tr[c + j]? = some t ∧ Rt gs fs pl vs n.h n.kids.length t
/-- Nothing has been said of these. -/
def Raw (tr : List (Int × Int)) (F : Fo) (c : Nat) : Prop := ∀ j n, (F.flat c)[j]? = some n → tr[c + j]? = some (if n.h.op = 1 then n.h.ty else 0, 0)
theorem flat_kid {h : Hd} {k r : Fo} {c j : Nat} {n : Nd} (hj : (k.flat c)[j]? = some n) : ((Fo.cons h k r).flat c)[j]? = some n := by
  rw [Fo.flat]; exact get_app hj
theorem flat_me {h : Hd} {k r : Fo} {c : Nat} : ((Fo.cons h k r).flat c)[k.size]? = some ⟨h, k.roots c⟩ := by
  rw [Fo.flat, List.getElem?_append_right (by rw [Fo.flat_length]; omega), Fo.flat_length, Nat.sub_self]; rfl
theorem flat_rest {h : Hd} {k r : Fo} {c j : Nat} : ((Fo.cons h k r).flat c)[k.size + 1 + j]? = (r.flat (c + k.size + 1))[j]? := by
  rw [Fo.flat, List.getElem?_append_right (by rw [Fo.flat_length]; omega), Fo.flat_length, show k.size + 1 + j - k.size = j + 1 by omega, List.getElem?_cons_succ]
theorem flat_cases {h : Hd} {k r : Fo} {c j : Nat} {n : Nd} (hj : ((Fo.cons h k r).flat c)[j]? = some n) :
    (j < k.size ∧ (k.flat c)[j]? = some n) ∨ (j = k.size ∧ n = ⟨h, k.roots c⟩) ∨ ∃ m, j = k.size + 1 + m ∧ (r.flat (c + k.size + 1))[m]? = some n := by
  by_cases h1 : j < k.size
  · rw [Fo.flat, List.getElem?_append_left (by rw [Fo.flat_length]; omega)] at hj
    exact .inl ⟨h1, hj⟩
  by_cases h2 : j = k.size
  · subst h2
    rw [flat_me] at hj
    exact .inr (.inl ⟨rfl, (Option.some.inj hj).symm⟩)
  · obtain ⟨m, rfl⟩ : ∃ m, j = k.size + 1 + m := ⟨j - (k.size + 1), by omega⟩
    rw [flat_rest] at hj
    exact .inr (.inr ⟨m, rfl, hj⟩)
theorem vis_rt {pl : Nat} {K : Kn} (hnp : K.np = fs.map fun f => f.ps.length) (F : Fo) : ∀ (c : Nat) (σ τ : Cs), F.sh → Raw σ.tr F c → (∀ s ∈ σ.sc, SpOk gs fs σ.vs s) → pl ≤ σ.vs.length → visM K F c σ = .ok τ →
    Stp gs fs σ τ ∧ RtF gs fs pl τ.vs τ.tr F c := by
  induction F with
  | nil => intro c σ τ _ _ hsc _ e; simp only [visM] at e; cases e; exact ⟨⟨⟨[], by simp⟩, hsc⟩, fun j n hn => by simp [Fo.flat] at hn⟩
  | cons h k r ih1 ih2 =>
    intro c σ τ hsh hraw hsc hpl e
    simp only [visM] at e
    obtain ⟨ρ, e1, e⟩ := bind_ok_iff e
    have hrk : Raw σ.tr k c := fun j n hn => hraw j n (flat_kid hn)
    have hrm := hraw _ _ (flat_me (h := h) (k := k) (r := r) (c := c))
    have hrr : ∀ j n, (r.flat (c + k.size + 1))[j]? = some n → σ.tr[c + k.size + 1 + j]? = some (if n.h.op = 1 then n.h.ty else 0, 0) := fun j n hn => by
      rw [show c + k.size + 1 + j = c + (k.size + 1 + j) by omega]
      exact hraw _ _ (by rw [flat_rest]; exact hn)
    have hmid : Stp gs fs σ ρ ∧ RtF gs fs pl ρ.vs ρ.tr k c ∧ (∃ t, ρ.tr[c + k.size]? = some t ∧ Rt gs fs pl ρ.vs h (k.roots c).length t) ∧ ∀ j, c + k.size < j → ρ.tr[j]? = σ.tr[j]? := by
      split at e1
      · rename_i ho
        obtain ⟨κ, e3, e2⟩ := bind_ok_iff e1
        cases e2
        have hkp := vis_kept _ _ _ _ _ e3
        obtain ⟨⟨hx, hsc1⟩, hr1⟩ := ih1 c { σ with sc := σ.sc ++ [[]] } κ hsh.2.1 hrk (fun s hs => by
          rcases List.mem_append.1 hs with hs | hs
          · exact hsc s hs
          · rw [List.mem_singleton] at hs; subst hs; intro y hy; cases hy) hpl e3
        refine ⟨⟨hx, fun s hs => hsc1 s (List.dropLast_subset _ hs)⟩, hr1, ?_, fun j hj => hkp.out j (by omega)⟩
        refine ⟨(0, 0), ?_, fun o => by omega, fun o => by omega, fun o => by omega, fun o => by omega, fun o => by omega, fun o => by omega, fun _ => rfl, hsh.1.2.2⟩
        have h9 := hkp.out (c + k.size) (by omega)
        simp only at h9
        show κ.tr[c + k.size]? = _
        rw [h9, hrm, if_neg (show ¬ h.op = 1 by omega)]
      · rename_i ho
        obtain ⟨κ, e3, e2⟩ := bind_ok_iff e1
        have hkp := vis_kept _ _ _ _ _ e3
        obtain ⟨⟨⟨x, hx⟩, hsc1⟩, hr1⟩ := ih1 c σ κ hsh.2.1 hrk hsc hpl e3
        have hbt := rule_tr e2
        have hi : κ.tr[c + k.size]? = some (if h.op = 1 then h.ty else 0, 0) := by rw [hkp.out _ (by omega)]; exact hrm
        obtain ⟨⟨⟨y, hy⟩, hsc2⟩, t, ht, hrt⟩ := rule_rt (pl := pl) hnp hsh.1 ho hi hsc1 (by rw [hx, List.length_append]; omega) e2
        refine ⟨⟨⟨x ++ y, by rw [hy, hx, List.append_assoc]⟩, hsc2⟩, fun j n hn => ?_, ⟨t, ht, hrt⟩, fun j hj => by rw [hbt.2 j (by omega)]; exact hkp.out j (by omega)⟩
        obtain ⟨t', h1, h2⟩ := hr1 j n hn
        have hjl : j < k.size := by have := (List.getElem?_eq_some_iff.1 hn).1; rwa [Fo.flat_length] at this
        exact ⟨t', by rw [hbt.2 _ (by omega)]; exact h1, by rw [hy]; exact h2.app⟩
    obtain ⟨⟨⟨x, hx⟩, hsc1⟩, hk1, ⟨t, ht, hrt⟩, hout⟩ := hmid
    have hkp := vis_kept _ _ _ _ _ e
    obtain ⟨⟨⟨y, hy⟩, hsc2⟩, hr2⟩ := ih2 (c + k.size + 1) ρ τ hsh.2.2 (fun j n hn => by rw [hout _ (by omega)]; exact hrr j n hn) hsc1 (by rw [hx, List.length_append]; omega) e
    refine ⟨⟨⟨x ++ y, by rw [hy, hx, List.append_assoc]⟩, hsc2⟩, fun j n hn => ?_⟩
    rcases flat_cases hn with ⟨hj, hn2⟩ | ⟨rfl, rfl⟩ | ⟨m, rfl, hn2⟩
    · obtain ⟨t', h1, h2⟩ := hk1 j n hn2
      exact ⟨t', by rw [hkp.out _ (by omega)]; exact h1, by rw [hy]; exact h2.app⟩
    · exact ⟨t, by rw [hkp.out _ (by omega)]; exact ht, by rw [hy]; exact hrt.app⟩
    · obtain ⟨t', h1, h2⟩ := hr2 m n hn2
      exact ⟨t', by rw [show c + (k.size + 1 + m) = c + k.size + 1 + m by omega]; exact h1, h2⟩
end
/-! globals, functions, main -/
theorem glob_ok {gs : List Gl} {fs : List Fn'} {V : Tok → Prop} (hv : ∀ g ∈ gs, GlV V g) : ∀ (l : List Gl) (i : Nat) (b : Int) (s G : Scp), (∀ j g, l[j]? = some g → gs[i + j]? = some g) → SpOk gs fs [] s → globM l i b s = .ok G →
    SpOk gs fs [] G ∧ (∀ g ∈ l, look s g.s = none) ∧ l.Pairwise (fun a b => a.s ≠ b.s) ∧ (∀ p ∈ s, p ∈ G) := by
  intro l
  induction l with
  | nil => intro i b s G _ hs e; simp only [globM] at e; cases e; exact ⟨hs, fun g hg => (by cases hg), List.Pairwise.nil, fun p hp => hp⟩
  | cons g l ih =>
    intro i b s G hg hs e
    simp only [globM] at e
    split at e
    · cases e
    rename_i h1
    split at e
    · cases e
    have hgi : gs[i]? = some g := hg 0 g rfl
    have hgv := hv g (List.mem_of_getElem? hgi)
    have hm : MgOk gs fs [] g.s (gMg g i) := by
      unfold gMg
      split
      · rename_i h0
        exact .inr (.inl ⟨rfl, ⟨i, g, rfl, hgi, h0, rfl⟩, by have := hgv.ty; have := hgv.ar; simp only; omega⟩)
      · rename_i h0
        exact .inr (.inr (.inl ⟨rfl, i, g, rfl, hgi, by have := hgv.n; omega, rfl, rfl⟩))
    obtain ⟨a1, a2, a3, a4⟩ := ih (i + 1) _ _ G (fun j x hx => by rw [show i + 1 + j = i + (j + 1) by omega]; exact hg (j + 1) x hx) (fun y hy => by
      rcases List.mem_cons.1 hy with rfl | hy
      · exact hm
      · exact hs y hy) e
    have hno : ∀ x ∈ l, x.s ≠ g.s ∧ look s x.s = none := fun x hx => by
      have h9 := a2 x hx
      unfold look at h9 ⊢
      rw [List.find?_cons] at h9
      by_cases he : g.s = x.s
      · simp [he] at h9
      · simp only [he, decide_false] at h9
        exact ⟨fun e => he e.symm, h9⟩
    refine ⟨a1, fun x hx => ?_, List.pairwise_cons.2 ⟨fun x hx => (hno x hx).1.symm, a3⟩, fun p hp => a4 p (by simp [hp])⟩
    rcases List.mem_cons.1 hx with rfl | hx
    · simpa using h1
    · exact (hno x hx).2
theorem fun_ok {gs : List Gl} {fs : List Fn'} : ∀ (l : List Fn') (i : Nat) (s G : Scp), (∀ j f, l[j]? = some f → fs[i + j]? = some f) → SpOk gs fs [] s → i ≤ 32 → funM l i s = .ok G → SpOk gs fs [] G ∧ i + l.length ≤ 32 := by
  intro l
  induction l with
  | nil => intro i s G _ hs hi e; simp only [funM] at e; cases e; exact ⟨hs, hi⟩
  | cons f l ih =>
    intro i s G hf hs hi e
    simp only [funM] at e
    split at e
    · cases e
    split at e
    · cases e
    split at e
    · cases e
    split at e
    · cases e
    have hfi : fs[i]? = some f := hf 0 f rfl
    obtain ⟨a1, a2⟩ := ih (i + 1) _ G (fun j x hx => by rw [show i + 1 + j = i + (j + 1) by omega]; exact hf (j + 1) x hx) (fun y hy => by
      rcases List.mem_cons.1 hy with rfl | hy
      · exact .inr (.inr (.inr ⟨rfl, i, f, rfl, hfi, rfl, rfl⟩))
      · exact hs y hy) (by omega) e
    exact ⟨a1, by simp only [List.length_cons]; omega⟩
theorem par_ok {gs : List Gl} {fs : List Fn'} : ∀ (ps : List Pm) (vs : List Int) (s : Scp), (∀ p ∈ ps, p.ty = 1 ∨ p.ty = 2) → SpOk gs fs vs s → SpOk gs fs (vs ++ ps.map (·.ty)) (parS ps vs s) := by
  intro ps
  induction ps with
  | nil => intro vs s _ hs; simpa [parS] using hs
  | cons p l ih =>
    intro vs s hp hs
    have h9 := ih (vs ++ [p.ty]) ((p.s, ⟨1, vs.length, p.ty⟩) :: s) (fun q hq => hp q (by simp [hq])) (fun y hy => by
      rcases List.mem_cons.1 hy with rfl | hy
      · exact .inl ⟨rfl, ⟨_, rfl, by simp⟩, hp p (by simp)⟩
      · exact (hs y hy).app)
    simp only [parS, List.map_cons]
    rw [List.append_assoc] at h9
    exact h9
/-- What is so of a function that was checked: its block stands at c.. -/
structure FnRt (gs : List Gl) (fs : List Fn') (tr : List (Int × Int)) (f : Fn') (vs : List Int) (h : Hd) (k : Fo) (c : Nat) : Prop where
  pre : ∃ x, vs = f.ps.map (·.ty) ++ x
  le : vs.length ≤ 64
  rt : RtF gs fs f.ps.length vs tr (.cons h k .nil) c
theorem bods_rt {gs : List Gl} {fs : List Fn'} {G : Scp} (hG : SpOk gs fs [] G) {V : Tok → Prop} : ∀ (l : List Fn') (F : Fo) (c : Nat) (a b : List (Int × Int)) (vs : List (List Int)), Bls V F → (∀ f ∈ l, FnV V f ∧ f.ps.length ≤ 8) → Raw a F c → l.length = F.len →
    bodsM (fs.map fun f => f.ps.length) G l F c a = .ok (b, vs) →
    vs.length = l.length ∧ ∀ (j : Nat) (f : Fn'), l[j]? = some f → ∃ (z : List Int) (h : Hd) (k : Fo) (d : Nat), vs[j]? = some z ∧ (F.roots c)[j]? = some (d + k.size) ∧ c ≤ d ∧ (∀ m n, ((Fo.cons h k .nil).flat d)[m]? = some n → (F.flat c)[d - c + m]? = some n) ∧ FnRt gs fs b f z h k d := by
  intro l
  induction l with
  | nil => intro F c a b vs _ _ _ _ e; simp only [bodsM] at e; cases e; exact ⟨rfl, fun j f hf => by simp at hf⟩
  | cons f l ih =>
    intro F c a b vs hB hf hraw hlen e
    cases F with
    | nil => simp [Fo.len] at hlen
    | cons h k r =>
      have hsh := hB.sh
      rw [bods_step] at e
      obtain ⟨x, e1, e⟩ := bind_ok_iff e
      obtain ⟨y, e2, e⟩ := bind_ok_iff e
      cases e
      unfold bodyM at e1
      obtain ⟨lb, -, e1⟩ := bind_ok_iff e1
      obtain ⟨τ, e3, e1⟩ := bind_ok_iff e1
      cases e1
      have hkp := vis_kept _ _ _ _ _ e3
      have e2' : bodsM (fs.map fun f => f.ps.length) G l r (c + k.size + 1) τ.tr = .ok (y.1, y.2) := e2
      have hkp2 := bods_kept _ _ _ _ _ _ _ _ e2' (fun _ _ => trivial)
      simp only at hkp
      have hps := par_ok (gs := gs) (fs := fs) f.ps [] [] (fun p hp => ((hf f (by simp)).1.ps p hp).1) (fun y hy => by cases hy)
      rw [List.nil_append] at hps
      obtain ⟨⟨⟨z, hz⟩, -⟩, hrt⟩ := vis_rt (gs := gs) (fs := fs) (pl := f.ps.length) (K := ⟨fs.map fun f => f.ps.length, f.ty, lb⟩) rfl k c _ τ hsh.2.1 (fun j n hn => hraw j n (flat_kid hn)) (fun s hs => by
        simp only [List.mem_cons, List.not_mem_nil, or_false] at hs
        rcases hs with rfl | rfl
        · have h9 := hG.app (x := f.ps.map (·.ty))
          rwa [List.nil_append] at h9
        · exact hps) (by simp) e3
      have hle := vis_vs _ (Nat.le_refl 64) k c _ τ (by have := (hf f (by simp)).2; simp only [List.length_map]; omega) e3
      have hroot : τ.tr[c + k.size]? = some (0, 0) := by
        rw [hkp.out _ (by omega), hraw _ _ flat_me, if_neg (by have := hB.1; simp only; omega)]
      obtain ⟨b1, b2⟩ := ih r (c + k.size + 1) τ.tr y.1 y.2 hB.2.2.2 (fun g hg => hf g (by simp [hg])) (fun j n hn => by
        rw [hkp.out _ (by omega), show c + k.size + 1 + j = c + (k.size + 1 + j) by omega]
        exact hraw _ _ (by rw [flat_rest]; exact hn)) (by simpa [Fo.len] using hlen) e2'
      refine ⟨by simp [b1], fun j g hj => ?_⟩
      cases j with
      | zero =>
        simp only [List.getElem?_cons_zero, Option.some.injEq] at hj
        subst hj
        refine ⟨τ.vs, h, k, c, rfl, rfl, Nat.le_refl _, fun m n hn => ?_, ⟨z, hz⟩, hle, fun m n hn => ?_⟩
        · rw [Nat.sub_self, Nat.zero_add]
          rcases flat_cases hn with ⟨_, hn2⟩ | ⟨rfl, rfl⟩ | ⟨m, rfl, hn2⟩
          · exact flat_kid hn2
          · exact flat_me
          · simp [Fo.flat] at hn2
        · rcases flat_cases hn with ⟨hm, hn2⟩ | ⟨rfl, rfl⟩ | ⟨m, rfl, hn2⟩
          · obtain ⟨t, h1, h2⟩ := hrt m n hn2
            exact ⟨t, by rw [hkp2.out _ (by omega)]; exact h1, h2⟩
          · refine ⟨(0, 0), by rw [hkp2.out _ (by omega)]; exact hroot, ?_⟩
            have ho := hB.1
            simp only
            exact ⟨fun o => by omega, fun o => by omega, fun o => by omega, fun o => by omega, fun o => by omega, fun o => by omega, fun _ => rfl, hsh.1.2.2⟩
          · simp [Fo.flat] at hn2
      | succ j =>
        rw [List.getElem?_cons_succ] at hj
        obtain ⟨z', h', k', d, c1, c2, c3, c4, c5⟩ := b2 j g hj
        refine ⟨z', h', k', d, by simpa using c1, by simpa [Fo.roots] using c2, by omega, fun m n hn => ?_, c5⟩
        rw [show d - c + m = k.size + 1 + (d - (c + k.size + 1) + m) by omega, flat_rest]
        exact c4 m n hn
/-- What is so of a program that was checked. -/
structure ChkRt (pg : Pg) (tr : List (Int × Int)) (vs : List (List Int)) : Prop where
  vn : vs.length = pg.f.length
  fn : ∀ (j : Nat) (f : Fn'), pg.f[j]? = some f → ∃ (z : List Int) (h : Hd) (k : Fo) (d : Nat), vs[j]? = some z ∧ f.b = d + k.size ∧ (∀ m n, ((Fo.cons h k .nil).flat d)[m]? = some n → (pg.t.flat 0)[d + m]? = some n) ∧ FnRt pg.g pg.f tr f z h k d
  gl : pg.g.Pairwise (fun a b => a.s ≠ b.s)
  mn : ∃ (j : Nat) (f : Fn'), pg.f[j]? = some f ∧ f.s = wMain' ∧ f.ty = 1 ∧ f.ps = []
  fl : pg.f.length ≤ 32
theorem check_right {pg : Pg} {K : Nat} {s : St} (hp : PgOk TkV K pg s) {tr : List (Int × Int)} {vs : List (List Int)} (h : checkM pg = .ok (tr, vs)) : ChkRt pg tr vs := by
  obtain ⟨s1, G, h1, h2, h3, h4⟩ := check_un h
  obtain ⟨a1, a2, a3, a4⟩ := glob_ok (gs := pg.g) (fs := pg.f) hp.gl pg.g 0 0 [] s1 (fun j g hg => by rwa [Nat.zero_add]) (fun y hy => by cases hy) h1
  obtain ⟨b1, b2⟩ := fun_ok (gs := pg.g) (fs := pg.f) pg.f 0 s1 G (fun j g hg => by rwa [Nat.zero_add]) a1 (by omega) h2
  have h8 := (fun_fn _ _ _ _ h2).1
  have hlen : pg.f.length = pg.t.len := by
    have h9 := congrArg List.length hp.rt
    rwa [List.length_map, Fo.roots_length] at h9
  obtain ⟨c1, c2⟩ := bods_rt (gs := pg.g) (fs := pg.f) b1 pg.f pg.t 0 _ _ _ hp.bl (fun f hf => ⟨hp.fn f hf, h8 f hf⟩) (fun j n hn => by rw [Nat.zero_add]; simp [tr0, hn]) hlen h3
  refine ⟨c1, fun j f hj => ?_, a3, ?_, by omega⟩
  · obtain ⟨z, h', k, d, d1, d2, d3, d4, d5⟩ := c2 j f hj
    refine ⟨z, h', k, d, d1, ?_, fun m n hn => by have := d4 m n hn; rwa [Nat.sub_zero] at this, d5⟩
    have h9 : (pg.f.map (·.b))[j]? = some (d + k.size) := by rw [hp.rt]; exact d2
    rw [List.getElem?_map, hj] at h9
    simpa using h9
  · unfold mainM at h4
    cases hl : look G wMain' with
    | none => rw [hl] at h4; cases h4
    | some m =>
      rw [hl] at h4
      simp only at h4
      split at h4
      · cases h4
      rename_i hso
      cases hf : pg.f[m.rf.toNat]? with
      | none => rw [hf] at h4; cases h4
      | some f =>
        rw [hf] at h4
        simp only at h4
        split at h4
        · cases h4
        rename_i hff
        have hso' : m.so = 4 := by omega
        obtain ⟨j, f', e1, e2, e3, e4⟩ := mg_fun (gs := pg.g) (fs := pg.f) (vs := []) (by rw [hso']; simp) (b1 _ (look_mem2 hl))
        rw [e1, Int.toNat_natCast, e2] at hf
        cases hf
        have h10 : f.ty = 1 ∧ f.ps = [] := by
          constructor
          · by_cases h0 : f.ty = 1
            · exact h0
            · exact absurd (.inl h0) hff
          · by_cases h0 : f.ps = []
            · exact h0
            · exact absurd (.inr h0) hff
        exact ⟨j, f, e2, e3, h10.1, h10.2⟩
end Go.Proofs.YtfaoiajhoifalaaGreatDoor
