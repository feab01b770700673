/-
  PLAIN MATHEMATICS of layer parse: the shape of what is read.
-/
import Derived.Test.YtfaoiajhoifalaaGreatDoorParn
namespace Go.Proofs.YtfaoiajhoifalaaGreatDoor
set_option linter.unusedVariables false
set_option linter.unusedSimpArgs false
set_option linter.unusedSectionVars false

/-- What may stand somewhere: an expression (its operands' depth, its least level), a statement (its depth; true: an else may stand behind it), a call (its arguments' depth is one greater than d). -/
inductive It where
  | e (d lv : Nat)
  | s (d : Nat) (cl : Bool)
  | c (d : Nat)

section
variable (V : Tok → Prop)
def Nm (x : List UInt8) : Prop := ∃ t, V t ∧ isNm t = true ∧ t.s = x
def okE (d lv : Nat) (h : Hd) : Prop :=
  (h.op = 1 ∧ d ≤ 40 ∧ (∃ t, V t ∧ t.k = 2 ∧ t.n = h.n ∧ h.ty = if t.s = [76] then 2 else 1) ∧ h.s = [] ∧ h.to = 0) ∨
  (h.op = 2 ∧ d ≤ 40 ∧ Nm V h.s ∧ h.n = 0 ∧ h.to = 0 ∧ h.ty = 0) ∨
  (h.op = 3 ∧ d ≤ 40 ∧ Nm V h.s ∧ h.n = 0 ∧ h.to = 0 ∧ h.ty = 0) ∨
  (h.op = 4 ∧ d ≤ 40 ∧ (h.s = [45] ∨ h.s = [126] ∨ h.s = [33]) ∧ h.n = 0 ∧ h.to = 0 ∧ h.ty = 0) ∨
  (h.op = 5 ∧ (lvl h.s < lv → d ≤ 40) ∧ 1 ≤ lvl h.s ∧ h.n = 0 ∧ h.to = 0 ∧ h.ty = 0) ∨
  (h.op = 6 ∧ d ≤ 40 ∧ h.s = [] ∧ h.n = 0 ∧ (h.to = 1 ∨ h.to = 2 ∨ h.to = 3) ∧ h.ty = 0) ∨
  (h.op = 7 ∧ d ≤ 40 ∧ Nm V h.s ∧ h.n = 0 ∧ h.to = 0 ∧ h.ty = 0) ∨
  (h.op = 8 ∧ d ≤ 40 ∧ h.s = [] ∧ h.n = 0 ∧ h.to = 0 ∧ h.ty = 0)
def kE (d lv : Nat) (h : Hd) : List It × Option It :=
  if h.op = 3 then ([.e (d + 1) 1], none)
  else if h.op = 4 then ([.e (d + 1) 11], none)
  else if h.op = 5 then (if lvl h.s < lv then [.e (d + 1) (lvl h.s), .e (d + 1) (lvl h.s + 1)] else [.e d (lvl h.s), .e d (lvl h.s + 1)], none)
  else if h.op = 6 then ([.e (d + 1) 11], none)
  else if h.op = 7 then ([], some (.e (d + 1) 1))
  else ([], none)
def okS (d : Nat) (cl : Bool) (h : Hd) (n : Nat) : Prop :=
  d ≤ 40 ∧ h.n = 0 ∧ h.ty = 0 ∧ (
  (h.op = 11 ∧ h.s = [] ∧ h.to = 0) ∨
  (h.op = 12 ∧ Nm V h.s ∧ (h.to = 1 ∨ h.to = 2)) ∨
  (h.op = 13 ∧ Nm V h.s ∧ h.to = 0) ∨
  (h.op = 14 ∧ Nm V h.s ∧ h.to = 0) ∨
  (h.op = 15 ∧ h.s = [] ∧ h.to = 0 ∧ (n = 3 ∨ n = 2 ∧ cl = false)) ∨
  (h.op = 16 ∧ h.s = [] ∧ h.to = 0) ∨
  (h.op = 17 ∧ Nm V h.s ∧ h.to = 0) ∨
  (h.op = 18 ∧ Nm V h.s ∧ h.to = 0) ∨
  (h.op = 19 ∧ h.s = [] ∧ h.to = 0 ∧ n ≤ 1) ∨
  (h.op = 20 ∧ h.s = [] ∧ h.to = 0) ∨
  (h.op = 21 ∧ h.s = [] ∧ h.to = 0))
def kS (d : Nat) (cl : Bool) (h : Hd) (n : Nat) : List It × Option It :=
  if h.op = 11 then ([], some (.s (d + 1) false))
  else if h.op = 12 then ([.e (d + 1) 1], none)
  else if h.op = 13 then ([.e (d + 1) 1], none)
  else if h.op = 14 then ([.e (d + 1) 1, .e (d + 1) 1], none)
  else if h.op = 15 then (if n = 3 then [.e (d + 1) 1, .s (d + 1) true, .s (d + 1) cl] else [.e (d + 1) 1, .s (d + 1) false], none)
  else if h.op = 16 then ([.e (d + 1) 1, .s (d + 1) cl], none)
  else if h.op = 18 then ([.s (d + 1) cl], none)
  else if h.op = 19 then (if n = 0 then [] else [.e (d + 1) 1], none)
  else if h.op = 20 then ([.e (d + 1) 1], none)
  else if h.op = 21 then ([.c d], none)
  else ([], none)
def okI : It → Hd → Nat → Prop
  | .e d lv, h, _ => okE V d lv h
  | .s d cl, h, n => okS V d cl h n
  | .c d, h, _ => h.op = 7 ∧ Nm V h.s ∧ h.n = 0 ∧ h.to = 0 ∧ h.ty = 0
def kI : It → Hd → Nat → List It × Option It
  | .e d lv, h, _ => kE d lv h
  | .s d cl, h, n => kS d cl h n
  | .c d, _, _ => ([], some (.e (d + 1) 1))
/-- Trees that are what the list says, and then any number of what stands behind it. -/
def Gr : List It → Option It → Fo → Prop
  | p, _, .nil => p = []
  | it :: p, st, .cons h k r => okI V it h k.len ∧ Gr (kI it h k.len).1 (kI it h k.len).2 k ∧ Gr p st r
  | [], some it, .cons h k r => okI V it h k.len ∧ Gr (kI it h k.len).1 (kI it h k.len).2 k ∧ Gr [] (some it) r
  | [], none, .cons _ _ _ => False

variable {V}
theorem Gr.app {x : Fo} : ∀ {p p' : List It} {st : Option It} {y : Fo}, Gr V p none x → Gr V p' st y → Gr V (p ++ p') st (x.app y) := by
  induction x with
  | nil => intro p p' st y h1 h2; cases p with
    | nil => simpa [Fo.app] using h2
    | cons a b => simp [Gr] at h1
  | cons h k r _ ih =>
    intro p p' st y h1 h2
    cases p with
    | nil => simp [Gr] at h1
    | cons it p =>
      simp only [Gr] at h1
      simp only [Fo.app, List.cons_append, Gr]
      exact ⟨h1.1, h1.2.1, ih h1.2.2 h2⟩
theorem Gr.one {it : It} {h : Hd} {k : Fo} (h1 : okI V it h k.len) (h2 : Gr V (kI it h k.len).1 (kI it h k.len).2 k) : Gr V [it] none (Fo.one h k) := ⟨h1, h2, rfl⟩
theorem Gr.star_nil {it : It} : Gr V [] (some it) .nil := rfl
theorem Gr.star_app {it : It} {x y : Fo} (h1 : Gr V [it] none x) (h2 : Gr V [] (some it) y) : Gr V [] (some it) (x.app y) := by
  cases x with
  | nil => simp [Gr] at h1
  | cons h k r =>
    simp only [Gr] at h1
    cases r with
    | nil => simp only [Fo.app, Gr]; exact ⟨h1.1, h1.2.1, h2⟩
    | cons _ _ _ => simp [Gr] at h1
theorem Gr.un {it : It} {x : Fo} (h1 : Gr V [it] none x) : ∃ h k, x = Fo.one h k ∧ okI V it h k.len ∧ Gr V (kI it h k.len).1 (kI it h k.len).2 k := by
  cases x with
  | nil => simp [Gr] at h1
  | cons h k r =>
    simp only [Gr] at h1
    cases r with
    | nil => exact ⟨h, k, rfl, h1.1, h1.2.1⟩
    | cons _ _ _ => simp [Gr] at h1
theorem Gr.len {x : Fo} : ∀ {p : List It}, Gr V p none x → x.len = p.length := by
  induction x with
  | nil => intro p h; simp [Gr] at h; simp [h, Fo.len]
  | cons h k r _ ih =>
    intro p h1
    cases p with
    | nil => simp [Gr] at h1
    | cons it p => simp only [Gr] at h1; simp only [Fo.len, List.length_cons, ih h1.2.2]
theorem lvl_le (x : List UInt8) : lvl x ≤ 10 := by
  unfold lvl
  repeat (split; omega)
  omega

/-- Nearer to the ground, and looser, is no worse. -/
theorem Gr.mono {x : Fo} : ∀ {d d' lv lv' : Nat}, d' ≤ d → lv' ≤ lv → Gr V [.e d lv] none x → Gr V [.e d' lv'] none x := by
  have key : ∀ x : Fo, (∀ {d d' lv lv' : Nat}, d' ≤ d → lv' ≤ lv → Gr V [.e d lv] none x → Gr V [.e d' lv'] none x) ∧
      (∀ {d d' lv lv' l2 l2' : Nat}, d' ≤ d → lv' ≤ lv → l2' ≤ l2 → Gr V [.e d lv, .e d l2] none x → Gr V [.e d' lv', .e d' l2'] none x) ∧
      (∀ {d d' lv lv' : Nat}, d' ≤ d → lv' ≤ lv → Gr V [] (some (.e d lv)) x → Gr V [] (some (.e d' lv')) x) := by
    intro x
    induction x with
    | nil => exact ⟨fun _ _ h => by simp [Gr] at h, fun _ _ _ h => by simp [Gr] at h, fun _ _ _ => rfl⟩
    | cons h k r ihk ihr =>
      have hd : ∀ {d d' lv lv' : Nat}, d' ≤ d → lv' ≤ lv → okE V d lv h → okE V d' lv' h := by
        intro d d' lv lv' hd hl ho
        unfold okE at ho ⊢
        have t : d ≤ 40 → d' ≤ 40 := by omega
        rcases ho with ⟨a, b, c⟩ | ⟨a, b, c⟩ | ⟨a, b, c⟩ | ⟨a, b, c⟩ | ⟨a, b, c⟩ | ⟨a, b, c⟩ | ⟨a, b, c⟩ | ⟨a, b, c⟩
        · exact .inl ⟨a, t b, c⟩
        · exact .inr (.inl ⟨a, t b, c⟩)
        · exact .inr (.inr (.inl ⟨a, t b, c⟩))
        · exact .inr (.inr (.inr (.inl ⟨a, t b, c⟩)))
        · exact .inr (.inr (.inr (.inr (.inl ⟨a, fun h' => t (b (by omega)), c⟩))))
        · exact .inr (.inr (.inr (.inr (.inr (.inl ⟨a, t b, c⟩)))))
        · exact .inr (.inr (.inr (.inr (.inr (.inr (.inl ⟨a, t b, c⟩))))))
        · exact .inr (.inr (.inr (.inr (.inr (.inr (.inr ⟨a, t b, c⟩))))))
      have kd : ∀ {d d' lv lv' : Nat}, d' ≤ d → lv' ≤ lv → Gr V (kE d lv h).1 (kE d lv h).2 k → Gr V (kE d' lv' h).1 (kE d' lv' h).2 k := by
        intro d d' lv lv' hd hl hk
        unfold kE at hk ⊢
        split
        · rw [if_pos (by assumption)] at hk; exact ihk.1 (by omega) (Nat.le_refl _) hk
        rw [if_neg (by assumption)] at hk
        split
        · rw [if_pos (by assumption)] at hk; exact ihk.1 (by omega) (Nat.le_refl _) hk
        rw [if_neg (by assumption)] at hk
        split
        · rw [if_pos (by assumption)] at hk
          by_cases h1 : lvl h.s < lv
          · simp only [h1, if_true] at hk
            split
            · exact ihk.2.1 (by omega) (Nat.le_refl _) (Nat.le_refl _) hk
            · exact ihk.2.1 (by omega) (Nat.le_refl _) (Nat.le_refl _) hk
          · simp only [h1, if_false] at hk
            rw [if_neg (by omega)]
            exact ihk.2.1 hd (Nat.le_refl _) (Nat.le_refl _) hk
        rw [if_neg (by assumption)] at hk
        split
        · rw [if_pos (by assumption)] at hk; exact ihk.1 (by omega) (Nat.le_refl _) hk
        rw [if_neg (by assumption)] at hk
        split
        · rw [if_pos (by assumption)] at hk; exact ihk.2.2 (by omega) (Nat.le_refl _) hk
        · rw [if_neg (by assumption)] at hk; exact hk
      refine ⟨fun a b h1 => ?_, fun a b c h1 => ?_, fun a b h1 => ?_⟩
      · simp only [Gr, okI, kI] at h1 ⊢
        exact ⟨hd a b h1.1, kd a b h1.2.1, h1.2.2⟩
      · simp only [Gr, okI, kI] at h1 ⊢
        exact ⟨hd a b h1.1, kd a b h1.2.1, by simpa [Gr, okI, kI] using ihr.1 a c (by simpa [Gr, okI, kI] using h1.2.2)⟩
      · simp only [Gr, okI, kI] at h1 ⊢
        exact ⟨hd a b h1.1, kd a b h1.2.1, ihr.2.2 a b h1.2.2⟩
  exact fun {d d' lv lv'} a b c => (key x).1 a b c
theorem Gr.paren {x : Fo} {d lv : Nat} (hd : d ≤ 40) (h : Gr V [.e (d + 1) 1] none x) : Gr V [.e d lv] none x := by
  cases x with
  | nil => simp [Gr] at h
  | cons hh k r =>
    by_cases hop : hh.op = 5
    · simp only [Gr, okI, kI, okE, kE, hop] at h ⊢
      simp at h ⊢
      obtain ⟨⟨h1, h2, h3⟩, h4, h5⟩ := h
      have : ¬ lvl hh.s < 1 := by omega
      rw [if_neg (by omega)] at h4
      refine ⟨⟨fun _ => hd, h2, h3⟩, ?_, h5⟩
      split
      · exact h4
      · have := Gr.mono (V := V) (x := .cons hh k .nil) (d := d + 1) (d' := d) (lv := 1) (lv' := 1) (by omega) (Nat.le_refl _) (by simp [Gr, okI, kI, okE, kE, hop]; exact ⟨⟨by omega, h2, h3⟩, by rw [if_neg (by omega)]; exact h4⟩)
        simp only [Gr, okI, kI, kE, hop] at this
        simp at this
        have h6 := this.2
        rw [if_neg (by omega)] at h6
        exact h6
    · have h1 := Gr.mono (d' := d) (lv' := 1) (by omega) (Nat.le_refl _) h
      simp only [Gr, okI, kI, okE, kE, hop] at h1 ⊢
      simpa using h1
end
end Go.Proofs.YtfaoiajhoifalaaGreatDoor
