/-
  PLAIN MATHEMATICS of layer parse: the reader always comes to its end.
-/
import Derived.Test.YtfaoiajhoifalaaGreatDoorParm
namespace Go.Proofs.YtfaoiajhoifalaaGreatDoor
set_option linter.unusedVariables false
set_option linter.unusedSimpArgs false
set_option linter.unusedSectionVars false

/-- What holds of a reader's answer. -/
def Rs.Sat {α : Type} (O : Prop) (E : Int → Int → Prop) (P : α → St → Prop) : Rs α → Prop
  | .ok a s => P a s
  | .er n p => E n p
  | .out => O
theorem Rs.Sat.bind {α β : Type} {O : Prop} {E : Int → Int → Prop} {P : α → St → Prop} {Q : β → St → Prop} {r : Rs α} {f : α → St → Rs β}
    (h : r.Sat O E P) (hf : ∀ a s, P a s → (f a s).Sat O E Q) : (r.bind f).Sat O E Q := by
  cases r with
  | ok a s => exact hf a s h
  | er n p => exact h
  | out => exact h
theorem Rs.Sat.mono {α : Type} {O : Prop} {E : Int → Int → Prop} {P Q : α → St → Prop} {r : Rs α} (h : r.Sat O E P) (hf : ∀ a s, P a s → Q a s) : r.Sat O E Q := by
  cases r with
  | ok a s => exact hf a s h
  | er n p => exact h
  | out => exact h

/-- The reader ends, and n tokens at least are read. -/
def Ends {α : Type} (n : Nat) (s : St) (r : Rs α) : Prop := r.Sat False (fun _ _ => True) (fun _ s' => s'.l.length + n ≤ s.l.length)
theorem Ends.bind {α β : Type} {n m : Nat} {s : St} {r : Rs α} {f : α → St → Rs β} (h : Ends n s r) (hf : ∀ a s', s'.l.length + n ≤ s.l.length → Ends m s' (f a s')) : Ends (n + m) s (r.bind f) :=
  Rs.Sat.bind h fun a s' hs => (hf a s' hs).mono fun b s2 h2 => by omega
theorem Ends.le {α : Type} {n m : Nat} {s : St} {r : Rs α} (h : Ends n s r) (hm : m ≤ n) : Ends m s r := h.mono fun a s' h' => by omega
theorem Ends.of {α : Type} {n : Nat} {s s0 : St} {r : Rs α} (h : Ends n s r) (m : Nat) (hm : s.l.length + m ≤ s0.l.length + n) : Ends m s0 r := h.mono fun a s' h' => by omega
theorem Ends.ok {α : Type} (a : α) (s : St) : Ends 0 s (Rs.ok a s) := Nat.le_refl _
theorem Ends.err {α : Type} (n : Nat) (s : St) (no p : Int) : Ends n s (Rs.er no p : Rs α) := trivial

theorem q_end {e : Tok} (he : e.k = 4) : q e = [] := by simp [q, he]
theorem nm_end {e : Tok} (he : e.k = 4) : isNm e = false := by simp [isNm, he]
theorem nx_len {e : Tok} {s : St} (h : pk e s ≠ e ∨ s.l ≠ []) : s.nx.l.length + 1 ≤ s.l.length := by
  cases hl : s.l with
  | nil => simp [pk, hl] at h
  | cons t l => simp [St.nx, hl]

section
variable {e : Tok} (he : e.k = 4)
include he
theorem ne_of_q {s : St} (h : q (pk e s) ≠ []) : s.nx.l.length + 1 ≤ s.l.length := nx_len (e := e) (.inl fun h' => h (by rw [h']; exact q_end he))
theorem must_ends {x : List UInt8} (hx : x ≠ []) (s : St) : Ends 1 s (must e x s) := by
  unfold must
  split
  · rename_i h
    exact ne_of_q he (by simp [isT] at h; rw [h]; exact hx)
  · trivial
theorem name_ends (s : St) : Ends 1 s (nameM e s) := by
  unfold nameM
  split
  · rename_i h
    exact nx_len (e := e) (.inl fun h' => by rw [h', nm_end he] at h; cases h)
  · trivial
theorem typed_ends (ks : List Int) (s : St) : Ends 1 s (typedM e ks s) := by
  unfold typedM
  split
  · rename_i k h
    split
    · refine ne_of_q he fun h' => ?_
      rw [h'] at h
      simp [typeNo, wVoid, wInt, wLong, wChar] at h
    · trivial
  · trivial
theorem add_ends (h : Hd) (k : Fo) (s : St) : Ends 0 s (addM h k s) := by
  unfold addM
  split
  · trivial
  · exact Nat.le_refl _
theorem enter_ends (d : Nat) (s : St) : Ends 0 s (enterM e d s) := by
  unfold enterM
  split
  · trivial
  · exact Nat.le_refl _

def rank : Md → Nat
  | .bin .. => 2
  | .loop .. => 1
  | .opd _ => 1
  | .args _ => 3
  | .stm _ => 1
  | .blk _ => 2
def least : Md → Nat
  | .loop .. => 0
  | _ => 1

def lstM : Md → Nat
  | .bin _ l => l
  | .loop _ l _ => l
  | _ => 1

variable {r : Md → St → Rs Fo} {n : Nat} (hr : ∀ m s, rank m + 4 * s.l.length ≤ n → 1 ≤ lstM m → Ends (least m) s (r m s))
include hr
theorem binB_ends (d l : Nat) (hl : 1 ≤ l) (s : St) (h : 2 + 4 * s.l.length ≤ n + 1) : Ends 1 s (binB r d l s) :=
  (hr (.opd d) s (by simp only [rank]; omega) (by first | exact Nat.le_refl 1 | exact Nat.succ_pos _ | exact hl)).bind (m := 0) fun a s1 h1 => (hr (.loop d l a) s1 (by simp only [rank, least] at *; omega) (by first | exact Nat.le_refl 1 | exact Nat.succ_pos _ | exact hl))
theorem loopB_ends (d l : Nat) (x : Fo) (hl : 1 ≤ l) (s : St) (h : 1 + 4 * s.l.length ≤ n + 1) : Ends 0 s (loopB e r d l x s) := by
  unfold loopB
  split
  · exact .ok _ _
  · rename_i hlt
    have hn := ne_of_q he (s := s) (fun h' => hlt (by rw [h']; simp [lvl]; omega))
    refine Ends.of (n := 1) (s := s.nx) ?_ 0 (by omega)
    exact (hr (.bin d _) s.nx (by simp only [rank]; omega) (by first | exact Nat.le_refl 1 | exact Nat.succ_pos _ | exact hl)).bind (m := 0) fun a s1 h1 => (add_ends he _ _ _).bind (m := 0) fun a s2 h2 => (hr (.loop d l a) s2 (by simp only [rank, least] at *; omega) (by first | exact Nat.le_refl 1 | exact Nat.succ_pos _ | exact hl))
theorem callB_ends (f : Tok) (d : Nat) (s : St) (h : 4 * s.l.length ≤ n) : Ends 2 s (callB e r f d s) := by
  refine (must_ends he (by simp) s).bind (m := 1) fun _ s1 h1 => ?_
  refine Ends.bind (n := 0) (m := 1) ?_ fun a s2 h2 => (must_ends he (by simp) s2).bind (m := 0) fun _ s3 h3 => add_ends he _ _ _
  split
  · exact .ok _ _
  · exact (hr (.args d) s1 (by simp only [rank]; omega) (by first | exact Nat.le_refl 1 | exact Nat.succ_pos _ | exact hl)).le (by simp [least])
theorem elemB_ends (f : Tok) (d : Nat) (s : St) (h : 4 * s.l.length ≤ n) : Ends 1 s (elemB e r f d s) :=
  Ends.le ((must_ends he (by simp) s).bind (m := 2) fun _ s1 h1 => (hr (.bin d 1) s1 (by simp only [rank]; omega) (by first | exact Nat.le_refl 1 | exact Nat.succ_pos _ | exact hl)).bind (m := 1) fun a s2 h2 => (must_ends he (by simp) s2).bind (m := 0) fun _ s3 h3 => add_ends he _ _ _) (by omega)
theorem varB_ends (d : Nat) (s : St) (h : 4 * s.l.length ≤ n + 4) : Ends 1 s (varB e r d s) := by
  refine (name_ends he s).bind (m := 0) fun t s1 h1 => ?_
  split
  · exact (callB_ends he hr _ _ _ (by omega)).le (by omega)
  · split
    · exact (elemB_ends he hr _ _ _ (by omega)).le (by omega)
    · exact add_ends he _ _ _
theorem encE_ends (d : Nat) (s : St) (h : 4 * s.l.length + 2 ≤ n) : Ends 2 s (encE e r d s) :=
  (hr (.bin (d + 1) 1) s (by simp only [rank]; omega) (by first | exact Nat.le_refl 1 | exact Nat.succ_pos _ | exact hl)).bind (m := 1) fun a s2 h2 => (must_ends he (by simp) s2).bind (m := 0) fun _ s3 h3 => .ok _ _
theorem encB_ends (d : Nat) (s : St) (h : 1 + 4 * s.l.length ≤ n + 1) (hq : s.nx.l.length + 1 ≤ s.l.length) : Ends 1 s (encB e r d s) := by
  unfold encB
  have hE : Ends 1 s (encE e r d s.nx) := (encE_ends he hr d s.nx (by omega)).of 1 (by omega)
  split
  · split
    · exact hE
    · rename_i k hk hk0
      refine Ends.of (n := 2) (s := s.nx.nx) ?_ 1 (by simp [St.nx] at *; omega)
      have h3 : s.nx.nx.l.length ≤ s.nx.l.length := by simp [St.nx]
      exact (must_ends he (by simp) _).bind (m := 1) fun _ s1 h1 => (hr (.opd (d + 1)) s1 (by simp only [rank]; omega) (by first | exact Nat.le_refl 1 | exact Nat.succ_pos _ | exact hl)).bind (m := 0) fun a s2 h2 => add_ends he _ _ _
  · exact hE
theorem opdB_ends (d : Nat) (s : St) (h : 1 + 4 * s.l.length ≤ n + 1) : Ends 1 s (opdB e r d s) := by
  refine Ends.le ((enter_ends he d s).bind (m := 1) fun _ s1 h1 => ?_) (by omega)
  split
  · rename_i h2
    have hn := nx_len (e := e) (s := s1) (.inl fun h' => by rw [h', he] at h2; cases h2)
    exact (add_ends he _ _ _).of 1 (by omega)
  · split
    · exact varB_ends he hr d s1 (by omega)
    · split
      · rename_i hq
        have hn := ne_of_q he (s := s1) (fun h' => by rw [h'] at hq; simp at hq)
        exact ((hr (.opd (d + 1)) s1.nx (by simp only [rank]; omega) (by first | exact Nat.le_refl 1 | exact Nat.succ_pos _ | exact hl)).bind (m := 0) fun a s2 h2 => add_ends he _ _ _).of 1 (by simp only [least]; omega)
      · split
        · rename_i hq
          have hn := ne_of_q he (s := s1) (fun h' => by rw [h'] at hq; simp at hq)
          exact encB_ends he hr d s1 (by omega) hn
        · split
          · exact Ends.le ((must_ends he (by simp [wIn]) s1).bind (m := 2) fun _ s2 h2 => (must_ends he (by simp) s2).bind (m := 1) fun _ s3 h3 => (must_ends he (by simp) s3).bind (m := 0) fun _ s4 h4 => add_ends he _ _ _) (by omega)
          · trivial
theorem argsB_ends (d : Nat) (s : St) (h : 3 + 4 * s.l.length ≤ n + 1) : Ends 1 s (argsB e r d s) := by
  refine (hr (.bin d 1) s (by simp only [rank]; omega) (by first | exact Nat.le_refl 1 | exact Nat.succ_pos _ | exact hl)).bind (m := 0) fun a s1 h1 => ?_
  simp only [least] at h1
  split
  · rename_i hq
    have hn := ne_of_q he (s := s1) (fun h' => by simp [isT, h'] at hq)
    exact ((hr (.args d) s1.nx (by simp only [rank]; omega) (by first | exact Nat.le_refl 1 | exact Nat.succ_pos _ | exact hl)).bind (m := 0) fun a s2 h2 => .ok _ _).of 0 (by simp only [least]; omega)
  · exact .ok _ _
theorem blkB_ends (d : Nat) (s : St) (h : 2 + 4 * s.l.length ≤ n + 1) : Ends 1 s (blkB e r d s) := by
  unfold blkB
  split
  · rename_i hq
    have hn := ne_of_q he (s := s) (fun h' => by simp [isT, h'] at hq)
    exact hn
  · exact Ends.le ((hr (.stm (d + 1)) s (by simp only [rank]; omega) (by first | exact Nat.le_refl 1 | exact Nat.succ_pos _ | exact hl)).bind (m := 1) fun a s1 h1 => (hr (.blk d) s1 (by simp only [rank, least] at *; omega) (by first | exact Nat.le_refl 1 | exact Nat.succ_pos _ | exact hl)).bind (m := 0) fun b s2 h2 => .ok _ _) (by simp only [least]; omega)
theorem blockB_ends (d : Nat) (s : St) (h : 4 * s.l.length ≤ n + 2) : Ends 1 s (blockB e r d s) :=
  Ends.le ((must_ends he (by simp) s).bind (m := 1) fun _ s1 h1 => (hr (.blk d) s1 (by simp only [rank]; omega) (by first | exact Nat.le_refl 1 | exact Nat.succ_pos _ | exact hl)).bind (m := 0) fun a s2 h2 => add_ends he _ _ _) (by omega)
theorem localB_ends (d : Nat) (s : St) (h : 4 * s.l.length ≤ n) : Ends 1 s (localB e r d s) :=
  Ends.le ((typed_ends he _ s).bind (m := 4) fun _ s1 h1 => (name_ends he s1).bind (m := 3) fun _ s2 h2 => (must_ends he (by simp) s2).bind (m := 2) fun _ s3 h3 => (hr (.bin (d + 1) 1) s3 (by simp only [rank]; omega) (by first | exact Nat.le_refl 1 | exact Nat.succ_pos _ | exact hl)).bind (m := 1) fun a s4 h4 => (must_ends he (by simp) s4).bind (m := 0) fun _ s5 h5 => add_ends he _ _ _) (by omega)
theorem guardB_ends (d : Nat) (s : St) (h : 4 * s.l.length ≤ n) : Ends 1 s (guardB e r d s) :=
  Ends.le ((must_ends he (by simp) s).bind (m := 3) fun _ s1 h1 => (hr (.bin (d + 1) 1) s1 (by simp only [rank]; omega) (by first | exact Nat.le_refl 1 | exact Nat.succ_pos _ | exact hl)).bind (m := 2) fun a s2 h2 => (must_ends he (by simp) s2).bind (m := 1) fun _ s3 h3 => (hr (.stm (d + 1)) s3 (by simp only [rank, least] at *; omega) (by first | exact Nat.le_refl 1 | exact Nat.succ_pos _ | exact hl)).bind (m := 0) fun b s4 h4 => .ok _ _) (by omega)
theorem ifB_ends (d : Nat) (s : St) (h : 4 * s.l.length ≤ n) : Ends 0 s (ifB e r d s) := by
  have h0 : s.nx.l.length ≤ s.l.length := by simp [St.nx]
  refine Ends.of (n := 1) (s := s.nx) ((guardB_ends he hr d s.nx (by omega)).bind (m := 0) fun a s1 h1 => ?_) 0 (by omega)
  split
  · have h3 : s1.nx.l.length ≤ s1.l.length := by simp [St.nx]
    exact ((hr (.stm (d + 1)) s1.nx (by simp only [rank]; omega) (by first | exact Nat.le_refl 1 | exact Nat.succ_pos _ | exact hl)).bind (m := 0) fun a s2 h2 => add_ends he _ _ _).of 0 (by omega)
  · exact add_ends he _ _ _
theorem storeB_ends (d : Nat) (s : St) (h : 4 * s.l.length ≤ n) : Ends 1 s (storeB e r d s) :=
  Ends.le ((must_ends he (by simp) s).bind (m := 5) fun _ s1 h1 => (hr (.bin (d + 1) 1) s1 (by simp only [rank]; omega) (by first | exact Nat.le_refl 1 | exact Nat.succ_pos _ | exact hl)).bind (m := 4) fun a s2 h2 => (must_ends he (by simp) s2).bind (m := 3) fun _ s3 h3 => (must_ends he (by simp) s3).bind (m := 2) fun _ s4 h4 => (hr (.bin (d + 1) 1) s4 (by simp only [rank, least] at *; omega) (by first | exact Nat.le_refl 1 | exact Nat.succ_pos _ | exact hl)).bind (m := 1) fun b s5 h5 => (must_ends he (by simp) s5).bind (m := 0) fun _ s6 h6 => .ok _ _) (by omega)
theorem namedB_ends (d : Nat) (s : St) (h : 4 * s.l.length ≤ n + 4) : Ends 1 s (namedB e r d s) := by
  refine (name_ends he s).bind (m := 0) fun t s1 h1 => ?_
  have h3 : s1.nx.l.length ≤ s1.l.length := by simp [St.nx]
  split
  · rename_i hq
    have hn := ne_of_q he (s := s1) (fun h' => by rw [h'] at hq; simp at hq)
    exact ((hr (.bin (d + 1) 1) s1.nx (by simp only [rank]; omega) (by first | exact Nat.le_refl 1 | exact Nat.succ_pos _ | exact hl)).bind (m := 1) fun a s2 h2 => (must_ends he (by simp) s2).bind (m := 0) fun _ s3 h3 => add_ends he _ _ _).of 0 (by simp only [least]; omega)
  · split
    · exact Ends.le ((storeB_ends he hr d s1 (by omega)).bind (m := 0) fun a s2 h2 => add_ends he _ _ _) (by omega)
    · split
      · exact Ends.le ((callB_ends he hr t (d + 1) s1 (by omega)).bind (m := 1) fun a s2 h2 => (must_ends he (by simp) s2).bind (m := 0) fun _ s3 h3 => add_ends he _ _ _) (by omega)
      · split
        · rename_i hq
          have hn := ne_of_q he (s := s1) (fun h' => by rw [h'] at hq; simp at hq)
          exact ((hr (.stm (d + 1)) s1.nx (by simp only [rank]; omega) (by first | exact Nat.le_refl 1 | exact Nat.succ_pos _ | exact hl)).bind (m := 0) fun a s2 h2 => add_ends he _ _ _).of 0 (by simp only [least]; omega)
        · trivial
theorem stmB_ends (d : Nat) (s : St) (h : 1 + 4 * s.l.length ≤ n + 1) : Ends 1 s (stmB e r d s) := by
  refine Ends.le ((enter_ends he d s).bind (m := 1) fun _ s1 h1 => ?_) (by omega)
  have h3 : s1.nx.l.length ≤ s1.l.length := by simp [St.nx]
  split
  · exact namedB_ends he hr d s1 (by omega)
  split
  · exact blockB_ends he hr d s1 (by omega)
  split
  · exact localB_ends he hr d s1 (by omega)
  split
  · exact localB_ends he hr d s1 (by omega)
  split
  · rename_i hq
    have hn := ne_of_q he (s := s1) (fun h' => by rw [h'] at hq; simp [wIf] at hq)
    have h0 := guardB_ends he hr d s1.nx (by omega)
    refine Ends.of (n := 1) (s := s1.nx) (h0.bind (m := 0) fun a s2 h2 => ?_) 1 (by omega)
    split
    · have h3 : s2.nx.l.length ≤ s2.l.length := by simp [St.nx]
      exact ((hr (.stm (d + 1)) s2.nx (by simp only [rank]; omega) (by first | exact Nat.le_refl 1 | exact Nat.succ_pos _ | exact hl)).bind (m := 0) fun a s2 h2 => add_ends he _ _ _).of 0 (by omega)
    · exact add_ends he _ _ _
  split
  · rename_i hq
    have hn := ne_of_q he (s := s1) (fun h' => by rw [h'] at hq; simp [wWhile] at hq)
    exact ((guardB_ends he hr d s1.nx (by omega)).bind (m := 0) fun a s2 h2 => add_ends he _ _ _).of 1 (by omega)
  split
  · rename_i hq
    have hn := ne_of_q he (s := s1) (fun h' => by rw [h'] at hq; simp [wGoto] at hq)
    exact ((name_ends he s1.nx).bind (m := 1) fun t s2 h2 => (must_ends he (by simp) s2).bind (m := 0) fun _ s3 h3 => add_ends he _ _ _).of 1 (by omega)
  split
  · rename_i hq
    have hn := ne_of_q he (s := s1) (fun h' => by rw [h'] at hq; simp [wReturn] at hq)
    refine Ends.of (n := 1) (s := s1.nx) (Ends.bind (n := 0) (m := 1) ?_ fun a s2 h2 => (must_ends he (by simp) s2).bind (m := 0) fun _ s3 h3 => add_ends he _ _ _) 1 (by omega)
    split
    · exact .ok _ _
    · exact (hr (.bin (d + 1) 1) s1.nx (by simp only [rank]; omega) (by first | exact Nat.le_refl 1 | exact Nat.succ_pos _ | exact hl)).le (by omega)
  split
  · rename_i hq
    have hn := ne_of_q he (s := s1) (fun h' => by rw [h'] at hq; simp [wOut] at hq)
    exact ((must_ends he (by simp) s1.nx).bind (m := 3) fun _ s2 h2 => (hr (.bin (d + 1) 1) s2 (by simp only [rank]; omega) (by first | exact Nat.le_refl 1 | exact Nat.succ_pos _ | exact hl)).bind (m := 2) fun a s3 h3 => (must_ends he (by simp) s3).bind (m := 1) fun _ s4 h4 => (must_ends he (by simp) s4).bind (m := 0) fun _ s5 h5 => add_ends he _ _ _).of 1 (by omega)
  · trivial
end

section
variable {e : Tok} (he : e.k = 4)
include he
theorem run_ends : ∀ n m s, rank m + 4 * s.l.length ≤ n → 1 ≤ lstM m → Ends (least m) s (run e n m s) := by
  intro n
  induction n with
  | zero => intro m s h _; cases m <;> simp [rank] at h
  | succ n ih =>
    intro m s h hl
    cases m with
    | bin d l => exact binB_ends he ih d l hl s h
    | loop d l x => exact loopB_ends he ih d l x hl s h
    | opd d => exact opdB_ends he ih d s h
    | args d => exact argsB_ends he ih d s h
    | stm d => exact stmB_ends he ih d s h
    | blk d => exact blkB_ends he ih d s h

theorem param_ends (s : St) : Ends 1 s (paramM e s) :=
  Ends.le ((typed_ends he _ s).bind (m := 1) fun _ s1 h1 => (name_ends he s1).bind (m := 0) fun _ s2 h2 => .ok _ _) (by omega)
theorem more_ends : ∀ n l s, s.l.length + 1 ≤ n → Ends 0 s (moreM e n l s) := by
  intro n
  induction n with
  | zero => intro l s h; omega
  | succ n ih =>
    intro l s h
    unfold moreM
    split
    · rename_i hq
      have hn := ne_of_q he (s := s) (fun h' => by simp [isT, h'] at hq)
      exact ((param_ends he s.nx).bind (m := 0) fun p s1 h1 => ih _ _ (by omega)).of 0 (by omega)
    · exact .ok _ _
theorem size_ends (s : St) : Ends 1 s (sizeM e s) := by
  unfold sizeM
  split
  · trivial
  · rename_i h2
    have hn := nx_len (e := e) (s := s) (.inl fun h' => by rw [h', he] at h2; simp at h2)
    split
    · trivial
    · exact hn
theorem global_ends (k : Int) (t : Tok) (s : St) : Ends 1 s (globalM e k t s) := by
  unfold globalM
  split
  · exact Ends.le ((must_ends he (by simp) s).bind (m := 3) fun _ s1 h1 => (size_ends he s1).bind (m := 2) fun _ s2 h2 => (must_ends he (by simp) s2).bind (m := 1) fun _ s3 h3 => (must_ends he (by simp) s3).bind (m := 0) fun _ s4 h4 => .ok _ _) (by omega)
  · exact (must_ends he (by simp) s).bind (m := 0) fun _ s1 h1 => .ok _ _
theorem function_ends (n : Nat) (k : Int) (t : Tok) (s : St) (h : 4 * s.l.length + 8 ≤ n) : Ends 1 s (functionM e n k t s) := by
  refine Ends.le ((must_ends he (by simp) s).bind (m := 2) fun _ s1 h1 => Ends.bind (n := 0) (m := 2) ?_ fun ps s2 h2 => (must_ends he (by simp) s2).bind (m := 1) fun _ s3 h3 =>
    (blockB_ends he (run_ends he n) 1 s3 (by omega)).bind (m := 0) fun b s4 h4 => .ok _ _) (by omega)
  split
  · exact .ok _ _
  · exact Ends.le ((param_ends he s1).bind (m := 0) fun p s2 h2 => more_ends he n _ _ (by omega)) (by omega)
theorem item_ends (n : Nat) (p : Pg) (s : St) (h : 4 * s.l.length + 4 ≤ n) : Ends 1 s (itemM e n p s) := by
  refine Ends.le ((typed_ends he _ s).bind (m := 2) fun k s1 h1 => (name_ends he s1).bind (m := 1) fun t s2 h2 => ?_) (by omega)
  split
  · exact (function_ends he n k t s2 (by omega)).bind (m := 0) fun x s3 h3 => .ok _ _
  · exact (global_ends he k t s2).bind (m := 0) fun x s3 h3 => .ok _ _
theorem prog_ends : ∀ n p s, 4 * s.l.length + 5 ≤ n → Ends 0 s (progM e n p s) := by
  intro n
  induction n with
  | zero => intro p s h; omega
  | succ n ih =>
    intro p s h
    unfold progM
    split
    · exact .ok _ _
    · exact Ends.le ((item_ends he n p s (by omega)).bind (m := 0) fun p' s1 h1 => ih _ _ (by omega)) (by omega)
end
theorem endT_k (l : List Tok) : (endT l).k = 4 := by
  unfold endT
  cases h : l.find? fun t => decide (t.k = 4) with
  | none => rfl
  | some t => simpa using List.find?_some h
theorem parse_ends (l : List Tok) : parseL l ≠ .out := by
  have hl : (relT l).length ≤ l.length := (List.takeWhile_sublist _).length_le
  have h := prog_ends (endT_k l) (fuelT l) ⟨[], [], .nil⟩ ⟨relT l, 0⟩ (by simp only [fuelT]; omega)
  intro h'
  rw [show progM (endT l) (fuelT l) ⟨[], [], .nil⟩ ⟨relT l, 0⟩ = .out from h'] at h
  exact h
end Go.Proofs.YtfaoiajhoifalaaGreatDoor
