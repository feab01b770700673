/-
  PLAIN MATHEMATICS of layer lex: bytes, blanks, tokens of a text, what is printed of them. No Go in sight.
-/
import Derived.Lib.ItoaNum
import Derived.Lib.ParseIntB
import Derived.Lib.Strings
import Derived.Lib.Bytealg
namespace Go.Proofs.YtfaoiajhoifalaaGreatDoor
set_option linter.unusedVariables false
set_option linter.unusedSimpArgs false

def isL (c : UInt8) : Bool := (decide (97 ≤ c.toNat) && decide (c.toNat ≤ 122)) || decide (c.toNat = 95)
def isD (c : UInt8) : Bool := decide (48 ≤ c.toNat) && decide (c.toNat ≤ 57)
def isN (c : UInt8) : Bool := isL c || isD c
def isB (c : UInt8) : Bool := decide (c.toNat = 32) || decide (c.toNat = 10)

/-- A token: kind, place, number, text. -/
structure Tok where
  k : Int
  p : Int
  n : Int
  s : List UInt8
  deriving DecidableEq

def tk0 : Tok := ⟨0, 0, 0, []⟩

def sg : List (List UInt8) := [[60, 60], [62, 62], [60, 61], [62, 61], [61, 61], [33, 61], [38, 38], [124, 124], [43], [45], [42], [47], [37], [38], [124], [94], [126], [33], [60], [62], [61], [40], [41], [123], [125], [91], [93], [59], [44], [58]]

/-- The value of digits. -/
def dg (a : Nat) (c : UInt8) : Nat := a * 10 + (c.toNat - 48)
def dv (acc : Nat) (l : List UInt8) : Nat := l.foldl dg acc

theorem dv_cons (acc : Nat) (c : UInt8) (r : List UInt8) : dv acc (c :: r) = dv (acc * 10 + (c.toNat - 48)) r := by rw [dv, List.foldl_cons, dv, dg]
theorem dv_nil (acc : Nat) : dv acc [] = acc := by rw [dv, List.foldl_nil]

def hd (f : UInt8 → Bool) : List UInt8 → Bool
  | [] => false
  | c :: _ => f c

/-- How many bytes of a list are, from its beginning on, so. -/
def len (f : UInt8 → Bool) : List UInt8 → Nat
  | [] => 0
  | c :: r => if f c then len f r + 1 else 0

/-- The scan's answer: token (place 0), size, error. -/
abbrev Sc := Tok × Nat × Int

def scName (l : List UInt8) : Sc := if 24 < len isN l then (tk0, 0, 10) else (⟨1, 0, 0, l.take (len isN l)⟩, len isN l, 0)

/-- An L behind the digits? -/
def lng (l : List UInt8) : Bool := hd (fun c => decide (c.toNat = 76)) (l.drop (len isD l))
def nsz (l : List UInt8) : Nat := if lng l then len isD l + 1 else len isD l
def nform (l : List UInt8) : Bool := (decide (1 < len isD l) && hd (fun c => decide (c.toNat = 48)) l) || hd isN (l.drop (nsz l))
def nmax (l : List UInt8) : Nat := if lng l then 9223372036854775807 else 2147483647
def nval (l : List UInt8) : Nat := dv 0 (l.take (len isD l))
def nmark (l : List UInt8) : List UInt8 := if lng l then [76] else []

def scNum (l : List UInt8) : Sc :=
  if nform l then (tk0, 0, 2) else if nmax l < nval l then (tk0, 0, 11) else (⟨2, 0, nval l, nmark l⟩, nsz l, 0)

def scSign (l : List UInt8) : Sc :=
  match sg.find? (fun s => s.isPrefixOf l) with
  | some s => (⟨3, 0, 0, s⟩, s.length, 0)
  | none => (tk0, 0, 1)

def sc (l : List UInt8) : Sc := if hd isL l then scName l else if hd isD l then scNum l else scSign l

/-- How many bytes of blanks a text begins with ('true': inside a comment). -/
def sk : Bool → List UInt8 → Nat
  | _, [] => 0
  | false, c :: r => if isB c then sk false r + 1 else if decide (c.toNat = 47) && hd (fun d => decide (d.toNat = 47)) r then sk true r + 1 else 0
  | true, c :: r => if decide (c.toNat = 10) then sk false r + 1 else sk true r + 1

def Tok.to (t : Tok) (p : Int) : Tok := ⟨t.k, p, t.n, t.s⟩

/-- The tokens from a place on, at which no blank stands: each with 0, or the last with its error. -/
def sq : Nat → Nat → List UInt8 → List (Tok × Int)
  | 0, _, _ => []
  | n + 1, a, l =>
    if l = [] then [(⟨4, a, 0, []⟩, 0)]
    else if (sc l).2.2 ≠ 0 then [((sc l).1.to a, (sc l).2.2)]
    else ((sc l).1.to a, 0) :: sq n (a + (sc l).2.1 + sk false (l.drop (sc l).2.1)) (l.drop ((sc l).2.1 + sk false (l.drop (sc l).2.1)))

/-- A text's tokens, from a place on. -/
def seqAt (t : List UInt8) (a : Nat) : List (Tok × Int) := sq (t.length + 1 - a) a (t.drop a)
def skAt (t : List UInt8) (a : Nat) : Nat := a + sk false (t.drop a)
def seqL (t : List UInt8) : List (Tok × Int) := seqAt t (skAt t 0)

/-- What Lex answers of such a list: tokens, error, place. -/
def res (pre : List Tok) : List (Tok × Int) → List Tok × Int × Int
  | [] => (pre, 0, 0)
  | (t, no) :: r => if no ≠ 0 then ([], no, t.p) else res (pre ++ [t]) r

def lexL (t : List UInt8) : List Tok × Int × Int := if 1048576 < t.length then ([], 10, 0) else res [] (seqL t)

theorem len_le (f : UInt8 → Bool) (l : List UInt8) : len f l ≤ l.length := by
  induction l with
  | nil => simp [len]
  | cons c r ih => simp only [len]; split <;> simp <;> omega

theorem sk_le (b : Bool) (l : List UInt8) : sk b l ≤ l.length := by
  induction l generalizing b with
  | nil => simp [sk]
  | cons c r ih =>
    cases b
    · simp only [sk]; have := ih false; have := ih true; split
      · simp; omega
      · split <;> simp <;> omega
    · simp only [sk]; have := ih false; have := ih true; split <;> simp <;> omega

theorem hd_len {f : UInt8 → Bool} {l : List UInt8} (h : hd f l = true) : 1 ≤ len f l := by
  cases l with
  | nil => simp [hd] at h
  | cons c r => simp only [hd] at h; simp [len, h]

theorem len_hd {f : UInt8 → Bool} {l : List UInt8} (h : 1 ≤ len f l) : hd f l = true := by
  cases l with
  | nil => simp [len] at h
  | cons c r => simp only [hd]; simp only [len] at h; split at h <;> simp_all

theorem isN_of_isL {c : UInt8} (h : isL c = true) : isN c = true := by simp [isN, h]
theorem isN_of_isD {c : UInt8} (h : isD c = true) : isN c = true := by simp [isN, h]

theorem hd_mono {f g : UInt8 → Bool} (hfg : ∀ c, f c = true → g c = true) {l : List UInt8} (h : hd f l = true) : hd g l = true := by
  cases l with
  | nil => simp [hd] at h
  | cons c r => exact hfg c h

theorem hd_drop_len (f : UInt8 → Bool) (l : List UInt8) : hd f (l.drop (len f l)) = false := by
  induction l with
  | nil => simp [len, hd]
  | cons c r ih =>
    by_cases h : f c = true
    · simp only [len, h, if_true, List.drop_succ_cons]; exact ih
    · simp [len, h, hd]

theorem len_mem (f : UInt8 → Bool) (l : List UInt8) : ∀ c ∈ l.take (len f l), f c = true := by
  induction l with
  | nil => simp
  | cons c r ih =>
    by_cases h : f c = true
    · simp only [len, h, if_true, List.take_succ_cons]; intro d hd; rcases List.mem_cons.1 hd with rfl | hd
      · exact h
      · exact ih d hd
    · simp [len, h]

theorem sg_sizes : ∀ s ∈ sg, 1 ≤ s.length ∧ s.length ≤ 2 := by decide

theorem nsz_le (l : List UInt8) : nsz l ≤ l.length := by
  unfold nsz
  split
  · rename_i h
    unfold lng at h
    have h1 := len_le isD l
    rcases Nat.lt_or_ge (len isD l) l.length with h2 | h2
    · omega
    · rw [List.drop_of_length_le h2] at h; simp [hd] at h
  · exact len_le isD l

/-- A scan that is well: its size is at least 1, and no more than there is. -/
theorem sc_size {l : List UInt8} (h : (sc l).2.2 = 0) : 1 ≤ (sc l).2.1 ∧ (sc l).2.1 ≤ l.length := by
  revert h
  unfold sc
  split
  · rename_i hl
    have h1 := hd_len (hd_mono (fun c => isN_of_isL) hl)
    have h2 := len_le isN l
    unfold scName
    split
    · intro h; simp at h
    · intro _; exact ⟨h1, h2⟩
  · split
    · rename_i hl
      have h1 := hd_len hl
      have h2 := nsz_le l
      unfold scNum
      split
      · intro h; simp at h
      · split
        · intro h; simp at h
        · intro _; refine ⟨?_, h2⟩; show 1 ≤ nsz l; unfold nsz; split <;> omega
    · unfold scSign
      split
      · rename_i s hs
        intro _
        have h1 := List.find?_some hs
        have h2 := sg_sizes s (List.mem_of_find?_eq_some hs)
        have h3 := (List.isPrefixOf_iff_prefix.1 h1).length_le
        exact ⟨h2.1, h3⟩
      · intro h; simp at h

theorem sq_more (n m a : Nat) (l : List UInt8) (hn : l.length < n) (hm : l.length < m) : sq n a l = sq m a l := by
  induction n generalizing m a l with
  | zero => omega
  | succ n ih =>
    obtain ⟨m, rfl⟩ : ∃ k, m = k + 1 := ⟨m - 1, by omega⟩
    simp only [sq]
    split
    · rfl
    · rename_i hl
      split
      · rfl
      · rename_i h0
        have h1 := sc_size (l := l) (by simpa using h0)
        have : (l.drop ((sc l).2.1 + sk false (l.drop (sc l).2.1))).length < l.length := by rw [List.length_drop]; omega
        rw [ih m _ _ (by omega) (by omega)]

theorem seqAt_end {t : List UInt8} {a : Nat} (h : a = t.length) : seqAt t a = [(⟨4, a, 0, []⟩, 0)] := by
  subst h
  simp [seqAt, sq]

theorem skAt_le (t : List UInt8) {a : Nat} (h : a ≤ t.length) : skAt t a ≤ t.length := by
  have := sk_le false (t.drop a)
  rw [List.length_drop] at this
  unfold skAt; omega
theorem skAt_ge (t : List UInt8) (a : Nat) : a ≤ skAt t a := by unfold skAt; omega

theorem seqAt_bad {t : List UInt8} {a : Nat} (h : a < t.length) (h0 : (sc (t.drop a)).2.2 ≠ 0) : seqAt t a = [((sc (t.drop a)).1.to a, (sc (t.drop a)).2.2)] := by
  have hne : t.drop a ≠ [] := fun e => by have := congrArg List.length e; rw [List.length_drop] at this; simp at this; omega
  rw [seqAt, show t.length + 1 - a = (t.length - a) + 1 by omega, sq, if_neg hne, if_pos h0]

theorem seqAt_step {t : List UInt8} {a : Nat} (h : a < t.length) (h0 : (sc (t.drop a)).2.2 = 0) :
    seqAt t a = ((sc (t.drop a)).1.to a, 0) :: seqAt t (skAt t (a + (sc (t.drop a)).2.1)) := by
  have hne : t.drop a ≠ [] := fun e => by have := congrArg List.length e; rw [List.length_drop] at this; simp at this; omega
  have h1 := sc_size h0
  rw [List.length_drop] at h1
  rw [seqAt, show t.length + 1 - a = (t.length - a) + 1 by omega, sq, if_neg hne, if_neg (by simpa using h0)]
  congr 1
  unfold seqAt skAt
  rw [List.drop_drop, List.drop_drop]
  have e : a + ((sc (t.drop a)).2.1 + sk false (t.drop (a + (sc (t.drop a)).2.1))) = a + (sc (t.drop a)).2.1 + sk false (t.drop (a + (sc (t.drop a)).2.1)) := by omega
  rw [e]
  apply sq_more
  · rw [List.length_drop]; have := sk_le false (t.drop (a + (sc (t.drop a)).2.1)); rw [List.length_drop] at this; omega
  · rw [List.length_drop]; have := sk_le false (t.drop (a + (sc (t.drop a)).2.1)); rw [List.length_drop] at this; omega

theorem res_ok (pre : List Tok) (xs ys : List (Tok × Int)) (h : ∀ x ∈ xs, x.2 = 0) : res pre (xs ++ ys) = res (pre ++ xs.map (·.1)) ys := by
  induction xs generalizing pre with
  | nil => simp
  | cons x xs ih =>
    obtain ⟨t, no⟩ := x
    have h0 : no = 0 := h (t, no) (by simp)
    subst h0
    simp only [List.cons_append, res]
    rw [if_neg (by simp), ih _ fun x hx => h x (List.mem_cons_of_mem _ hx)]
    simp
end Go.Proofs.YtfaoiajhoifalaaGreatDoor
