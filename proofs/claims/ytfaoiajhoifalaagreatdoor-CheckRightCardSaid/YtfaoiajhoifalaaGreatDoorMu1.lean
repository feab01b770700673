/-
  PLAIN MATHEMATICS of layer parse: what is printed of trees: their tokens; the pieces that wait in a list. PLAIN MATHEMATICS of layer parse: a program that was read: who is whose kid, how many kids, the functions' trees. The texts of tokens, and what is printed of them, as mathematics; strconv.Itoa; strings.Builder's own memory. PLAIN MATHEMATICS of layer lex: a text as gaps and tokens; what is printed has these tokens again; places; blanks. No Go in sight. PLAIN MATHEMATICS of layer lex: what is printed of a text's tokens; places; blanks. PLAIN MATHEMATICS of layers lex and parse together: what Read answers of a text.
-/
import Derived.Test.YtfaoiajhoifalaaGreatDoorParm
import Derived.Test.YtfaoiajhoifalaaGreatDoorParq
import Derived.Test.YtfaoiajhoifalaaGreatDoorLexk0
import Derived.Lib.AppendIntMem
import Derived.Lib.ItoaLen
import Derived.Test.YtfaoiajhoifalaaGreatDoorLexm
/-! Pra -/
namespace Go.Proofs.YtfaoiajhoifalaaGreatDoor
set_option linter.unusedVariables false
set_option linter.unusedSimpArgs false

def typeW (t : Int) : List UInt8 := if t = 1 then wInt else if t = 2 then wLong else if t = 3 then wChar else wVoid
/-- The parts of a node's text, by its operation and how many kids it has. -/
def patL (op : Int) (n : Nat) : List (List UInt8) :=
  if op = 1 then [[78]]
  else if op = 2 then [[83]]
  else if op = 3 then [[83], [91], [48], [93]]
  else if op = 4 then [[83], [48]]
  else if op = 5 then [[48], [83], [49]]
  else if op = 6 then [[40], [84], [41], [48]]
  else if op = 7 then [[83], [40], [42, 44], [41]]
  else if op = 8 then [wIn, [40], [41]]
  else if op = 11 then [[123], [42], [125]]
  else if op = 12 then [[84], [83], [61], [48], [59]]
  else if op = 13 then [[83], [61], [48], [59]]
  else if op = 14 then [[83], [91], [48], [93], [61], [49], [59]]
  else if op = 15 then (if 2 < n then [wIf, [40], [48], [41], [49], wElse, [50]] else [wIf, [40], [48], [41], [49]])
  else if op = 16 then [wWhile, [40], [48], [41], [49]]
  else if op = 17 then [wGoto, [83], [59]]
  else if op = 18 then [[83], [58], [48]]
  else if op = 19 then (if 0 < n then [wReturn, [48], [59]] else [wReturn, [59]])
  else if op = 20 then [wOut, [40], [48], [41], [59]]
  else if op = 21 then [[48], [59]]
  else []
def digL (h : Hd) : List UInt8 := Lib.itoa h.n ++ if h.ty = 2 then [76] else []
/-- Would a kid be read otherwise without parentheses? -/
def encl (h : Hd) (i : Nat) (h' : Hd) : Bool :=
  if h'.op = 5 then (if h.op = 4 ∨ h.op = 6 then true else if h.op = 5 then (if i = 0 then decide (lvl h'.s < lvl h.s) else decide (lvl h'.s ≤ lvl h.s)) else false) else false

/-! tokens -/
abbrev Tx := List (List UInt8)
def kidT (h : Hd) (i : Nat) : Option (Hd × Tx) → Tx
  | some (h', t) => if encl h i h' then [40] :: (t ++ [[41]]) else t
  | none => []
def sepT (x : List UInt8) : List (Hd × Tx) → Tx
  | [] => []
  | a :: l => a.2 ++ l.flatMap fun b => x :: b.2
def partT (h : Hd) (l : List (Hd × Tx)) (x : List UInt8) : Tx :=
  if x = [78] then [digL h] else if x = [83] then [h.s] else if x = [84] then [typeW h.to]
  else if x = [48] then kidT h 0 l[0]? else if x = [49] then kidT h 1 l[1]? else if x = [50] then kidT h 2 l[2]?
  else if x = [42] then l.flatMap (·.2) else if x = [42, 44] then sepT [44] l else [x]
def nodeT (h : Hd) (l : List (Hd × Tx)) : Tx := (patL h.op l.length).flatMap (partT h l)
/-- The trees' heads and tokens. -/
def Fo.tk : Fo → List (Hd × Tx)
  | .nil => []
  | .cons h k r => (h, nodeT h k.tk) :: r.tk
theorem Fo.tk_length (x : Fo) : x.tk.length = x.len := by
  induction x with
  | nil => rfl
  | cons h k r _ ih => simp only [Fo.tk, Fo.len, List.length_cons, ih]

/-! pieces -/
inductive Pz where
  | tk (s : List UInt8)
  | nd (h : Hd) (k : Fo) (c : Nat)
def kidsP (c : Nat) : Fo → List Pz
  | .nil => []
  | .cons h k r => .nd h k c :: kidsP (c + k.size + 1) r
def kidP (h : Hd) (i : Nat) : Option Pz → List Pz
  | some (.nd h' k' c') => if encl h i h' then [.tk [40], .nd h' k' c', .tk [41]] else [.nd h' k' c']
  | _ => []
def sepP (x : List UInt8) : List Pz → List Pz
  | [] => []
  | a :: l => a :: l.flatMap fun b => [.tk x, b]
def partP (h : Hd) (l : List Pz) (x : List UInt8) : List Pz :=
  if x = [78] then [.tk (digL h)] else if x = [83] then [.tk h.s] else if x = [84] then [.tk (typeW h.to)]
  else if x = [48] then kidP h 0 l[0]? else if x = [49] then kidP h 1 l[1]? else if x = [50] then kidP h 2 l[2]?
  else if x = [42] then l else if x = [42, 44] then sepP [44] l else [.tk x]
def pcs (h : Hd) (k : Fo) (c : Nat) : List Pz := (patL h.op k.len).flatMap (partP h (kidsP c k))

def Pz.ht : Pz → Hd × Tx
  | .tk s => (⟨0, 0, 0, [], 0, 0⟩, [s])
  | .nd h k _ => (h, nodeT h k.tk)
def Pz.out (p : Pz) : Tx := p.ht.2
theorem kids_ht (k : Fo) : ∀ c, (kidsP c k).map Pz.ht = k.tk := by
  induction k with
  | nil => intro c; rfl
  | cons h k r _ ih => intro c; simp only [kidsP, List.map_cons, ih, Fo.tk, Pz.ht]
theorem kids_len (k : Fo) : ∀ c, (kidsP c k).length = k.len := by
  intro c; rw [← List.length_map (f := Pz.ht), kids_ht, Fo.tk_length]
theorem kids_nd (k : Fo) : ∀ c p, p ∈ kidsP c k → ∃ h' k' c', p = .nd h' k' c' := by
  induction k with
  | nil => intro c p h; cases h
  | cons h k r _ ih =>
    intro c p hp
    rcases List.mem_cons.1 hp with rfl | hp
    · exact ⟨_, _, _, rfl⟩
    · exact ih _ _ hp
theorem kidP_out (h : Hd) (i : Nat) (k : Fo) (c : Nat) : (kidP h i (kidsP c k)[i]?).flatMap Pz.out = kidT h i k.tk[i]? := by
  have e : k.tk[i]? = ((kidsP c k)[i]?).map Pz.ht := by rw [← kids_ht k c, List.getElem?_map]
  rw [e]
  cases hp : (kidsP c k)[i]? with
  | none => rfl
  | some p =>
    obtain ⟨h', k', c', rfl⟩ := kids_nd k c p (List.mem_of_getElem? hp)
    simp only [kidP, Option.map_some, Pz.ht, kidT]
    split
    · simp [Pz.out, Pz.ht]
    · simp [Pz.out, Pz.ht]
theorem part_out (h : Hd) (k : Fo) (c : Nat) (x : List UInt8) : (partP h (kidsP c k) x).flatMap Pz.out = partT h k.tk x := by
  unfold partP partT
  split; · simp [Pz.out, Pz.ht]
  split; · simp [Pz.out, Pz.ht]
  split; · simp [Pz.out, Pz.ht]
  split; · exact kidP_out h 0 k c
  split; · exact kidP_out h 1 k c
  split; · exact kidP_out h 2 k c
  split; · rw [← kids_ht k c, List.flatMap_map]; rfl
  split
  · rw [← kids_ht k c]
    cases kidsP c k with
    | nil => rfl
    | cons a l => simp [sepP, sepT, List.flatMap_map, List.flatMap_assoc, Pz.out, Pz.ht]
  · simp [Pz.out, Pz.ht]
theorem pcs_out (h : Hd) (k : Fo) (c : Nat) : (pcs h k c).flatMap Pz.out = nodeT h k.tk := by
  unfold pcs nodeT
  rw [List.flatMap_assoc, Fo.tk_length]
  congr 1
  funext x
  exact part_out h k c x

/-! what nodes must be -/
def arity (op : Int) (n : Nat) : Bool :=
  if op = 1 ∨ op = 2 ∨ op = 8 ∨ op = 17 then n == 0
  else if op = 3 ∨ op = 4 ∨ op = 6 ∨ op = 12 ∨ op = 13 ∨ op = 18 ∨ op = 20 ∨ op = 21 then n == 1
  else if op = 5 ∨ op = 14 ∨ op = 16 then n == 2
  else if op = 15 then n == 2 || n == 3
  else if op = 19 then n == 0 || n == 1
  else op == 7 || op == 11
def usesS (op : Int) : Bool := op == 2 || op == 3 || op == 4 || op == 5 || op == 7 || op == 12 || op == 13 || op == 14 || op == 17 || op == 18
structure NOk (h : Hd) (n : Nat) : Prop where
  ar : arity h.op n = true
  nm : usesS h.op = true → h.s ≠ []
  sl : h.s.length ≤ 24
  lo : -9223372036854775808 ≤ h.n
  hi : h.n ≤ 9223372036854775807
  tos : 0 ≤ h.to ∧ h.to ≤ 3
def Fo.ok : Fo → Prop
  | .nil => True
  | .cons h k r => NOk h k.len ∧ k.ok ∧ r.ok
def Pz.ok : Pz → Prop
  | .tk s => s ≠ [] ∧ s.length ≤ 45
  | .nd h k _ => NOk h k.len ∧ k.ok
def Pz.rng : Pz → List Nat
  | .tk _ => []
  | .nd _ k c => List.range' c (k.size + 1)
theorem kids_ok (k : Fo) : ∀ c, k.ok → ∀ p ∈ kidsP c k, p.ok := by
  induction k with
  | nil => intro c _ p h; cases h
  | cons h k r _ ih =>
    intro c hk p hp
    rcases List.mem_cons.1 hp with rfl | hp
    · exact ⟨hk.1, hk.2.1⟩
    · exact ih _ hk.2.2 _ hp
theorem kids_rng (k : Fo) : ∀ c, (kidsP c k).flatMap Pz.rng = List.range' c k.size := by
  induction k with
  | nil => intro c; rfl
  | cons h k r _ ih =>
    intro c
    simp only [kidsP, List.flatMap_cons, ih, Pz.rng, Fo.size]
    have e := List.range'_append (s := c) (m := k.size + 1) (n := r.size) (step := 1)
    rw [← e]; congr 2; omega
theorem len0 {k : Fo} (h : k.len = 0) : k = .nil := by cases k with | nil => rfl | cons _ _ _ => simp [Fo.len] at h
theorem len1 {k : Fo} (h : k.len = 1) : ∃ a x, k = .cons a x .nil := by
  cases k with
  | nil => simp [Fo.len] at h
  | cons a x r => simp [Fo.len] at h; rw [len0 h]; exact ⟨_, _, rfl⟩
theorem len2 {k : Fo} (h : k.len = 2) : ∃ a x b y, k = .cons a x (.cons b y .nil) := by
  cases k with
  | nil => simp [Fo.len] at h
  | cons a x r => simp [Fo.len] at h; obtain ⟨b, y, rfl⟩ := len1 h; exact ⟨_, _, _, _, rfl⟩
theorem len3 {k : Fo} (h : k.len = 3) : ∃ a x b y d z, k = .cons a x (.cons b y (.cons d z .nil)) := by
  cases k with
  | nil => simp [Fo.len] at h
  | cons a x r => simp [Fo.len] at h; obtain ⟨b, y, d, z, rfl⟩ := len2 h; exact ⟨_, _, _, _, _, _, rfl⟩
/-- The operations, one by one, and how many kids. -/
theorem arity_cases {op : Int} {n : Nat} (h : arity op n = true) :
    ((op = 1 ∨ op = 2 ∨ op = 8 ∨ op = 17) ∧ n = 0) ∨ ((op = 3 ∨ op = 4 ∨ op = 6 ∨ op = 12 ∨ op = 13 ∨ op = 18 ∨ op = 20 ∨ op = 21) ∧ n = 1) ∨ ((op = 5 ∨ op = 14 ∨ op = 16) ∧ n = 2) ∨
    (op = 15 ∧ n = 2) ∨ (op = 15 ∧ n = 3) ∨ (op = 19 ∧ n = 0) ∨ (op = 19 ∧ n = 1) ∨ (op = 7 ∨ op = 11) := by
  unfold arity at h
  split at h; · exact .inl ⟨by assumption, by simpa using h⟩
  split at h; · exact .inr (.inl ⟨by assumption, by simpa using h⟩)
  split at h; · exact .inr (.inr (.inl ⟨by assumption, by simpa using h⟩))
  split at h
  · rename_i e; simp at h
    rcases h with h | h
    · exact .inr (.inr (.inr (.inl ⟨e, h⟩)))
    · exact .inr (.inr (.inr (.inr (.inl ⟨e, h⟩))))
  split at h
  · rename_i e; simp at h
    rcases h with h | h
    · exact .inr (.inr (.inr (.inr (.inr (.inl ⟨e, h⟩)))))
    · exact .inr (.inr (.inr (.inr (.inr (.inr (.inl ⟨e, h⟩))))))
  · simp at h; exact .inr (.inr (.inr (.inr (.inr (.inr (.inr h))))))
theorem kidP_rng (h : Hd) (i : Nat) (h' : Hd) (k' : Fo) (c' : Nat) : (kidP h i (some (.nd h' k' c'))).flatMap Pz.rng = List.range' c' (k'.size + 1) := by
  simp only [kidP]
  split <;> simp [Pz.rng]
theorem sepP_rng (x : List UInt8) (l : List Pz) : (sepP x l).flatMap Pz.rng = l.flatMap Pz.rng := by
  cases l with
  | nil => rfl
  | cons a l =>
    have e : ∀ b : Pz, List.flatMap Pz.rng [Pz.tk x, b] = b.rng := fun b => by simp [List.flatMap_cons, Pz.rng]
    simp only [sepP, List.flatMap_cons, List.flatMap_assoc, e]
theorem pcs_rng {h : Hd} {k : Fo} (c : Nat) (ha : arity h.op k.len = true) : (pcs h k c).flatMap Pz.rng = List.range' c k.size := by
  have e2 : ∀ c a b, List.range' c (a + 1) ++ List.range' (c + a + 1) (b + 1) = List.range' c (a + 1 + (b + 1)) := fun c a b => by
    have := List.range'_append (s := c) (m := a + 1) (n := b + 1) (step := 1)
    rw [← this]; congr 2; omega
  have e3 : ∀ c a b d, List.range' c (a + 1) ++ (List.range' (c + a + 1) (b + 1) ++ List.range' (c + a + 1 + b + 1) (d + 1)) = List.range' c (a + 1 + (b + 1 + (d + 1))) := fun c a b d => by
    rw [e2, show d + 1 + 0 = d + 1 from rfl]
    have := List.range'_append (s := c) (m := a + 1) (n := b + 1 + (d + 1)) (step := 1)
    rw [← this]; congr 2; omega
  rcases arity_cases ha with ⟨ho, hn⟩ | ⟨ho, hn⟩ | ⟨ho, hn⟩ | ⟨ho, hn⟩ | ⟨ho, hn⟩ | ⟨ho, hn⟩ | ⟨ho, hn⟩ | ho
  · obtain rfl := len0 hn
    rcases ho with ho | ho | ho | ho <;> simp [pcs, patL, ho, partP, Pz.rng, Fo.size, wIn, wGoto]
  · obtain ⟨a, x, rfl⟩ := len1 hn
    rcases ho with ho | ho | ho | ho | ho | ho | ho | ho <;> simp [pcs, patL, ho, partP, kidsP, kidP_rng, Pz.rng, Fo.size, wOut]
  · obtain ⟨a, x, b, y, rfl⟩ := len2 hn
    rcases ho with ho | ho | ho <;> simp [pcs, patL, ho, partP, kidsP, kidP_rng, Pz.rng, Fo.size, wWhile, e2]
  · obtain ⟨a, x, b, y, rfl⟩ := len2 hn
    simp [pcs, patL, ho, partP, kidsP, kidP_rng, Pz.rng, Fo.size, wIf, Fo.len, e2]
  · obtain ⟨a, x, b, y, d, z, rfl⟩ := len3 hn
    simp [pcs, patL, ho, partP, kidsP, kidP_rng, Pz.rng, Fo.size, wIf, wElse, Fo.len, e3]
  · obtain rfl := len0 hn
    simp [pcs, patL, ho, partP, Pz.rng, Fo.size, wReturn, Fo.len]
  · obtain ⟨a, x, rfl⟩ := len1 hn
    simp [pcs, patL, ho, partP, kidsP, kidP_rng, Pz.rng, Fo.size, wReturn, Fo.len]
  · rcases ho with ho | ho
    · simp [pcs, patL, ho, partP, sepP_rng, kids_rng, Pz.rng]
    · simp [pcs, patL, ho, partP, kids_rng, Pz.rng]
theorem kidP_ok {h : Hd} {i : Nat} {o : Option Pz} (ho : ∀ p : Pz, o = some p → p.ok) : ∀ p ∈ kidP h i o, p.ok := by
  cases o with
  | none => intro p hp; cases hp
  | some q =>
    have hq := ho q rfl
    cases q with
    | tk s => intro p hp; cases hp
    | nd h' k' c' =>
      intro p hp
      simp only [kidP] at hp
      split at hp
      · simp at hp
        rcases hp with rfl | rfl | rfl
        · exact ⟨by simp, by simp⟩
        · exact hq
        · exact ⟨by simp, by simp⟩
      · simp at hp; rw [hp]; exact hq
theorem typeW_len (t : Int) : typeW t ≠ [] ∧ (typeW t).length ≤ 45 := by
  unfold typeW
  split; · decide
  split; · decide
  split; · decide
  decide
theorem itoa_ne (n : Int) : Lib.itoa n ≠ [] := by
  have h : ∀ u : Nat, Lib.decDigits u ≠ [] := fun u => by
    rw [Lib.decDigits]
    split <;> simp
  unfold Lib.itoa
  split
  · simp
  · exact h _
theorem digL_len {h : Hd} (h1 : -9223372036854775808 ≤ h.n) (h2 : h.n ≤ 9223372036854775807) : digL h ≠ [] ∧ (digL h).length ≤ 45 := by
  have h4 := Lib.itoa_length_le h.n h1 h2
  have h5 := itoa_ne h.n
  unfold digL
  refine ⟨by simp [h5], ?_⟩
  rw [List.length_append]
  split <;> simp <;> omega
theorem ite_mem {α : Type} {c : Prop} [Decidable c] {a b : List α} {P : α → Prop} (h1 : c → ∀ x ∈ a, P x) (h2 : ¬ c → ∀ x ∈ b, P x) : ∀ x ∈ (if c then a else b), P x := by
  split
  · exact h1 (by assumption)
  · exact h2 (by assumption)
theorem pat_words (op : Int) (n : Nat) : ∀ x ∈ patL op n, x ≠ [] ∧ x.length ≤ 45 := by
  unfold patL
  repeat' (first | (refine ite_mem (fun _ => ?_) (fun _ => ?_)) | decide)
theorem pat_S {op : Int} {n : Nat} (h : [83] ∈ patL op n) : usesS op = true := by
  have key : ∀ x ∈ patL op n, x = [83] → usesS op = true := by
    unfold patL
    repeat' (first | (refine ite_mem (fun _ => ?_) (fun _ => ?_)) | (intro x hx e; subst e; exact absurd hx (by decide)) | (rename_i e; subst e; intro _ _ _; rfl))
  exact key _ h rfl
theorem pcs_ok {h : Hd} {k : Fo} (c : Nat) (hn : NOk h k.len) (hk : k.ok) : ∀ p ∈ pcs h k c, p.ok := by
  intro p hp
  obtain ⟨x, hx, hp⟩ := List.mem_flatMap.1 hp
  have hw := pat_words h.op k.len x hx
  have hkk := kids_ok k c hk
  have hki : ∀ (i : Nat) (p : Pz), (kidsP c k)[i]? = some p → p.ok := fun i p h => hkk p (List.mem_of_getElem? h)
  unfold partP at hp
  split at hp
  · simp at hp; rw [hp]; exact digL_len hn.lo hn.hi
  split at hp
  · rename_i _ e; subst e
    simp at hp; rw [hp]; exact ⟨hn.nm (pat_S hx), by have := hn.sl; omega⟩
  split at hp
  · simp at hp; rw [hp]; exact typeW_len _
  split at hp; · exact kidP_ok (hki 0) p hp
  split at hp; · exact kidP_ok (hki 1) p hp
  split at hp; · exact kidP_ok (hki 2) p hp
  split at hp; · exact hkk p hp
  split at hp
  · revert hp hkk
    cases kidsP c k with
    | nil => intro _ hp; cases hp
    | cons a l =>
      intro hkk hp
      simp [sepP] at hp
      rcases hp with rfl | ⟨b, hb, rfl | rfl⟩
      · exact hkk _ (by simp)
      · exact ⟨by simp, by simp⟩
      · exact hkk _ (by simp [hb])
  · simp at hp; rw [hp]; exact hw

/-! how many tokens -/
theorem length2 {α : Type} {l : List α} (h : l.length = 2) : ∃ a b, l = [a, b] := by
  match l, h with
  | [a, b], _ => exact ⟨a, b, rfl⟩
theorem length3 {α : Type} {l : List α} (h : l.length = 3) : ∃ a b c, l = [a, b, c] := by
  match l, h with
  | [a, b, c], _ => exact ⟨a, b, c, rfl⟩
def sumL (l : List (Hd × Tx)) : Nat := (l.map fun a => a.2.length).sum
theorem sepT_len (x : List UInt8) (l : List (Hd × Tx)) : (sepT x l).length ≤ sumL l + l.length := by
  cases l with
  | nil => simp [sepT]
  | cons a l =>
    have : ∀ l : List (Hd × Tx), (l.flatMap fun b => x :: b.2).length = sumL l + l.length := by
      intro l
      induction l with
      | nil => rfl
      | cons b l ih => simp only [List.flatMap_cons, List.length_append, List.length_cons, ih, sumL, List.map_cons, List.sum_cons]; omega
    simp only [sepT, List.length_append, this, sumL, List.map_cons, List.sum_cons, List.length_cons]
    omega
theorem kidT_len (h : Hd) (i : Nat) (a : Hd × Tx) : (kidT h i (some a)).length ≤ a.2.length + 2 := by
  simp only [kidT]
  split <;> simp
theorem nodeT_len {h : Hd} {l : List (Hd × Tx)} (ha : arity h.op l.length = true) : (nodeT h l).length ≤ sumL l + l.length + 14 := by
  have f : ∀ l : List (Hd × Tx), (l.flatMap (·.2)).length = sumL l := fun l => by simp [sumL, List.length_flatMap]
  rcases arity_cases ha with ⟨ho, hn⟩ | ⟨ho, hn⟩ | ⟨ho, hn⟩ | ⟨ho, hn⟩ | ⟨ho, hn⟩ | ⟨ho, hn⟩ | ⟨ho, hn⟩ | ho
  · obtain rfl := List.length_eq_zero_iff.1 hn
    rcases ho with ho | ho | ho | ho <;> simp [nodeT, patL, ho, partT, wIn, wGoto]
  · obtain ⟨a, rfl⟩ := List.length_eq_one_iff.1 hn
    have h0 := kidT_len h 0 a
    rcases ho with ho | ho | ho | ho | ho | ho | ho | ho <;> simp [nodeT, patL, ho, partT, sumL, wOut] <;> omega
  · obtain ⟨a, b, rfl⟩ := length2 hn
    have h0 := kidT_len h 0 a
    have h1 := kidT_len h 1 b
    rcases ho with ho | ho | ho <;> simp [nodeT, patL, ho, partT, sumL, wWhile] <;> omega
  · obtain ⟨a, b, rfl⟩ := length2 hn
    have h0 := kidT_len h 0 a
    have h1 := kidT_len h 1 b
    simp [nodeT, patL, ho, partT, sumL, wIf] <;> omega
  · obtain ⟨a, b, d, rfl⟩ := length3 hn
    have h0 := kidT_len h 0 a
    have h1 := kidT_len h 1 b
    have h2 := kidT_len h 2 d
    simp [nodeT, patL, ho, partT, sumL, wIf, wElse] <;> omega
  · obtain rfl := List.length_eq_zero_iff.1 hn
    simp [nodeT, patL, ho, partT, wReturn]
  · obtain ⟨a, rfl⟩ := List.length_eq_one_iff.1 hn
    have h0 := kidT_len h 0 a
    simp [nodeT, patL, ho, partT, sumL, wReturn] <;> omega
  · rcases ho with ho | ho
    · have := sepT_len [44] l
      simp [nodeT, patL, ho, partT] <;> omega
    · simp [nodeT, patL, ho, partT, f] <;> omega
theorem Fo.len_le (x : Fo) : x.len ≤ x.size := by
  induction x with
  | nil => exact Nat.le_refl _
  | cons h k r _ ih => simp only [Fo.len, Fo.size]; omega
theorem tk_count (x : Fo) : x.ok → sumL x.tk + x.len ≤ 16 * x.size := by
  induction x with
  | nil => intro _; simp [sumL, Fo.tk, Fo.len, Fo.size]
  | cons h k r ihk ihr =>
    intro ho
    have h1 := ihk ho.2.1
    have h2 := ihr ho.2.2
    have h3 := nodeT_len (l := k.tk) (h := h) (by rw [Fo.tk_length]; exact ho.1.ar)
    rw [Fo.tk_length] at h3
    simp only [sumL, Fo.tk, List.map_cons, List.sum_cons, Fo.len, Fo.size] at *
    omega
end Go.Proofs.YtfaoiajhoifalaaGreatDoor
/-! Prq -/
namespace Go.Proofs.YtfaoiajhoifalaaGreatDoor
set_option linter.unusedVariables false
set_option linter.unusedSimpArgs false
set_option linter.unusedSectionVars false

/-! who is whose kid -/
theorem Fo.roots_lt (x : Fo) : ∀ c k, k ∈ x.roots c → c ≤ k ∧ k < c + x.size := by
  induction x with
  | nil => intro c k h; cases h
  | cons h y r _ ih =>
    intro c k hk
    simp only [Fo.roots, List.mem_cons] at hk
    simp only [Fo.size]
    rcases hk with rfl | hk
    · omega
    · have := ih _ _ hk; omega
theorem Fo.roots_up (x : Fo) : ∀ c, (x.roots c).Pairwise (· < ·) := by
  induction x with
  | nil => intro c; exact List.Pairwise.nil
  | cons h y r _ ih =>
    intro c
    refine List.Pairwise.cons (fun k hk => ?_) (ih _)
    have := Fo.roots_lt r _ _ hk
    omega
def kidsOf (l : List Nd) : List Nat := l.flatMap Nd.kids
/-- Each node is the kid of one, or a tree's own. -/
theorem Fo.own (x : Fo) : ∀ c k, (kidsOf (x.flat c)).count k + (x.roots c).count k = if c ≤ k ∧ k < c + x.size then 1 else 0 := by
  induction x with
  | nil => intro c k; rw [if_neg (by simp only [Fo.size]; omega)]; rfl
  | cons h y r ih1 ih2 =>
    intro c k
    have h1 := ih1 c k
    have h2 := ih2 (c + y.size + 1) k
    have hs : (Fo.cons h y r).size = y.size + 1 + r.size := rfl
    by_cases hk : c ≤ k ∧ k < c + (Fo.cons h y r).size
    · rw [if_pos hk]
      rw [hs] at hk
      simp only [kidsOf, Fo.flat, Fo.roots, List.flatMap_append, List.flatMap_cons, List.count_append, List.count_cons, beq_iff_eq] at *
      split at h1 <;> split at h2 <;> split <;> omega
    · rw [if_neg hk]
      rw [hs] at hk
      simp only [kidsOf, Fo.flat, Fo.roots, List.flatMap_append, List.flatMap_cons, List.count_append, List.count_cons, beq_iff_eq] at *
      split at h1 <;> split at h2 <;> split <;> omega
/-- A node's kids stand ahead of it, one behind the other. -/
theorem Fo.flat_kids (x : Fo) : ∀ c (i : Nat) (n : Nd), (x.flat c)[i]? = some n → n.kids.Pairwise (· < ·) ∧ ∀ k ∈ n.kids, c ≤ k ∧ k < c + i := by
  induction x with
  | nil => intro c i n h; simp [Fo.flat] at h
  | cons h y r ih1 ih2 =>
    intro c i n hi
    simp only [Fo.flat] at hi
    have hl := Fo.flat_length y c
    by_cases h1 : i < y.size
    · rw [List.getElem?_append_left (by omega)] at hi
      exact ih1 c i n hi
    · rw [List.getElem?_append_right (by omega), hl] at hi
      by_cases h2 : i = y.size
      · subst h2
        simp at hi
        subst hi
        exact ⟨Fo.roots_up y c, fun k hk => Fo.roots_lt y c k hk⟩
      · obtain ⟨j, hj⟩ : ∃ j, i = y.size + (j + 1) := ⟨i - y.size - 1, by omega⟩
        subst hj
        rw [show y.size + (j + 1) - y.size = j + 1 by omega, List.getElem?_cons_succ] at hi
        have h3 := ih2 _ j n hi
        exact ⟨h3.1, fun k hk => by have := h3.2 k hk; omega⟩

/-! how many kids -/
def Fo.ar : Fo → Prop
  | .nil => True
  | .cons h k r => arity h.op k.len = true ∧ k.ar ∧ r.ar
theorem Fo.flat_ar (x : Fo) : ∀ c, x.ar → ∀ n ∈ x.flat c, arity n.h.op n.kids.length = true := by
  induction x with
  | nil => intro c _ n h; cases h
  | cons h y r ih1 ih2 =>
    intro c ha n hn
    simp only [Fo.flat, List.mem_append, List.mem_cons] at hn
    rcases hn with hn | rfl | hn
    · exact ih1 c ha.2.1 n hn
    · simp only [Fo.roots_length]; exact ha.1
    · exact ih2 _ ha.2.2 n hn
theorem Fo.ok.ar {x : Fo} : x.ok → x.ar := by
  induction x with
  | nil => intro _; trivial
  | cons h y r ih1 ih2 => intro ho; exact ⟨ho.1.ar, ih1 ho.2.1, ih2 ho.2.2⟩

theorem Ans.and {α : Type} {P Q : α → St → Prop} {r : Rs α} (h : Ans P r) (h2 : Ans Q r) : Ans (fun a s => P a s ∧ Q a s) r := by
  cases r with
  | ok a s => exact ⟨h, h2⟩
  | er n p => trivial
  | out => trivial
theorem Ends.ans {α : Type} {n : Nat} {s : St} {r : Rs α} (h : Ends n s r) : Ans (fun _ s' => s'.l.length + n ≤ s.l.length) r := by
  cases r with
  | ok a s => exact h
  | er n p => trivial
  | out => trivial
section
variable {V : Tok → Prop}
theorem It.ar {it : It} {h : Hd} {k : Fo} (h1 : okI V it h k.len) (h2 : Gr V (kI it h k.len).1 (kI it h k.len).2 k) : arity h.op k.len = true := by
  cases it with
  | e d lv =>
    simp only [kI] at h2
    rcases h1 with h1 | h1 | h1 | h1 | h1 | h1 | h1 | h1
    all_goals
      have ho := h1.1
      first
      | (simp [kE, ho] at h2
         have hl := h2.len
         simp at hl
         simp [arity, ho, hl]
         done)
      | (simp [arity, ho]; done)
      | (simp [kE, ho] at h2
         split at h2
         · have hl := h2.len; simp at hl; simp [arity, ho, hl]
         · have hl := h2.len; simp at hl; simp [arity, ho, hl])
  | s d cl =>
    simp only [kI] at h2
    obtain ⟨-, -, -, h1⟩ := h1
    rcases h1 with h1 | h1 | h1 | h1 | h1 | h1 | h1 | h1 | h1 | h1 | h1
    all_goals
      have ho := h1.1
      first
      | (simp [arity, ho]; done)
      | (simp [kS, ho] at h2
         have hl := h2.len
         simp at hl
         simp [arity, ho, hl]
         done)
      | (have hn := h1.2.2.2
         simp [arity, ho]
         omega)
  | c d =>
    have ho := h1.1
    simp [arity, ho]
theorem Gr.ar {x : Fo} : ∀ {p : List It} {st : Option It}, Gr V p st x → x.ar := by
  induction x with
  | nil => intro p st _; trivial
  | cons h k r ih1 ih2 =>
    intro p st hg
    cases p with
    | cons it p => simp only [Gr] at hg; exact ⟨It.ar hg.1 hg.2.1, ih1 hg.2.1, ih2 hg.2.2⟩
    | nil =>
      cases st with
      | none => simp [Gr] at hg
      | some it => simp only [Gr] at hg; exact ⟨It.ar hg.1 hg.2.1, ih1 hg.2.1, ih2 hg.2.2⟩

/-! what each node bears -/
/-- What lex makes: texts up to 24, names with a text, numbers of Go's. -/
structure TkV (t : Tok) : Prop where
  sl : t.s.length ≤ 24
  nm : isNm t = true → t.s ≠ []
  lo : -9223372036854775808 ≤ t.n
  hi : t.n ≤ 9223372036854775807
theorem Nm.sl (hV : ∀ t, V t → TkV t) {x : List UInt8} (h : Nm V x) : x.length ≤ 24 ∧ x ≠ [] := by
  obtain ⟨t, h1, h2, rfl⟩ := h
  exact ⟨(hV t h1).sl, (hV t h1).nm h2⟩
theorem lvl_len {x : List UInt8} (h : 1 ≤ lvl x) : x.length ≤ 24 ∧ x ≠ [] := by
  unfold lvl at h
  repeat (split at h; (rename_i e; first | (subst e; simp) | (rcases e with rfl | rfl <;> simp) | (rcases e with rfl | rfl | rfl <;> simp) | (rcases e with rfl | rfl | rfl | rfl <;> simp)))
  omega
theorem It.nok (hV : ∀ t, V t → TkV t) {it : It} {h : Hd} {k : Fo} (h1 : okI V it h k.len) (h2 : Gr V (kI it h k.len).1 (kI it h k.len).2 k) : NOk h k.len := by
  have ha := It.ar h1 h2
  have lo0 : h.n = 0 → -9223372036854775808 ≤ h.n ∧ h.n ≤ 9223372036854775807 := by omega
  cases it with
  | e d lv =>
    rcases h1 with ⟨ho, _, ⟨t, ht, -, hn, -⟩, hs, hto⟩ | ⟨ho, _, hm, hn, hto, _⟩ | ⟨ho, _, hm, hn, hto, _⟩ | ⟨ho, _, hm, hn, hto, _⟩ | ⟨ho, _, hm, hn, hto, _⟩ | ⟨ho, _, hs, hn, hto, _⟩ | ⟨ho, _, hm, hn, hto, _⟩ | ⟨ho, _, hs, hn, hto, _⟩
    · exact ⟨ha, by simp [ho, usesS], by simp [hs], hn ▸ (hV t ht).lo, hn ▸ (hV t ht).hi, by omega⟩
    · have := Nm.sl hV hm; exact ⟨ha, fun _ => this.2, this.1, (lo0 hn).1, (lo0 hn).2, by omega⟩
    · have := Nm.sl hV hm; exact ⟨ha, fun _ => this.2, this.1, (lo0 hn).1, (lo0 hn).2, by omega⟩
    · exact ⟨ha, fun _ => by rcases hm with h | h | h <;> simp [h], by rcases hm with h | h | h <;> simp [h], (lo0 hn).1, (lo0 hn).2, by omega⟩
    · have := lvl_len hm; exact ⟨ha, fun _ => this.2, this.1, (lo0 hn).1, (lo0 hn).2, by omega⟩
    · exact ⟨ha, by simp [ho, usesS], by simp [hs], (lo0 hn).1, (lo0 hn).2, by omega⟩
    · have := Nm.sl hV hm; exact ⟨ha, fun _ => this.2, this.1, (lo0 hn).1, (lo0 hn).2, by omega⟩
    · exact ⟨ha, by simp [ho, usesS], by simp [hs], (lo0 hn).1, (lo0 hn).2, by omega⟩
  | s d cl =>
    obtain ⟨-, hn, -, h1⟩ := h1
    rcases h1 with ⟨ho, hs, hto⟩ | ⟨ho, hm, hto⟩ | ⟨ho, hm, hto⟩ | ⟨ho, hm, hto⟩ | ⟨ho, hs, hto, _⟩ | ⟨ho, hs, hto⟩ | ⟨ho, hm, hto⟩ | ⟨ho, hm, hto⟩ | ⟨ho, hs, hto, _⟩ | ⟨ho, hs, hto⟩ | ⟨ho, hs, hto⟩
    all_goals
      first
      | exact ⟨ha, by simp [ho, usesS], by simp [hs], (lo0 hn).1, (lo0 hn).2, by omega⟩
      | (have := Nm.sl hV hm; exact ⟨ha, fun _ => this.2, this.1, (lo0 hn).1, (lo0 hn).2, by omega⟩)
  | c d =>
    obtain ⟨ho, hm, hn, hto, -⟩ := h1
    have := Nm.sl hV hm
    exact ⟨ha, fun _ => this.2, this.1, (lo0 hn).1, (lo0 hn).2, by omega⟩
theorem Gr.ok (hV : ∀ t, V t → TkV t) {x : Fo} : ∀ {p : List It} {st : Option It}, Gr V p st x → x.ok := by
  induction x with
  | nil => intro p st _; trivial
  | cons h k r ih1 ih2 =>
    intro p st hg
    cases p with
    | cons it p => simp only [Gr] at hg; exact ⟨It.nok hV hg.1 hg.2.1, ih1 hg.2.1, ih2 hg.2.2⟩
    | nil =>
      cases st with
      | none => simp [Gr] at hg
      | some it => simp only [Gr] at hg; exact ⟨It.nok hV hg.1 hg.2.1, ih1 hg.2.1, ih2 hg.2.2⟩

/-! a program -/
/-- Blocks, as functions have them. -/
def Bls (V : Tok → Prop) : Fo → Prop
  | .nil => True
  | .cons h k r => h.op = 11 ∧ okI V (.s 1 false) h k.len ∧ Gr V (kI (.s 1 false) h k.len).1 (kI (.s 1 false) h k.len).2 k ∧ Bls V r
theorem Bls.app {x y : Fo} (hx : Bls V x) (hy : Bls V y) : Bls V (x.app y) := by
  induction x with
  | nil => exact hy
  | cons h k r _ ih => exact ⟨hx.1, hx.2.1, hx.2.2.1, ih hx.2.2.2⟩
theorem Bls.ar {x : Fo} (hx : Bls V x) : x.ar := by
  induction x with
  | nil => trivial
  | cons h k r _ ih => exact ⟨It.ar hx.2.1 hx.2.2.1, hx.2.2.1.ar, ih hx.2.2.2⟩
theorem Bls.ok (hV : ∀ t, V t → TkV t) {x : Fo} (hx : Bls V x) : x.ok := by
  induction x with
  | nil => trivial
  | cons h k r _ ih => exact ⟨It.nok hV hx.2.1 hx.2.2.1, hx.2.2.1.ok hV, ih hx.2.2.2⟩
theorem Bls.root {x : Fo} : ∀ c, Bls V x → ∀ b ∈ x.roots c, ∃ n, (x.flat c)[b - c]? = some n ∧ n.h.op = 11 := by
  induction x with
  | nil => intro c _ b hb; cases hb
  | cons h k r _ ih =>
    intro c hx b hb
    simp only [Fo.roots, List.mem_cons] at hb
    have hl := Fo.flat_length k c
    rcases hb with rfl | hb
    · refine ⟨⟨h, k.roots c⟩, ?_, hx.1⟩
      rw [Fo.flat, List.getElem?_append_right (by omega), hl, show c + k.size - c - k.size = 0 by omega]
      rfl
    · have hlt := Fo.roots_lt r _ _ hb
      obtain ⟨n, h1, h2⟩ := ih _ hx.2.2.2 b hb
      refine ⟨n, ?_, h2⟩
      rw [Fo.flat, List.getElem?_append_right (by omega), hl, show b - c - k.size = (b - (c + k.size + 1)) + 1 by omega, List.getElem?_cons_succ]
      exact h1
structure GlV (V : Tok → Prop) (g : Gl) : Prop where
  ty : g.ty = 1 ∨ g.ty = 2 ∨ g.ty = 3
  ar : g.ty = 3 → 1 ≤ g.n
  nm : Nm V g.s
  n : 0 ≤ g.n ∧ g.n ≤ 1024
structure FnV (V : Tok → Prop) (f : Fn') : Prop where
  ty : f.ty = 0 ∨ f.ty = 1 ∨ f.ty = 2
  nm : Nm V f.s
  ps : ∀ p ∈ f.ps, (p.ty = 1 ∨ p.ty = 2) ∧ Nm V p.s
/-- No more than the tokens that were read. -/
def cnt (p : Pg) : Nat := p.g.length + p.f.length + (p.f.map fun f => f.ps.length).sum
/-- A program as far as it was read. -/
structure PgOk (V : Tok → Prop) (K : Nat) (p : Pg) (s : St) : Prop where
  ln : cnt p + s.l.length ≤ K
  vs : Vs V s
  c : s.c = p.t.size
  le : s.c ≤ 4000
  rt : p.f.map (·.b) = p.t.roots 0
  bl : Bls V p.t
  gl : ∀ g ∈ p.g, GlV V g
  fn : ∀ f ∈ p.f, FnV V f

variable {e : Tok} (he : e.k = 4)
include he
theorem block_b {n : Nat} {s : St} (hV : Vs V s) (hc : s.c ≤ 4000) :
    Ans (fun b s' => Vs V s' ∧ s'.c = s.c + b.size ∧ s'.c ≤ 4000 ∧ ∃ h k, b = Fo.one h k ∧ Bls V b) (blockB e (run e n) 1 s) :=
  (must_a he hV).bind fun _ s1 ⟨a1, a2⟩ => (run_a he n (.blk 1) s1 a1 (by omega) trivial).bind fun a s2 ⟨b1, b2, b3, b4⟩ => by
    unfold addM
    split
    · trivial
    · refine ⟨b1, ?_, by simp; omega, _, _, rfl, ?_⟩
      · simp only [lft] at b2; simp only [Fo.one, Fo.size]; omega
      · simp only [Spec] at b4
        exact ⟨rfl, ⟨by omega, rfl, rfl, .inl ⟨rfl, rfl, rfl⟩⟩, by simpa [kI, kS] using b4, trivial⟩
theorem param_b {s : St} (hV : Vs V s) : Ans (fun p s' => Vs V s' ∧ s'.c = s.c ∧ (p.ty = 1 ∨ p.ty = 2) ∧ Nm V p.s) (paramM e s) :=
  (typed_a he hV).bind fun k s1 ⟨a1, a2, a3⟩ => (name_a he a1).bind fun t s2 ⟨b1, b2, b3⟩ => ⟨b1, by omega, by simpa using a3, b3⟩
theorem more_b : ∀ (n : Nat) (l : List Pm) (s : St), Vs V s → (∀ p ∈ l, (p.ty = 1 ∨ p.ty = 2) ∧ Nm V p.s) → Ans (fun ps s' => Vs V s' ∧ s'.c = s.c ∧ ∀ p ∈ ps, (p.ty = 1 ∨ p.ty = 2) ∧ Nm V p.s) (moreM e n l s) := by
  intro n
  induction n with
  | zero => intro l s _ _; trivial
  | succ n ih =>
    intro l s hV hl
    unfold moreM
    split
    · refine (param_b he (Vs.nx he hV)).bind fun p s1 ⟨a1, a2, a3⟩ => (ih (l ++ [p]) s1 a1 ?_).mono fun ps s2 ⟨b1, b2, b3⟩ => ⟨b1, by simp only [St.nx] at a2; omega, b3⟩
      intro x hx
      rcases List.mem_append.1 hx with hx | hx
      · exact hl x hx
      · simp at hx; subst hx; exact a3
    · exact ⟨hV, rfl, hl⟩
theorem params_b {n : Nat} {s : St} (hV : Vs V s) : Ans (fun ps s' => Vs V s' ∧ s'.c = s.c ∧ ∀ p ∈ ps, (p.ty = 1 ∨ p.ty = 2) ∧ Nm V p.s) (paramsM e n s) :=
  (param_b he hV).bind fun p s1 ⟨a1, a2, a3⟩ => (more_b he n [p] s1 a1 (fun x hx => by simp at hx; subst hx; exact a3)).mono fun ps s2 ⟨b1, b2, b3⟩ => ⟨b1, by omega, b3⟩
theorem function_b {n : Nat} {kind : Int} {t : Tok} {s : St} (hk : kind = 0 ∨ kind = 1 ∨ kind = 2) (ht : Nm V t.s) (hV : Vs V s) (hc : s.c ≤ 4000) :
    Ans (fun x s' => Vs V s' ∧ s'.c = s.c + x.2.size ∧ s'.c ≤ 4000 ∧ FnV V x.1 ∧ Bls V x.2 ∧ x.2.roots s.c = [x.1.b]) (functionM e n kind t s) := by
  refine (must_a he hV).bind fun _ s1 ⟨a1, a2⟩ => ?_
  refine Ans.bind (P := fun ps s' => Vs V s' ∧ s'.c = s1.c ∧ ∀ p ∈ ps, (p.ty = 1 ∨ p.ty = 2) ∧ Nm V p.s) ?_ fun ps s2 ⟨b1, b2, b3⟩ => ?_
  · split
    · exact ⟨a1, rfl, fun p hp => by cases hp⟩
    · exact params_b he a1
  · refine (must_a he b1).bind fun _ s3 ⟨c1, c2⟩ => (block_b he c1 (by omega)).bind fun b s4 ⟨d1, d2, d3, h, k, d4, d5⟩ => ?_
    refine ⟨d1, by simp only; omega, d3, ⟨hk, ht, b3⟩, d5, ?_⟩
    subst d4
    simp only [Fo.one, Fo.roots, Fo.size] at d2 ⊢
    congr 1
    omega
theorem size_b {s : St} (hV : Vs V s) : Ans (fun n s' => Vs V s' ∧ s'.c = s.c ∧ 1 ≤ n ∧ n ≤ 1024) (sizeM e s) := by
  unfold sizeM
  split
  · trivial
  · split
    · trivial
    · exact ⟨Vs.nx he hV, rfl, by omega, by omega⟩
theorem global_b {kind : Int} {t : Tok} {s : St} (hk : kind = 1 ∨ kind = 2 ∨ kind = 3) (ht : Nm V t.s) (hV : Vs V s) : Ans (fun g s' => Vs V s' ∧ s'.c = s.c ∧ GlV V g) (globalM e kind t s) := by
  unfold globalM
  split
  · exact (must_a he hV).bind fun _ s1 ⟨a1, a2⟩ => (size_b he a1).bind fun n s2 ⟨b1, b2, b3, b4⟩ => (must_a he b1).bind fun _ s3 ⟨c1, c2⟩ => (must_a he c1).bind fun _ s4 ⟨d1, d2⟩ => ⟨d1, by omega, hk, fun _ => b3, ht, by simp only; omega, b4⟩
  · rename_i h9
    exact (must_a he hV).bind fun _ s1 ⟨a1, a2⟩ => ⟨a1, a2, hk, fun h' => absurd (Or.inl h') h9, ht, by simp⟩
theorem more_n : ∀ (n : Nat) (l : List Pm) (s : St), Ans (fun ps s' => ps.length + s'.l.length ≤ l.length + s.l.length) (moreM e n l s) := by
  intro n
  induction n with
  | zero => intro l s; trivial
  | succ n ih =>
    intro l s
    unfold moreM
    split
    · rename_i hq
      have hn := ne_of_q he (s := s) (fun h' => by simp [isT, h'] at hq)
      refine (param_ends he s.nx).ans.bind fun p s1 h1 => (ih (l ++ [p]) s1).mono fun ps s2 h2 => ?_
      simp only [List.length_append, List.length_cons, List.length_nil] at h2
      omega
    · exact Nat.le_refl _
theorem function_n (n : Nat) (k : Int) (t : Tok) (s : St) (h : 4 * s.l.length + 8 ≤ n) : Ans (fun x s' => x.1.ps.length + 1 + s'.l.length ≤ s.l.length) (functionM e n k t s) := by
  refine (must_ends he (by simp) s).ans.bind fun _ s1 h1 => ?_
  refine Ans.bind (P := fun ps s' => ps.length + s'.l.length ≤ s1.l.length) ?_ fun ps s2 h2 => (must_ends he (by simp) s2).ans.bind fun _ s3 h3 => (blockB_ends he (run_ends he n) 1 s3 (by omega)).ans.bind fun b s4 h4 => ?_
  · split
    · simp [Ans, Rs.Sat]
    · refine (param_ends he s1).ans.bind fun p s2 h2 => (more_n he n [p] s2).mono fun ps s3 h3 => ?_
      simp only [List.length_cons, List.length_nil] at h3
      omega
  · show ps.length + 1 + s4.l.length ≤ s.l.length
    omega
theorem item_b {n K : Nat} {p : Pg} {s : St} (hf : 4 * s.l.length + 4 ≤ n) (h : PgOk V K p s) : Ans (PgOk V K) (itemM e n p s) := by
  refine ((typed_a he h.vs).and (typed_ends he _ s).ans).bind fun kind s1 ⟨⟨a1, a2, a3⟩, a4⟩ => ((name_a he a1).and (name_ends he s1).ans).bind fun t s2 ⟨⟨b1, b2, b3⟩, b4⟩ => ?_
  have hk : kind = 0 ∨ kind = 1 ∨ kind = 2 ∨ kind = 3 := by simpa using a3
  have hc := h.c
  have hle := h.le
  have hln := h.ln
  unfold cnt at hln
  split
  · rename_i h9
    have hk : kind = 0 ∨ kind = 1 ∨ kind = 2 := by
      rcases h9 with h9 | h9
      · exact .inl h9
      · omega
    refine ((function_b he (n := n) hk b3 b1 (by omega)).and (function_n he n kind t s2 (by omega))).bind fun x s3 ⟨⟨c1, c2, c3, c4, c5, c6⟩, c7⟩ => ?_
    refine ⟨?_, c1, ?_, c3, ?_, h.bl.app c5, h.gl, ?_⟩
    · simp only [cnt, List.length_append, List.length_cons, List.length_nil, List.map_append, List.map_cons, List.map_nil, List.sum_append, List.sum_cons, List.sum_nil]
      omega
    · simp only [Fo.size_app]; omega
    · simp only [List.map_append, List.map_cons, List.map_nil, Fo.roots_app, h.rt, ← c6]
      congr 2
      omega
    · intro f hf
      rcases List.mem_append.1 hf with hf | hf
      · exact h.fn f hf
      · simp at hf; subst hf; exact c4
  · rename_i h9
    have hk : kind = 1 ∨ kind = 2 ∨ kind = 3 := by
      have h8 : kind ≠ 0 := fun h' => h9 (Or.inl h')
      omega
    refine ((global_b he hk b3 b1).and (global_ends he kind t s2).ans).bind fun g s3 ⟨⟨c1, c2, c3⟩, c4⟩ => ?_
    refine ⟨?_, c1, by simp only; omega, by omega, h.rt, h.bl, ?_, h.fn⟩
    · simp only [cnt, List.length_append, List.length_cons, List.length_nil]
      omega
    · intro x hx
      rcases List.mem_append.1 hx with hx | hx
      · exact h.gl x hx
      · simp at hx; subst hx; exact c3
theorem prog_b {K : Nat} : ∀ (n : Nat) (p : Pg) (s : St), 4 * s.l.length + 5 ≤ n → PgOk V K p s → Ans (PgOk V K) (progM e n p s) := by
  intro n
  induction n with
  | zero => intro p s _ _; trivial
  | succ n ih =>
    intro p s hf h
    unfold progM
    split
    · exact h
    · exact ((item_b he (by omega) h).and (item_ends he n p s (by omega)).ans).bind fun q s1 ⟨h1, h2⟩ => ih q s1 (by omega) h1
end
/-- What is read of tokens of which each is so. -/
theorem parse_b {V : Tok → Prop} {l : List Tok} (hV : ∀ t ∈ l, V t) : Ans (PgOk V l.length) (parseL l) :=
  have hl : (relT l).length ≤ l.length := (List.takeWhile_sublist _).length_le
  prog_b (endT_k l) _ _ _ (by unfold fuelT; simp only; omega) ⟨(by simp [cnt]; exact hl), fun t ht => hV t ((List.takeWhile_sublist _).subset ht), rfl, by simp, rfl, trivial, fun g hg => (by cases hg), fun f hf => (by cases hf)⟩

/-! what a shape is -/
theorem PgOk.own {V : Tok → Prop} {K : Nat} {p : Pg} {s : St} (h : PgOk V K p s) (k : Nat) : (kidsOf (p.t.flat 0)).count k + (p.f.map (·.b)).count k = if k < p.t.size then 1 else 0 := by
  have := Fo.own p.t 0 k
  rw [h.rt, this]
  simp
end Go.Proofs.YtfaoiajhoifalaaGreatDoor
/-! Lexpa0 -/
namespace Go.Proofs.YtfaoiajhoifalaaGreatDoor
open Go.RowKit Go.Shelf
set_option linter.unusedVariables false
set_option linter.unusedSimpArgs false

/-- The text of a token. -/
def txt (t : Tok) : List UInt8 := if t.k = 2 then Lib.itoa t.n ++ t.s else t.s
/-- The texts of tokens; a TEnd has none. -/
def txts (l : List Tok) : List (List UInt8) := (l.filter fun t => decide (t.k ≠ 4)).map txt
def TokOk (t : Tok) : Prop := t.s.length ≤ 24 ∧ -9223372036854775808 ≤ t.n ∧ t.n ≤ 9223372036854775807

theorem Env.of_heap {w w' : World} (h : Env w) (hh : w'.heap = w.heap) : Env w' := by
  obtain ⟨tp, p, hr⟩ := h.rng
  exact ⟨(World.var?_heap hh _).trans h.tab, ⟨tp, p, (World.var?_heap hh _).trans hr⟩, (World.var?_heap hh _).trans h.sgn, by rw [hh]; exact h.szS, by rw [hh]; exact h.szT, by rw [hh]; exact h.szR⟩

theorem itoa_any (n : Int) (h0 : -9223372036854775808 ≤ n) (h1 : n ≤ 9223372036854775807) (w : World) (hE : Env w) :
    Calls Tryz.prog 194 #[.int .i64 n] w fun e w' => e = .returned (.string (str (Lib.itoa n))) ∧ Below w.heap.size w w' :=
  (Tryz.strconv_Itoa n h0 h1 w hE.tab).mono (by rintro e w' ⟨rfl, k, os, rfl⟩; exact ⟨rfl, Lib.below_grow _ _ (Nat.le_refl _) _ _⟩)

theorem txt_len {t : Tok} (h : TokOk t) : (txt t).length ≤ 45 := by
  obtain ⟨h1, h2, h3⟩ := h
  have h4 := Lib.itoa_length_le t.n h2 h3
  unfold txt
  split
  · rw [List.length_append]; omega
  · omega
theorem txts_snoc (l : List Tok) (t : Tok) : txts (l ++ [t]) = txts l ++ (if t.k = 4 then [] else [txt t]) := by
  unfold txts
  rw [List.filter_append, List.map_append]
  by_cases h : t.k = 4 <;> simp [h]

/-- Joined by one blank. -/
def jstep (a x : List UInt8) : List UInt8 := if a = [] then x else a ++ 32 :: x
def jn (l : List (List UInt8)) : List UInt8 := l.foldl jstep []
theorem jn_snoc (l : List (List UInt8)) (x : List UInt8) : jn (l ++ [x]) = jstep (jn l) x := by simp [jn]
theorem jn_len (l : List (List UInt8)) (h : ∀ x ∈ l, x.length ≤ 45) : (jn l).length ≤ l.length * 46 := by
  have key : ∀ (l : List (List UInt8)) (a : List UInt8), (∀ x ∈ l, x.length ≤ 45) → (l.foldl jstep a).length ≤ a.length + l.length * 46 := by
    intro l
    induction l with
    | nil => intro a _; simp
    | cons x l ih =>
      intro a h
      have h1 := ih (jstep a x) (fun y hy => h y (List.mem_cons_of_mem _ hy))
      have h2 := h x (by simp)
      have h3 : (jstep a x).length ≤ a.length + 46 := by
        unfold jstep
        split
        · omega
        · rw [List.length_append, List.length_cons]; omega
      rw [List.foldl_cons, List.length_cons]
      omega
  have := key l [] h
  simpa [jn] using this
theorem txts_len {l : List Tok} (h : ∀ t ∈ l, TokOk t) : ∀ x ∈ txts l, x.length ≤ 45 := by
  intro x hx
  obtain ⟨t, ht, rfl⟩ := List.mem_map.1 hx
  exact txt_len (h t (List.mem_filter.1 ht).1)
end Go.Proofs.YtfaoiajhoifalaaGreatDoor
/-! Lexn -/
namespace Go.Proofs.YtfaoiajhoifalaaGreatDoor
set_option linter.unusedVariables false
set_option linter.unusedSimpArgs false

theorem hd_app {f : UInt8 → Bool} {l : List UInt8} (x : List UInt8) (h : l ≠ []) : hd f (l ++ x) = hd f l := by
  cases l with
  | nil => exact absurd rfl h
  | cons c r => rfl
theorem hd_ne {f : UInt8 → Bool} {l : List UInt8} (h : hd f l = true) : l ≠ [] := by
  rintro rfl; simp [hd] at h

/-- Are these bytes blanks from end to end? In which state do they end? -/
def gp : Bool → List UInt8 → Option Bool
  | st, [] => some st
  | false, c :: r => if isB c then gp false r else if decide (c.toNat = 47) && hd (fun d => decide (d.toNat = 47)) r then gp true r else none
  | true, c :: r => if decide (c.toNat = 10) then gp false r else gp true r

theorem gp_sk (g x : List UInt8) (st st' : Bool) (h : gp st g = some st') : sk st (g ++ x) = g.length + sk st' x := by
  induction g generalizing st with
  | nil => simp only [gp, Option.some.injEq] at h; subst h; simp
  | cons c r ih =>
    cases st
    · simp only [gp] at h
      simp only [List.cons_append, sk, List.length_cons]
      split at h
      · rename_i hb
        rw [if_pos hb, ih _ h]; omega
      · rename_i hb
        rw [if_neg hb]
        split at h
        · rename_i hc
          have h2 : hd (fun d => decide (d.toNat = 47)) (r ++ x) = hd (fun d => decide (d.toNat = 47)) r := hd_app x (hd_ne (by simp only [Bool.and_eq_true] at hc; exact hc.2))
          rw [h2, if_pos hc, ih _ h]; omega
        · cases h
    · simp only [gp] at h
      simp only [List.cons_append, sk, List.length_cons]
      split at h
      · rename_i hb
        rw [if_pos hb, ih _ h]; omega
      · rename_i hb
        rw [if_neg hb, ih _ h]; omega

theorem gp_append (g x : List UInt8) (st st' : Bool) (h : gp st g = some st') : gp st (g ++ x) = gp st' x := by
  induction g generalizing st with
  | nil => simp only [gp, Option.some.injEq] at h; subst h; rfl
  | cons c r ih =>
    cases st
    · simp only [gp] at h
      simp only [List.cons_append, gp]
      split at h
      · rename_i hb
        rw [if_pos hb, ih _ h]
      · rename_i hb
        rw [if_neg hb]
        split at h
        · rename_i hc
          have h2 : hd (fun d => decide (d.toNat = 47)) (r ++ x) = hd (fun d => decide (d.toNat = 47)) r := hd_app x (hd_ne (by simp only [Bool.and_eq_true] at hc; exact hc.2))
          rw [h2, if_pos hc, ih _ h]
        · cases h
    · simp only [gp] at h
      simp only [List.cons_append, gp]
      split at h
      · rename_i hb
        rw [if_pos hb, ih _ h]
      · rename_i hb
        rw [if_neg hb, ih _ h]

theorem sk_pos {d : UInt8} {q : List UInt8} : 1 ≤ sk true (d :: q) := by simp only [sk]; split <;> omega

theorem sk_gp (l : List UInt8) (st : Bool) : ∃ st', gp st (l.take (sk st l)) = some st' ∧ sk st' (l.drop (sk st l)) = 0 ∧ (st' = true → l.drop (sk st l) = []) := by
  induction l generalizing st with
  | nil => exact ⟨st, by simp [gp], by simp [sk], by simp⟩
  | cons c r ih =>
    cases st
    · by_cases hb : isB c = true
      · obtain ⟨s, h1, h2, h3⟩ := ih false
        refine ⟨s, ?_, ?_, ?_⟩ <;> simp only [sk, if_pos hb, List.take_succ_cons, List.drop_succ_cons]
        · simp only [gp, if_pos hb]; exact h1
        · exact h2
        · exact h3
      · by_cases hc : (decide (c.toNat = 47) && hd (fun d => decide (d.toNat = 47)) r) = true
        · obtain ⟨s, h1, h2, h3⟩ := ih true
          refine ⟨s, ?_, ?_, ?_⟩ <;> simp only [sk, if_neg hb, if_pos hc, List.take_succ_cons, List.drop_succ_cons]
          · have hr : hd (fun d => decide (d.toNat = 47)) (r.take (sk true r)) = hd (fun d => decide (d.toNat = 47)) r := by
              cases r with
              | nil => simp
              | cons d q =>
                have := @sk_pos d q
                obtain ⟨k, hk⟩ : ∃ k, sk true (d :: q) = k + 1 := ⟨_, (Nat.sub_add_cancel this).symm⟩
                rw [hk]; rfl
            simp only [gp, if_neg hb, hr, if_pos hc]; exact h1
          · exact h2
          · exact h3
        · have e : sk false (c :: r) = 0 := by simp only [sk, if_neg hb, if_neg hc]
          exact ⟨false, by rw [e]; rfl, by rw [e, List.drop_zero, e], by simp⟩
    · by_cases hb : decide (c.toNat = 10) = true
      · obtain ⟨s, h1, h2, h3⟩ := ih false
        refine ⟨s, ?_, ?_, ?_⟩ <;> simp only [sk, if_pos hb, List.take_succ_cons, List.drop_succ_cons]
        · simp only [gp, if_pos hb]; exact h1
        · exact h2
        · exact h3
      · obtain ⟨s, h1, h2, h3⟩ := ih true
        refine ⟨s, ?_, ?_, ?_⟩ <;> simp only [sk, if_neg hb, List.take_succ_cons, List.drop_succ_cons]
        · simp only [gp, if_neg hb]; exact h1
        · exact h2
        · exact h3

/-- A gap, a token's text, the token. -/
abbrev Seg := List UInt8 × List UInt8 × Tok

/-- A text as gaps and tokens. -/
inductive Sg : List UInt8 → List Seg → Prop
  | fin (g : List UInt8) (st : Bool) : gp false g = some st → Sg g []
  | step (g u r : List UInt8) (tk : Tok) (segs : List Seg) : gp false g = some false → u ≠ [] → sc (u ++ r) = (tk, u.length, 0) → sk false (u ++ r) = 0 → Sg r segs → Sg (g ++ (u ++ r)) ((g, u, tk) :: segs)

/-- The tokens with their places. -/
def tokL (e : Nat) : Nat → List Seg → List Tok
  | _, [] => [⟨4, e, 0, []⟩]
  | a, s :: r => s.2.2.to ((a + s.1.length : Nat)) :: tokL e (a + s.1.length + s.2.1.length) r

theorem Sg.seq {l : List UInt8} {segs : List Seg} (h : Sg l segs) : ∀ n a, l.length < n → sq n (a + sk false l) (l.drop (sk false l)) = (tokL (a + l.length) a segs).map fun t => (t, 0) := by
  induction h with
  | fin g st hg =>
    intro n a hn
    obtain ⟨n, rfl⟩ : ∃ k, n = k + 1 := ⟨n - 1, by omega⟩
    have h1 := gp_sk g [] false st hg
    rw [List.append_nil] at h1
    have h2 : sk st [] = 0 := by simp [sk]
    have hk : sk false g = g.length := by omega
    rw [hk, List.drop_length]
    simp [sq, tokL]
  | step g u r tk segs hg hu hsc h0 hr ih =>
    intro n a hn
    obtain ⟨n, rfl⟩ : ∃ k, n = k + 1 := ⟨n - 1, by omega⟩
    have h1 := gp_sk g (u ++ r) false false hg
    have hk : sk false (g ++ (u ++ r)) = g.length := by omega
    rw [hk, List.drop_left]
    have hne : u ++ r ≠ [] := by simp [hu]
    have hul : 1 ≤ u.length := List.length_pos_iff.2 hu
    rw [sq, if_neg hne, hsc, if_neg (by simp)]
    simp only
    rw [List.drop_left, ← List.drop_drop, List.drop_left, ih n (a + g.length + u.length) (by simp at hn; omega), tokL, List.map_cons]
    have e1 : a + g.length + u.length + r.length = a + (g ++ (u ++ r)).length := by simp; omega
    rw [e1]

theorem seq_Sg (n : Nat) : ∀ (l : List UInt8) (a : Nat), l.length < n → (∀ x ∈ sq n (a + sk false l) (l.drop (sk false l)), x.2 = 0) → ∃ segs, Sg l segs := by
  induction n with
  | zero => intro l a h; omega
  | succ n ih =>
    intro l a hn hall
    obtain ⟨st, h1, h2, h3⟩ := sk_gp l false
    have hl : l = l.take (sk false l) ++ l.drop (sk false l) := (List.take_append_drop _ _).symm
    generalize hx : l.drop (sk false l) = x at *
    generalize hg : l.take (sk false l) = g at *
    by_cases hxe : x = []
    · subst hxe
      rw [List.append_nil] at hl
      exact ⟨[], by rw [hl]; exact .fin g st h1⟩
    · have hst : st = false := by
        cases st
        · rfl
        · exact absurd (h3 rfl) hxe
      subst hst
      rw [sq, if_neg hxe] at hall
      by_cases h0 : (sc x).2.2 = 0
      · rw [if_neg (by simpa using h0)] at hall
        have hsz := sc_size h0
        have hxs : x = x.take (sc x).2.1 ++ x.drop (sc x).2.1 := (List.take_append_drop _ _).symm
        have hul : (x.take (sc x).2.1).length = (sc x).2.1 := by rw [List.length_take]; omega
        have hrl : (x.drop (sc x).2.1).length < n := by
          have : l.length = g.length + x.length := by rw [hl, List.length_append]
          rw [List.length_drop]; omega
        obtain ⟨segs, hs⟩ := ih (x.drop (sc x).2.1) (a + sk false l + (sc x).2.1) hrl (by
          intro y hy
          apply hall y
          rw [List.drop_drop] at hy
          exact List.mem_cons_of_mem _ hy)
        refine ⟨(g, x.take (sc x).2.1, (sc x).1) :: segs, ?_⟩
        rw [hl]
        have := Sg.step g (x.take (sc x).2.1) (x.drop (sc x).2.1) (sc x).1 segs h1 (by intro e; rw [e] at hul; simp at hul; omega) (by rw [← hxs, hul]; rw [← h0]) (by rw [← hxs]; exact h2) hs
        rw [← hxs] at this
        exact this
      · rw [if_pos (by simpa using h0)] at hall
        exact absurd (hall _ (List.mem_singleton.2 rfl)) h0

/-- What follows a token may be this in the place of that. -/
def nx (r r' : List UInt8) : Prop := r' = [] ∨ hd isB r' = true ∨ ∀ f, hd f r' = hd f r

theorem nx_hd {f : UInt8 → Bool} (hf : ∀ c, isB c = true → f c = false) {r r' : List UInt8} (h : nx r r') (h0 : hd f r = false) : hd f r' = false := by
  rcases h with rfl | h | h
  · rfl
  · cases r' with
    | nil => rfl
    | cons c q => exact hf c h
  · rw [h]; exact h0
theorem nx_app {f : UInt8 → Bool} (hf : ∀ c, isB c = true → f c = false) {r r' : List UInt8} (h : nx r r') (u : List UInt8) (h0 : hd f (u ++ r) = false) : hd f (u ++ r') = false := by
  cases u with
  | nil => exact nx_hd hf h h0
  | cons c q => exact h0

theorem blank_N (c : UInt8) (h : isB c = true) : isN c = false := by
  simp only [isB, Bool.or_eq_true, decide_eq_true_eq] at h
  simp only [isN, isL, isD, Bool.or_eq_false_iff, Bool.and_eq_false_iff, decide_eq_false_iff_not]
  omega
theorem blank_D (c : UInt8) (h : isB c = true) : isD c = false := by
  have := blank_N c h
  simp only [isN, Bool.or_eq_false_iff] at this
  exact this.2
theorem blank_eq (k : Nat) (hk : k ≠ 32 ∧ k ≠ 10) (c : UInt8) (h : isB c = true) : decide (c.toNat = k) = false := by
  simp only [isB, Bool.or_eq_true, decide_eq_true_eq] at h
  simp only [decide_eq_false_iff_not]
  omega

theorem len_app {f : UInt8 → Bool} (u r : List UInt8) (hu : ∀ c ∈ u, f c = true) (hr : hd f r = false) : len f (u ++ r) = u.length := by
  induction u with
  | nil =>
    cases r with
    | nil => rfl
    | cons c q => simp only [hd] at hr; simp [len, hr]
  | cons c q ih =>
    simp only [List.cons_append, len, hu c (by simp), if_true, List.length_cons]
    rw [ih fun d hd => hu d (List.mem_cons_of_mem _ hd)]

theorem len_split {f : UInt8 → Bool} {u r : List UInt8} (h : len f (u ++ r) = u.length) : (∀ c ∈ u, f c = true) ∧ hd f r = false := by
  have h1 := len_mem f (u ++ r)
  have h2 := hd_drop_len f (u ++ r)
  rw [h, List.take_left] at h1
  rw [h, List.drop_left] at h2
  exact ⟨h1, h2⟩

theorem name_stable {u r r' : List UInt8} {tk : Tok} (hu : u ≠ []) (h : scName (u ++ r) = (tk, u.length, 0)) (hn : nx r r') : scName (u ++ r') = (tk, u.length, 0) := by
  unfold scName at h
  split at h
  · simp at h
  · rename_i h24
    simp only [Prod.mk.injEq] at h
    obtain ⟨h1, h2, _⟩ := h
    obtain ⟨h3, h4⟩ := len_split h2
    have h5 := len_app u r' h3 (nx_hd blank_N hn h4)
    rw [h2] at h1 h24
    rw [scName, h5, if_neg h24, ← h1, List.take_left, List.take_left]

theorem find_sub {α : Type} {p p' : α → Bool} {l : List α} {u : α} (hs : ∀ x ∈ l, p' x = true → p x = true) (hu : p' u = true) (h : l.find? p = some u) : l.find? p' = some u := by
  induction l with
  | nil => cases h
  | cons x l ih =>
    rw [List.find?_cons] at h ⊢
    cases hx : p x
    · rw [hx] at h
      have hx' : p' x = false := by
        rw [← Bool.not_eq_true]
        intro e
        rw [hs x (by simp) e] at hx
        cases hx
      rw [hx']
      exact ih (fun y hy => hs y (List.mem_cons_of_mem _ hy)) h
    · rw [hx] at h
      simp only [Option.some.injEq] at h
      subst h
      rw [hu]

theorem sg_second : ∀ s ∈ sg, ∀ a b q, s = a :: b :: q → isB b = false ∧ q = [] := by
  have h : ∀ s ∈ sg, (match s with | _ :: b :: q => !isB b && q.isEmpty | _ => true) = true := by decide
  intro s hs a b q e
  have := h s hs
  subst e
  simp only [Bool.and_eq_true, Bool.not_eq_true', List.isEmpty_iff] at this
  exact this

theorem sg_ne : ∀ s ∈ sg, s ≠ [] := by decide

theorem sign_stable {u r r' : List UInt8} {tk : Tok} (hu : u ≠ []) (h : scSign (u ++ r) = (tk, u.length, 0)) (hn : nx r r') : scSign (u ++ r') = (tk, u.length, 0) := by
  unfold scSign at h
  split at h
  · rename_i s hs
    simp only [Prod.mk.injEq] at h
    obtain ⟨h1, h2, _⟩ := h
    have hp := List.find?_some hs
    have hsm := List.mem_of_find?_eq_some hs
    have hsu : s = u := by
      obtain ⟨q, hq⟩ := List.isPrefixOf_iff_prefix.1 hp
      have := congrArg (List.take u.length) hq
      rw [List.take_left, ← h2, List.take_left] at this
      exact this
    subst hsu
    have key : ∀ x ∈ sg, x.isPrefixOf (s ++ r') = true → x.isPrefixOf (s ++ r) = true := by
      intro x hx hpx
      cases s with
      | nil => exact absurd rfl hu
      | cons c u' =>
        match x, hx, hpx with
        | [], hx, _ => exact absurd rfl (sg_ne _ hx)
        | [a], _, hpx => simpa [List.isPrefixOf] using hpx
        | a :: b :: q, hx, hpx =>
          obtain ⟨hb, rfl⟩ := sg_second _ hx a b q rfl
          simp only [List.cons_append, List.isPrefixOf, Bool.and_eq_true] at hpx ⊢
          refine ⟨hpx.1, ?_⟩
          have hpx2 := hpx.2
          have e : ∀ l : List UInt8, List.isPrefixOf [b] l = hd (fun d => b == d) l := by
            intro l; cases l with
            | nil => rfl
            | cons d q => simp [List.isPrefixOf, hd]
          rw [e] at hpx2 ⊢
          cases u' with
          | cons d q => exact hpx2
          | nil =>
            simp only [List.nil_append] at hpx2 ⊢
            rcases hn with rfl | h | h
            · simp [hd] at hpx2
            · cases r' with
              | nil => simp [hd] at hpx2
              | cons d q =>
                simp only [hd, beq_iff_eq] at hpx2 h
                subst hpx2
                rw [h] at hb; cases hb
            · rw [← h]; exact hpx2
    have hf := find_sub key (by rw [List.isPrefixOf_iff_prefix]; exact List.prefix_append _ _) hs
    rw [scSign, hf, ← h1]
  · simp at h

theorem num_stable {u r r' : List UInt8} {tk : Tok} (hu : u ≠ []) (h : scNum (u ++ r) = (tk, u.length, 0)) (hn : nx r r') : scNum (u ++ r') = (tk, u.length, 0) := by
  unfold scNum at h
  split at h
  · simp at h
  · rename_i hform
    split at h
    · simp at h
    · rename_i hmax
      simp only [Prod.mk.injEq] at h
      obtain ⟨h1, h2, _⟩ := h
      have hform' : nform (u ++ r) = false := by simpa using hform
      have hNr : hd isN r = false := by
        have := hform'
        simp only [nform, Bool.or_eq_false_iff, h2, List.drop_left] at this
        exact this.2
      have hNr' := nx_hd blank_N hn hNr
      have hdl := len_le isD (u ++ r)
      -- the parts are the same
      have key : len isD (u ++ r') = len isD (u ++ r) ∧ lng (u ++ r') = lng (u ++ r) ∧ (u ++ r').take (len isD (u ++ r)) = (u ++ r).take (len isD (u ++ r)) := by
        by_cases hL : lng (u ++ r) = true
        · have hz : len isD (u ++ r) + 1 = u.length := by rw [nsz, if_pos hL] at h2; exact h2
          have hu2 : u = u.take (len isD (u ++ r)) ++ u.drop (len isD (u ++ r)) := (List.take_append_drop _ _).symm
          have hdr : (u ++ r).drop (len isD (u ++ r)) = u.drop (len isD (u ++ r)) ++ r := List.drop_append_of_le_length (by omega)
          have hdr' : (u ++ r').drop (len isD (u ++ r)) = u.drop (len isD (u ++ r)) ++ r' := List.drop_append_of_le_length (by omega)
          have htk : (u ++ r).take (len isD (u ++ r)) = u.take (len isD (u ++ r)) := List.take_append_of_le_length (by omega)
          have htk' : (u ++ r').take (len isD (u ++ r)) = u.take (len isD (u ++ r)) := List.take_append_of_le_length (by omega)
          have hdne : u.drop (len isD (u ++ r)) ≠ [] := by intro e; have := congrArg List.length e; rw [List.length_drop] at this; simp at this; omega
          have hm := len_mem isD (u ++ r)
          have hx := hd_drop_len isD (u ++ r)
          rw [htk] at hm
          rw [hdr, hd_app _ hdne] at hx
          generalize hD : len isD (u ++ r) = D at *
          have h5 : len isD (u ++ r') = D := by
            have h6 := len_app (u.take D) (u.drop D ++ r') hm (by rw [hd_app _ hdne]; exact hx)
            rw [← List.append_assoc, List.take_append_drop] at h6
            rw [h6, List.length_take]; omega
          refine ⟨h5, ?_, by rw [htk, htk']⟩
          unfold lng
          rw [h5, hD, hdr, hdr', hd_app _ hdne, hd_app _ hdne]
        · have hL' : lng (u ++ r) = false := by simpa using hL
          have hz : len isD (u ++ r) = u.length := by rw [nsz, if_neg hL] at h2; exact h2
          obtain ⟨h3, h4⟩ := len_split hz
          have h5 := len_app u r' h3 (nx_hd blank_D hn h4)
          refine ⟨by rw [h5, hz], ?_, by rw [hz, List.take_left, List.take_left]⟩
          rw [hL']
          unfold lng at hL' ⊢
          rw [hz, List.drop_left] at hL'
          rw [h5, List.drop_left]
          exact nx_hd (blank_eq 76 (by omega)) hn hL'
      obtain ⟨k1, k2, k3⟩ := key
      have hz' : nsz (u ++ r') = u.length := by rw [nsz, k1, k2, ← nsz]; exact h2
      have hf' : nform (u ++ r') = false := by
        have := hform'
        simp only [nform, Bool.or_eq_false_iff] at this ⊢
        refine ⟨?_, by rw [hz', List.drop_left]; exact hNr'⟩
        rw [k1, hd_app r' hu]
        rw [hd_app r hu] at this
        exact this.1
      have hv : nval (u ++ r') = nval (u ++ r) := by rw [nval, k1, k3, ← nval]
      have hx' : nmax (u ++ r') = nmax (u ++ r) := by rw [nmax, k2, ← nmax]
      have hk' : nmark (u ++ r') = nmark (u ++ r) := by rw [nmark, k2, ← nmark]
      rw [scNum, hf', if_neg (by simp), hv, hx', if_neg hmax, hk', hz', ← h1]

theorem sc_stable {u r r' : List UInt8} {tk : Tok} (hu : u ≠ []) (h : sc (u ++ r) = (tk, u.length, 0)) (hn : nx r r') : sc (u ++ r') = (tk, u.length, 0) := by
  unfold sc at h ⊢
  rw [hd_app r hu] at h
  rw [hd_app r' hu]
  split at h
  · rename_i h1
    rw [if_pos h1]
    exact name_stable hu h hn
  · rename_i h1
    rw [if_neg h1]
    rw [hd_app r hu] at h
    rw [hd_app r' hu]
    split at h
    · rename_i h2
      rw [if_pos h2]
      exact num_stable hu h hn
    · rename_i h2
      rw [if_neg h2]
      exact sign_stable hu h hn

theorem sk0_stable {u r r' : List UInt8} (hu : u ≠ []) (h : sk false (u ++ r) = 0) (hn : nx r r') : sk false (u ++ r') = 0 := by
  cases u with
  | nil => exact absurd rfl hu
  | cons c q =>
    simp only [List.cons_append, sk] at h ⊢
    split at h
    · omega
    · rename_i hb
      rw [if_neg hb]
      split at h
      · omega
      · rename_i hc
        rw [if_neg]
        intro e
        simp only [Bool.and_eq_true] at e hc
        have h2 : hd (fun d => decide (d.toNat = 47)) (q ++ r) = false := by
          rw [← Bool.not_eq_true]; intro e2; exact hc ⟨e.1, e2⟩
        rw [nx_app (blank_eq 47 (by omega)) hn q h2] at e
        cases e.2
end Go.Proofs.YtfaoiajhoifalaaGreatDoor
/-! Lexo -/
namespace Go.Proofs.YtfaoiajhoifalaaGreatDoor
set_option linter.unusedVariables false
set_option linter.unusedSimpArgs false

theorem dv_snoc (acc : Nat) (l : List UInt8) (c : UInt8) : dv acc (l ++ [c]) = dv acc l * 10 + (c.toNat - 48) := by
  rw [dv, List.foldl_append, List.foldl_cons, List.foldl_nil, ← dv, dg]

theorem dec_small {u : Nat} (h : u < 10) : Lib.decDigits u = [UInt8.ofNat (48 + u)] := by rw [Lib.decDigits, dif_pos h]
theorem dec_big {u : Nat} (h : ¬ u < 10) : Lib.decDigits u = Lib.decDigits (u / 10) ++ [UInt8.ofNat (48 + u % 10)] := by rw [Lib.decDigits, dif_neg h]

theorem dv_pos (l : List UInt8) (h0 : l ≠ []) (hd0 : ∀ c q, l = c :: q → c.toNat ≠ 48 ∧ isD c = true) : 1 ≤ dv 0 l := by
  cases l with
  | nil => exact absurd rfl h0
  | cons c q =>
    obtain ⟨h1, h2⟩ := hd0 c q rfl
    simp only [isD, Bool.and_eq_true, decide_eq_true_eq] at h2
    rw [dv_cons]
    have := dv_ge q (0 * 10 + (c.toNat - 48))
    omega

theorem ofNat_digit {c : UInt8} (h : isD c = true) : UInt8.ofNat (48 + (c.toNat - 48)) = c := by
  simp only [isD, Bool.and_eq_true, decide_eq_true_eq] at h
  have : 48 + (c.toNat - 48) = c.toNat := by omega
  rw [this]
  simp

theorem dec_dv (n : Nat) : ∀ l : List UInt8, l.length = n → l ≠ [] → (∀ c ∈ l, isD c = true) → (1 < l.length → ∀ c q, l = c :: q → c.toNat ≠ 48) → Lib.decDigits (dv 0 l) = l := by
  induction n with
  | zero => intro l hl h0; exact absurd (List.eq_nil_of_length_eq_zero hl) h0
  | succ n ih =>
    intro l hl h0 hd hz
    obtain ⟨q, c, rfl⟩ : ∃ q c, l = q ++ [c] := ⟨l.dropLast, l.getLast h0, (List.dropLast_concat_getLast h0).symm⟩
    have hc := hd c (by simp)
    have hc2 := hc
    simp only [isD, Bool.and_eq_true, decide_eq_true_eq] at hc2
    rw [dv_snoc]
    by_cases hq : q = []
    · subst hq
      have e : dv 0 [] = 0 := dv_nil 0
      rw [e, Nat.zero_mul, Nat.zero_add, dec_small (by omega), ofNat_digit hc]
      rfl
    · have hlen : q.length = n := by simp at hl; exact hl
      have hq1 : 1 ≤ q.length := List.length_pos_iff.2 hq
      have hhead : ∀ a t, q = a :: t → a.toNat ≠ 48 := by
        intro a t e
        exact hz (by rw [List.length_append]; simp; omega) a (t ++ [c]) (by rw [e]; rfl)
      have hqd : ∀ a ∈ q, isD a = true := fun a ha => hd a (List.mem_append_left _ ha)
      have hp := dv_pos q hq (fun a t e => ⟨hhead a t e, hqd a (by rw [e]; simp)⟩)
      have hi := ih q hlen hq hqd (fun _ => hhead)
      generalize dv 0 q = v at *
      have e1 : (v * 10 + (c.toNat - 48)) / 10 = v := by omega
      have e2 : (v * 10 + (c.toNat - 48)) % 10 = c.toNat - 48 := by omega
      rw [dec_big (by omega), e1, e2, hi, ofNat_digit hc]

theorem sc_txt {u r : List UInt8} {tk : Tok} (hu : u ≠ []) (h : sc (u ++ r) = (tk, u.length, 0)) : txt tk = u ∧ TokOk tk ∧ tk.k ≠ 4 := by
  unfold sc at h
  split at h
  · unfold scName at h
    split at h
    · simp at h
    · rename_i h24
      simp only [Prod.mk.injEq] at h
      obtain ⟨h1, h2, _⟩ := h
      rw [h2, List.take_left] at h1
      rw [h2] at h24
      subst h1
      exact ⟨by simp [txt], ⟨by simp; omega, by simp, by simp⟩, by simp⟩
  · split at h
    · rename_i hD
      unfold scNum at h
      split at h
      · simp at h
      · rename_i hform
        split at h
        · simp at h
        · rename_i hmax
          simp only [Prod.mk.injEq] at h
          obtain ⟨h1, h2, _⟩ := h
          have hd1 := hd_len hD
          have hdl := len_le isD (u ++ r)
          have hmem := len_mem isD (u ++ r)
          have hb : nval (u ++ r) ≤ 9223372036854775807 := by
            have : nmax (u ++ r) ≤ 9223372036854775807 := by unfold nmax; split <;> omega
            omega
          have hne : (u ++ r).take (len isD (u ++ r)) ≠ [] := by
            intro e
            have := congrArg List.length e
            rw [List.length_take] at this
            simp only [List.length_nil] at this
            omega
          have hz : 1 < ((u ++ r).take (len isD (u ++ r))).length → ∀ c q, (u ++ r).take (len isD (u ++ r)) = c :: q → c.toNat ≠ 48 := by
            intro h1 c q e e48
            have hf : nform (u ++ r) = false := by simpa using hform
            simp only [nform, Bool.or_eq_false_iff, Bool.and_eq_false_iff] at hf
            rw [List.length_take] at h1
            rcases hf.1 with h3 | h3
            · simp at h3; omega
            · have : ∃ t, u ++ r = c :: t := by
                cases hl : u ++ r with
                | nil => rw [hl] at e; simp at e
                | cons a t =>
                  rw [hl] at e
                  obtain ⟨k, hk⟩ : ∃ k, len isD (a :: t) = k + 1 := ⟨len isD (a :: t) - 1, by rw [hl] at hd1; omega⟩
                  rw [hk, List.take_succ_cons] at e
                  exact ⟨t, by rw [(List.cons.inj e).1]⟩
              obtain ⟨t, ht⟩ := this
              rw [ht] at h3
              simp [hd, e48] at h3
          have hdd := dec_dv _ _ rfl hne hmem hz
          have htxt : Lib.itoa (nval (u ++ r) : Int) ++ nmark (u ++ r) = u := by
            have e1 : Lib.itoa (nval (u ++ r) : Int) = (u ++ r).take (len isD (u ++ r)) := by
              rw [Lib.itoa, if_neg (by omega), Int.toNat_natCast]; exact hdd
            rw [e1]
            by_cases hL : lng (u ++ r) = true
            · have hz : len isD (u ++ r) + 1 = u.length := by rw [nsz, if_pos hL] at h2; exact h2
              rw [nmark, if_pos hL, List.take_append_of_le_length (by omega)]
              have hL2 := hL
              unfold lng at hL2
              rw [List.drop_append_of_le_length (by omega)] at hL2
              generalize len isD (u ++ r) = D at *
              have hu2 : u = u.take D ++ u.drop D := (List.take_append_drop _ _).symm
              have hdl2 : (u.drop D).length = 1 := by rw [List.length_drop]; omega
              match hdr : u.drop D, hdl2 with
              | [x], _ =>
                rw [hdr] at hL2
                simp only [List.cons_append, hd, decide_eq_true_eq] at hL2
                have hx : x = 76 := UInt8.toNat_inj.1 hL2
                rw [← hx]
                conv => rhs; rw [hu2, hdr]
            · have hz : len isD (u ++ r) = u.length := by rw [nsz, if_neg hL] at h2; exact h2
              rw [nmark, if_neg hL, hz, List.take_left, List.append_nil]
          subst h1
          refine ⟨by simp only [txt, if_true]; exact htxt, ⟨?_, by show (-9223372036854775808 : Int) ≤ (nval (u ++ r) : Int); omega, by show (nval (u ++ r) : Int) ≤ 9223372036854775807; omega⟩, by simp⟩
          simp only [nmark]; split <;> simp
    · unfold scSign at h
      split at h
      · rename_i s hs
        simp only [Prod.mk.injEq] at h
        obtain ⟨h1, h2, _⟩ := h
        have hp := List.find?_some hs
        have hsm := List.mem_of_find?_eq_some hs
        have hsu : s = u := by
          obtain ⟨q, hq⟩ := List.isPrefixOf_iff_prefix.1 hp
          have := congrArg (List.take u.length) hq
          rw [List.take_left, ← h2, List.take_left] at this
          exact this
        subst hsu
        subst h1
        have := sg_sizes s hsm
        exact ⟨by simp [txt], ⟨by show s.length ≤ 24; omega, by simp, by simp⟩, by simp⟩
      · simp at h

def us (segs : List Seg) : List (List UInt8) := segs.map fun s => s.2.1

theorem Sg.tok {l : List UInt8} {segs : List Seg} (h : Sg l segs) : ∀ s ∈ segs, s.2.1 ≠ [] ∧ txt s.2.2 = s.2.1 ∧ TokOk s.2.2 ∧ s.2.2.k ≠ 4 := by
  induction h with
  | fin g st hg => intro s hs; cases hs
  | step g u r tk segs hg hu hsc h0 hr ih =>
    intro s hs
    rcases List.mem_cons.1 hs with rfl | hs
    · obtain ⟨h1, h2, h3⟩ := sc_txt hu hsc
      exact ⟨hu, h1, h2, h3⟩
    · exact ih s hs

theorem tokL_ok {l : List UInt8} {segs : List Seg} (h : Sg l segs) (e : Nat) : ∀ a, ∀ t ∈ tokL e a segs, TokOk t := by
  have ht := h.tok
  clear h
  induction segs with
  | nil => intro a t hm; rw [tokL, List.mem_singleton] at hm; subst hm; exact ⟨by simp, by simp, by simp⟩
  | cons s q ih =>
    intro a t hm
    rw [tokL] at hm
    rcases List.mem_cons.1 hm with rfl | hm
    · exact (ht s (by simp)).2.2.1
    · exact ih (fun x hx => ht x (List.mem_cons_of_mem _ hx)) _ t hm

theorem txts_tokL {l : List UInt8} {segs : List Seg} (h : Sg l segs) (e : Nat) : ∀ a, txts (tokL e a segs) = us segs := by
  have ht := h.tok
  clear h
  induction segs with
  | nil => intro a; simp [tokL, txts, us]
  | cons s q ih =>
    intro a
    have h1 := ht s (by simp)
    have h2 := ih (fun x hx => ht x (List.mem_cons_of_mem _ hx)) (a + s.1.length + s.2.1.length)
    rw [tokL]
    have h3 : txts (s.2.2.to ((a + s.1.length : Nat)) :: tokL e (a + s.1.length + s.2.1.length) q) = txt (s.2.2.to ((a + s.1.length : Nat))) :: txts (tokL e (a + s.1.length + s.2.1.length) q) := by
      unfold txts
      rw [List.filter_cons, if_pos (by simp only [decide_eq_true_eq]; exact h1.2.2.2), List.map_cons]
    rw [h3, h2]
    have h4 : txt (s.2.2.to ((a + s.1.length : Nat))) = s.2.1 := by rw [← h1.2.1]; rfl
    rw [h4]; rfl

/-- Joined, from the front. -/
def jo : List (List UInt8) → List UInt8
  | [] => []
  | x :: r => if r = [] then x else x ++ 32 :: jo r

theorem jo_snoc (l : List (List UInt8)) (x : List UInt8) : jo (l ++ [x]) = if l = [] then x else jo l ++ 32 :: x := by
  induction l with
  | nil => simp [jo]
  | cons y l ih =>
    rw [List.cons_append, jo, if_neg (by simp), if_neg (by simp), ih, jo]
    by_cases h : l = []
    · subst h; simp
    · rw [if_neg h, if_neg h]; simp

theorem jn_jo (l : List (List UInt8)) (hne : ∀ x ∈ l, x ≠ []) : jn l = jo l := by
  suffices h : ∀ n, n ≤ l.length → jn (l.take n) = jo (l.take n) by have := h l.length (Nat.le_refl _); rwa [List.take_length] at this
  intro n
  induction n with
  | zero => intro _; rfl
  | succ n ih =>
    intro hn
    have ih := ih (by omega)
    rw [List.take_succ_eq_append_getElem (by omega), jn_snoc, jo_snoc, ih, jstep]
    by_cases h : l.take n = []
    · rw [h]; simp [jo]
    · rw [if_neg h, if_neg]
      intro e
      cases hl : l.take n with
      | nil => exact h hl
      | cons y q =>
        rw [hl, jo] at e
        have hy := hne y (List.mem_of_mem_take (by rw [hl]; simp))
        split at e
        · exact hy e
        · simp at e

theorem gp_blank : gp false [32] = some false := by decide

/-- What is printed has these tokens again. -/
theorem Sg.back {l : List UInt8} {segs : List Seg} (h : Sg l segs) : ∀ g0, gp false g0 = some false → ∃ segs', Sg (g0 ++ jo (us segs)) segs' ∧ segs'.map (fun s => s.2) = segs.map (fun s => s.2) := by
  induction h with
  | fin g st hg =>
    intro g0 h0
    exact ⟨[], by simp only [us, List.map_nil, jo, List.append_nil]; exact .fin g0 false h0, rfl⟩
  | step g u r tk segs hg hu hsc hk hr ih =>
    intro g0 h0
    by_cases hs : segs = []
    · subst hs
      have e : jo (us [(g, u, tk)]) = u ++ [] := by simp [us, jo]
      rw [e]
      exact ⟨[(g0, u, tk)], .step g0 u [] tk [] h0 hu (sc_stable hu hsc (.inl rfl)) (sk0_stable hu hk (.inl rfl)) (.fin [] false rfl), rfl⟩
    · obtain ⟨segs', h1, h2⟩ := ih [32] gp_blank
      have e : jo (us ((g, u, tk) :: segs)) = u ++ ([32] ++ jo (us segs)) := by
        have : us segs ≠ [] := by simpa [us] using hs
        show jo (u :: us segs) = _
        rw [jo, if_neg this]; rfl
      rw [e]
      have hn : nx r ([32] ++ jo (us segs)) := .inr (.inl rfl)
      exact ⟨(g0, u, tk) :: segs', .step g0 u _ tk segs' h0 hu (sc_stable hu hsc hn) (sk0_stable hu hk hn) h1, by rw [List.map_cons, List.map_cons, h2]⟩

theorem bare_tokL (e e' : Nat) : ∀ (a a' : Nat) (s s' : List Seg), s.map (fun x => x.2) = s'.map (fun x => x.2) → bareL (tokL e a s) = bareL (tokL e' a' s') := by
  intro a a' s
  induction s generalizing a a' with
  | nil =>
    intro s' h
    cases s' with
    | nil => rfl
    | cons x q => simp at h
  | cons x q ih =>
    intro s' h
    cases s' with
    | nil => simp at h
    | cons y p =>
      simp only [List.map_cons, List.cons.injEq] at h
      have h2 := ih (a + x.1.length + x.2.1.length) (a' + y.1.length + y.2.1.length) p h.2
      simp only [tokL, bareL, List.map_cons, List.cons.injEq] at h2 ⊢
      refine ⟨?_, h2⟩
      rw [h.1]; rfl

/-- What Lex answers of a text of gaps and tokens. -/
theorem Sg.lex {l : List UInt8} {segs : List Seg} (h : Sg l segs) (hl : l.length ≤ 1048576) : lexL l = (tokL l.length 0 segs, 0, 0) := by
  have h1 := h.seq (l.length + 1 - sk false l) 0
  have h2 := sk_le false l
  have h3 : seqL l = (tokL l.length 0 segs).map fun t => (t, 0) := by
    have h4 := h.seq (l.length + 1) 0 (by omega)
    rw [Nat.zero_add] at h4
    unfold seqL seqAt skAt
    rw [List.drop_zero, Nat.zero_add]
    rw [Nat.zero_add] at h4
    rw [← h4]
    apply sq_more
    · rw [List.length_drop]; omega
    · rw [List.length_drop]; omega
  rw [lexL, if_neg (by omega), h3, res_all (by simp), List.map_map]
  have : ((fun x : Tok × Int => x.1) ∘ fun t => (t, (0 : Int))) = id := rfl
  rw [this, List.map_id]

theorem res_bad {xs : List (Tok × Int)} : ∀ pre, (∀ x ∈ xs, x.2 = 0) ∨ (res pre xs).2.1 ≠ 0 := by
  induction xs with
  | nil => intro pre; exact .inl (by simp)
  | cons x xs ih =>
    intro pre
    obtain ⟨t, no⟩ := x
    by_cases h : no = 0
    · subst h
      rcases ih (pre ++ [t]) with h1 | h1
      · exact .inl (by intro y hy; rcases List.mem_cons.1 hy with rfl | hy; rfl; exact h1 y hy)
      · right; rw [res, if_neg (by simp)]; exact h1
    · right; rw [res, if_pos h]; exact h

/-- A text in which nothing is wrong is gaps and tokens. -/
theorem lex_Sg {l : List UInt8} (h : (lexL l).2.1 = 0) : l.length ≤ 1048576 ∧ ∃ segs, Sg l segs := by
  have hl : l.length ≤ 1048576 := by
    rcases Nat.lt_or_ge 1048576 l.length with h1 | h1
    · rw [lexL, if_pos h1] at h; simp at h
    · exact h1
  refine ⟨hl, ?_⟩
  rw [lexL, if_neg (by omega)] at h
  rcases res_bad (xs := seqL l) [] with h1 | h1
  · have h2 := sk_le false l
    apply seq_Sg (l.length + 1) l 0 (by omega)
    intro x hx
    apply h1 x
    unfold seqL seqAt skAt
    rw [List.drop_zero, Nat.zero_add]
    rw [Nat.zero_add] at hx
    have e : sq (l.length + 1 - sk false l) (sk false l) (l.drop (sk false l)) = sq (l.length + 1) (sk false l) (l.drop (sk false l)) := by
      apply sq_more
      · rw [List.length_drop]; omega
      · rw [List.length_drop]; omega
    rw [e]; exact hx
  · exact absurd h h1
end Go.Proofs.YtfaoiajhoifalaaGreatDoor
/-! Psb0 -/
namespace Go.Proofs.YtfaoiajhoifalaaGreatDoor
set_option linter.unusedVariables false
set_option linter.unusedSimpArgs false
set_option linter.unusedSectionVars false

/-! an error has a number -/
def EOk {α : Type} (r : Rs α) : Prop := ∀ no p, r = .er no p → no ≠ 0
theorem EOk.bind {α β : Type} {r : Rs α} {f : α → St → Rs β} (h : EOk r) (hf : ∀ a s, EOk (f a s)) : EOk (r.bind f) := by
  intro no p e
  cases r with
  | ok a s => exact hf a s no p e
  | er n q => simp only [Rs.bind, Rs.er.injEq] at e; exact h no p (by rw [e.1, e.2])
  | out => simp [Rs.bind] at e
theorem EOk.ok {α : Type} (a : α) (s : St) : EOk (Rs.ok a s) := fun no p e => by cases e
theorem EOk.out {α : Type} : EOk (Rs.out : Rs α) := fun no p e => by cases e
theorem EOk.er {α : Type} (n p : Int) (h : n ≠ 0) : EOk (Rs.er n p : Rs α) := fun no q e => by simp only [Rs.er.injEq] at e; rw [← e.1]; exact h
section
variable (e : Tok)
theorem wr_e {α : Type} (n : Int) (s : St) (h : n ≠ 0) : EOk (wr e n s : Rs α) := EOk.er _ _ h
theorem must_e (x : List UInt8) (s : St) : EOk (must e x s) := by unfold must; split; exact EOk.ok _ _; exact wr_e e 2 s (by decide)
theorem name_e (s : St) : EOk (nameM e s) := by unfold nameM; split; exact EOk.ok _ _; exact wr_e e 2 s (by decide)
theorem typed_e (ks : List Int) (s : St) : EOk (typedM e ks s) := by
  unfold typedM
  split
  · split
    · exact EOk.ok _ _
    · exact wr_e e 2 s (by decide)
  · exact wr_e e 2 s (by decide)
theorem add_e (h : Hd) (k : Fo) (s : St) : EOk (addM h k s) := by unfold addM; split; exact EOk.er _ _ (by decide); exact EOk.ok _ _
theorem enter_e (d : Nat) (s : St) : EOk (enterM e d s) := by unfold enterM; split; exact wr_e e 3 s (by decide); exact EOk.ok _ _
variable {r : Md → St → Rs Fo} (hr : ∀ m s, EOk (r m s))
include hr
theorem callB_e (f : Tok) (d : Nat) (s : St) : EOk (callB e r f d s) := by
  unfold callB
  repeat' (first | exact hr _ _ | exact EOk.ok _ _ | exact must_e e _ _ | exact name_e e _ | exact typed_e e _ _ | exact add_e _ _ _ | exact enter_e e _ _ | exact wr_e e _ _ (by decide) | refine EOk.bind ?_ (fun _ _ => ?_) | split)
theorem varB_e (d : Nat) (s : St) : EOk (varB e r d s) := by
  unfold varB elemB
  repeat' (first | exact hr _ _ | exact callB_e e hr _ _ _ | exact EOk.ok _ _ | exact must_e e _ _ | exact name_e e _ | exact typed_e e _ _ | exact add_e _ _ _ | exact enter_e e _ _ | exact wr_e e _ _ (by decide) | refine EOk.bind ?_ (fun _ _ => ?_) | split)
theorem opdB_e (d : Nat) (s : St) : EOk (opdB e r d s) := by
  unfold opdB numB unB encB encE inB
  repeat' (first | exact hr _ _ | exact varB_e e hr _ _ | exact EOk.ok _ _ | exact must_e e _ _ | exact name_e e _ | exact typed_e e _ _ | exact add_e _ _ _ | exact enter_e e _ _ | exact wr_e e _ _ (by decide) | refine EOk.bind ?_ (fun _ _ => ?_) | split)
theorem guardB_e (d : Nat) (s : St) : EOk (guardB e r d s) := by
  unfold guardB
  repeat' (first | exact hr _ _ | exact EOk.ok _ _ | exact must_e e _ _ | exact name_e e _ | exact typed_e e _ _ | exact add_e _ _ _ | exact enter_e e _ _ | exact wr_e e _ _ (by decide) | refine EOk.bind ?_ (fun _ _ => ?_) | split)
theorem namedB_e (d : Nat) (s : St) : EOk (namedB e r d s) := by
  unfold namedB storeB
  repeat' (first | exact hr _ _ | exact callB_e e hr _ _ _ | exact EOk.ok _ _ | exact must_e e _ _ | exact name_e e _ | exact typed_e e _ _ | exact add_e _ _ _ | exact enter_e e _ _ | exact wr_e e _ _ (by decide) | refine EOk.bind ?_ (fun _ _ => ?_) | split)
theorem blockB_e (d : Nat) (s : St) : EOk (blockB e r d s) := by
  unfold blockB
  repeat' (first | exact hr _ _ | exact EOk.ok _ _ | exact must_e e _ _ | exact name_e e _ | exact typed_e e _ _ | exact add_e _ _ _ | exact enter_e e _ _ | exact wr_e e _ _ (by decide) | refine EOk.bind ?_ (fun _ _ => ?_) | split)
theorem stmB_e (d : Nat) (s : St) : EOk (stmB e r d s) := by
  unfold stmB localB ifB whileB gotoB retB outB
  repeat' (first | exact hr _ _ | exact namedB_e e hr _ _ | exact guardB_e e hr _ _ | exact blockB_e e hr _ _ | exact EOk.ok _ _ | exact must_e e _ _ | exact name_e e _ | exact typed_e e _ _ | exact add_e _ _ _ | exact enter_e e _ _ | exact wr_e e _ _ (by decide) | refine EOk.bind ?_ (fun _ _ => ?_) | split)
omit hr in
theorem run_e : ∀ n m s, EOk (run e n m s) := by
  intro n
  induction n with
  | zero => intro m s; exact EOk.out
  | succ n ih =>
    intro m s
    cases m with
    | bin d l => exact EOk.bind (ih _ _) fun _ _ => ih _ _
    | loop d l x =>
      show EOk (loopB e (run e n) d l x s)
      unfold loopB
      split
      · exact EOk.ok _ _
      · exact EOk.bind (ih _ _) fun _ _ => EOk.bind (add_e _ _ _) fun _ _ => ih _ _
    | opd d => exact opdB_e e ih d s
    | args d =>
      show EOk (argsB e (run e n) d s)
      unfold argsB
      refine EOk.bind (ih _ _) fun _ _ => ?_
      split
      · exact EOk.bind (ih _ _) fun _ _ => EOk.ok _ _
      · exact EOk.ok _ _
    | stm d => exact stmB_e e ih d s
    | blk d =>
      show EOk (blkB e (run e n) d s)
      unfold blkB
      split
      · exact EOk.ok _ _
      · exact EOk.bind (ih _ _) fun _ _ => EOk.bind (ih _ _) fun _ _ => EOk.ok _ _
omit hr in
theorem param_e (s : St) : EOk (paramM e s) := EOk.bind (typed_e e _ _) fun _ _ => EOk.bind (name_e e _) fun _ _ => EOk.ok _ _
omit hr in
theorem more_e : ∀ n l s, EOk (moreM e n l s) := by
  intro n
  induction n with
  | zero => intro l s; exact EOk.out
  | succ n ih =>
    intro l s
    unfold moreM
    split
    · exact EOk.bind (param_e e _) fun _ _ => ih _ _
    · exact EOk.ok _ _
omit hr in
theorem prog_e : ∀ n p s, EOk (progM e n p s) := by
  intro n
  induction n with
  | zero => intro p s; exact EOk.out
  | succ n ih =>
    intro p s
    unfold progM
    split
    · exact EOk.ok _ _
    · refine EOk.bind ?_ fun _ _ => ih _ _
      unfold itemM functionM globalM sizeM paramsM
      repeat' (first | exact param_e e _ | exact more_e e _ _ _ | exact blockB_e e (run_e e n) _ _ | exact EOk.ok _ _ | exact must_e e _ _ | exact name_e e _ | exact typed_e e _ _ | exact wr_e e _ _ (by decide) | refine EOk.bind ?_ (fun _ _ => ?_) | split)
end
theorem parse_e (l : List Tok) : EOk (parseL l) := prog_e _ _ _ _

/-! a text -/
/-- What Read answers: the program, if the text is one. -/
def readL (l : List UInt8) : Option Pg :=
  if (lexL l).2.1 ≠ 0 then none else match parseL (lexL l).1 with
    | .ok pg _ => some pg
    | _ => none
theorem sg_count {l : List UInt8} {segs : List Seg} (h : Sg l segs) : segs.length ≤ l.length := by
  induction h with
  | fin g st hg => simp
  | step g u r tk segs hg hu hsc h0 hr ih =>
    have := List.length_pos_iff.2 hu
    simp only [List.length_cons, List.length_append]
    omega
theorem tokL_len (e a : Nat) (segs : List Seg) : (tokL e a segs).length = segs.length + 1 := by
  induction segs generalizing a with
  | nil => rfl
  | cons s q ih => rw [tokL, List.length_cons, ih, List.length_cons]
theorem tokL_V {l : List UInt8} {segs : List Seg} (h : Sg l segs) (e : Nat) : ∀ a, ∀ t ∈ tokL e a segs, TkV t := by
  have ht := h.tok
  clear h
  induction segs with
  | nil => intro a t hm; rw [tokL, List.mem_singleton] at hm; subst hm; exact ⟨by simp, by simp [isNm], by simp, by simp⟩
  | cons s q ih =>
    intro a t hm
    rw [tokL] at hm
    rcases List.mem_cons.1 hm with rfl | hm
    · obtain ⟨h1, h2, h3, h4⟩ := ht s (by simp)
      refine ⟨h3.1, fun hn => ?_, h3.2.1, h3.2.2⟩
      have hk : s.2.2.k = 1 := by
        simp only [isNm, Tok.to, Bool.and_eq_true] at hn
        exact of_decide_eq_true hn.1
      rw [txt, if_neg (by omega)] at h2
      simp only [Tok.to, h2]
      exact h1
    · exact ih (fun x hx => ht x (List.mem_cons_of_mem _ hx)) _ t hm
/-- The tokens of a text. -/
theorem lex_toks {l : List UInt8} (h : (lexL l).2.1 = 0) : l.length ≤ 1048576 ∧ (lexL l).1.length ≤ l.length + 1 ∧ ∀ t ∈ (lexL l).1, TkV t := by
  obtain ⟨hl, segs, hS⟩ := lex_Sg h
  rw [hS.lex hl]
  exact ⟨hl, by simp only [tokL_len]; have := sg_count hS; omega, tokL_V hS _ _⟩
end Go.Proofs.YtfaoiajhoifalaaGreatDoor
