/-
  PLAIN MATHEMATICS of layer parse: what is printed of trees: their tokens; the pieces that wait in a list.
-/
import Derived.Test.YtlbjjpfhkgagiaaGreatDoorLexpa
import Derived.Test.YtlbjjpfhkgagiaaGreatDoorParm
namespace Go.Proofs.YtlbjjpfhkgagiaaGreatDoor
set_option linter.unusedVariables false
set_option linter.unusedSimpArgs false

def typeW (t : Int) : List UInt8 := if t = 1 then wInt else if t = 2 then wLong else if t = 3 then wChar else wVoid
/-- The parts of a node's text, by its operation and how many kids it has. -/
def patL (op : Int) (n : Nat) : List (List UInt8) :=
  if op = 1 then [[78]]
  else if op = 2 then [[83]]
  else if op = 3 then [[83], [91], [48], [93]]
  else if op = 4 then [[83], [48]]
  else if op = 5 then [[48], [83], [49]]
  else if op = 6 then [[40], [84], [41], [48]]
  else if op = 7 then [[83], [40], [42, 44], [41]]
  else if op = 8 then [wIn, [40], [41]]
  else if op = 11 then [[123], [42], [125]]
  else if op = 12 then [[84], [83], [61], [48], [59]]
  else if op = 13 then [[83], [61], [48], [59]]
  else if op = 14 then [[83], [91], [48], [93], [61], [49], [59]]
  else if op = 15 then (if 2 < n then [wIf, [40], [48], [41], [49], wElse, [50]] else [wIf, [40], [48], [41], [49]])
  else if op = 16 then [wWhile, [40], [48], [41], [49]]
  else if op = 17 then [wGoto, [83], [59]]
  else if op = 18 then [[83], [58], [48]]
  else if op = 19 then (if 0 < n then [wReturn, [48], [59]] else [wReturn, [59]])
  else if op = 20 then [wOut, [40], [48], [41], [59]]
  else if op = 21 then [[48], [59]]
  else []
def digL (h : Hd) : List UInt8 := Lib.itoa h.n ++ if h.ty = 2 then [76] else []
/-- Would a kid be read otherwise without parentheses? -/
def encl (h : Hd) (i : Nat) (h' : Hd) : Bool :=
  if h'.op = 5 then (if h.op = 4 ∨ h.op = 6 then true else if h.op = 5 then (if i = 0 then decide (lvl h'.s < lvl h.s) else decide (lvl h'.s ≤ lvl h.s)) else false) else false

/-! tokens -/
abbrev Tx := List (List UInt8)
def kidT (h : Hd) (i : Nat) : Option (Hd × Tx) → Tx
  | some (h', t) => if encl h i h' then [40] :: (t ++ [[41]]) else t
  | none => []
def sepT (x : List UInt8) : List (Hd × Tx) → Tx
  | [] => []
  | a :: l => a.2 ++ l.flatMap fun b => x :: b.2
def partT (h : Hd) (l : List (Hd × Tx)) (x : List UInt8) : Tx :=
  if x = [78] then [digL h] else if x = [83] then [h.s] else if x = [84] then [typeW h.to]
  else if x = [48] then kidT h 0 l[0]? else if x = [49] then kidT h 1 l[1]? else if x = [50] then kidT h 2 l[2]?
  else if x = [42] then l.flatMap (·.2) else if x = [42, 44] then sepT [44] l else [x]
def nodeT (h : Hd) (l : List (Hd × Tx)) : Tx := (patL h.op l.length).flatMap (partT h l)
/-- The trees' heads and tokens. -/
def Fo.tk : Fo → List (Hd × Tx)
  | .nil => []
  | .cons h k r => (h, nodeT h k.tk) :: r.tk
theorem Fo.tk_length (x : Fo) : x.tk.length = x.len := by
  induction x with
  | nil => rfl
  | cons h k r _ ih => simp only [Fo.tk, Fo.len, List.length_cons, ih]

/-! pieces -/
inductive Pz where
  | tk (s : List UInt8)
  | nd (h : Hd) (k : Fo) (c : Nat)
def kidsP (c : Nat) : Fo → List Pz
  | .nil => []
  | .cons h k r => .nd h k c :: kidsP (c + k.size + 1) r
def kidP (h : Hd) (i : Nat) : Option Pz → List Pz
  | some (.nd h' k' c') => if encl h i h' then [.tk [40], .nd h' k' c', .tk [41]] else [.nd h' k' c']
  | _ => []
def sepP (x : List UInt8) : List Pz → List Pz
  | [] => []
  | a :: l => a :: l.flatMap fun b => [.tk x, b]
def partP (h : Hd) (l : List Pz) (x : List UInt8) : List Pz :=
  if x = [78] then [.tk (digL h)] else if x = [83] then [.tk h.s] else if x = [84] then [.tk (typeW h.to)]
  else if x = [48] then kidP h 0 l[0]? else if x = [49] then kidP h 1 l[1]? else if x = [50] then kidP h 2 l[2]?
  else if x = [42] then l else if x = [42, 44] then sepP [44] l else [.tk x]
def pcs (h : Hd) (k : Fo) (c : Nat) : List Pz := (patL h.op k.len).flatMap (partP h (kidsP c k))

def Pz.ht : Pz → Hd × Tx
  | .tk s => (⟨0, 0, 0, [], 0, 0⟩, [s])
  | .nd h k _ => (h, nodeT h k.tk)
def Pz.out (p : Pz) : Tx := p.ht.2
theorem kids_ht (k : Fo) : ∀ c, (kidsP c k).map Pz.ht = k.tk := by
  induction k with
  | nil => intro c; rfl
  | cons h k r _ ih => intro c; simp only [kidsP, List.map_cons, ih, Fo.tk, Pz.ht]
theorem kids_len (k : Fo) : ∀ c, (kidsP c k).length = k.len := by
  intro c; rw [← List.length_map (f := Pz.ht), kids_ht, Fo.tk_length]
theorem kids_nd (k : Fo) : ∀ c p, p ∈ kidsP c k → ∃ h' k' c', p = .nd h' k' c' := by
  induction k with
  | nil => intro c p h; cases h
  | cons h k r _ ih =>
    intro c p hp
    rcases List.mem_cons.1 hp with rfl | hp
    · exact ⟨_, _, _, rfl⟩
    · exact ih _ _ hp
theorem kidP_out (h : Hd) (i : Nat) (k : Fo) (c : Nat) : (kidP h i (kidsP c k)[i]?).flatMap Pz.out = kidT h i k.tk[i]? := by
  have e : k.tk[i]? = ((kidsP c k)[i]?).map Pz.ht := by rw [← kids_ht k c, List.getElem?_map]
  rw [e]
  cases hp : (kidsP c k)[i]? with
  | none => rfl
  | some p =>
    obtain ⟨h', k', c', rfl⟩ := kids_nd k c p (List.mem_of_getElem? hp)
    simp only [kidP, Option.map_some, Pz.ht, kidT]
    split
    · simp [Pz.out, Pz.ht]
    · simp [Pz.out, Pz.ht]
theorem part_out (h : Hd) (k : Fo) (c : Nat) (x : List UInt8) : (partP h (kidsP c k) x).flatMap Pz.out = partT h k.tk x := by
  unfold partP partT
  split; · simp [Pz.out, Pz.ht]
  split; · simp [Pz.out, Pz.ht]
  split; · simp [Pz.out, Pz.ht]
  split; · exact kidP_out h 0 k c
  split; · exact kidP_out h 1 k c
  split; · exact kidP_out h 2 k c
  split; · rw [← kids_ht k c, List.flatMap_map]; rfl
  split
  · rw [← kids_ht k c]
    cases kidsP c k with
    | nil => rfl
    | cons a l => simp [sepP, sepT, List.flatMap_map, List.flatMap_assoc, Pz.out, Pz.ht]
  · simp [Pz.out, Pz.ht]
theorem pcs_out (h : Hd) (k : Fo) (c : Nat) : (pcs h k c).flatMap Pz.out = nodeT h k.tk := by
  unfold pcs nodeT
  rw [List.flatMap_assoc, Fo.tk_length]
  congr 1
  funext x
  exact part_out h k c x

/-! what nodes must be -/
def arity (op : Int) (n : Nat) : Bool :=
  if op = 1 ∨ op = 2 ∨ op = 8 ∨ op = 17 then n == 0
  else if op = 3 ∨ op = 4 ∨ op = 6 ∨ op = 12 ∨ op = 13 ∨ op = 18 ∨ op = 20 ∨ op = 21 then n == 1
  else if op = 5 ∨ op = 14 ∨ op = 16 then n == 2
  else if op = 15 then n == 2 || n == 3
  else if op = 19 then n == 0 || n == 1
  else op == 7 || op == 11
def usesS (op : Int) : Bool := op == 2 || op == 3 || op == 4 || op == 5 || op == 7 || op == 12 || op == 13 || op == 14 || op == 17 || op == 18
structure NOk (h : Hd) (n : Nat) : Prop where
  ar : arity h.op n = true
  nm : usesS h.op = true → h.s ≠ []
  sl : h.s.length ≤ 24
  lo : -9223372036854775808 ≤ h.n
  hi : h.n ≤ 9223372036854775807
  tos : 0 ≤ h.to ∧ h.to ≤ 3
def Fo.ok : Fo → Prop
  | .nil => True
  | .cons h k r => NOk h k.len ∧ k.ok ∧ r.ok
def Pz.ok : Pz → Prop
  | .tk s => s ≠ [] ∧ s.length ≤ 45
  | .nd h k _ => NOk h k.len ∧ k.ok
def Pz.rng : Pz → List Nat
  | .tk _ => []
  | .nd _ k c => List.range' c (k.size + 1)
theorem kids_ok (k : Fo) : ∀ c, k.ok → ∀ p ∈ kidsP c k, p.ok := by
  induction k with
  | nil => intro c _ p h; cases h
  | cons h k r _ ih =>
    intro c hk p hp
    rcases List.mem_cons.1 hp with rfl | hp
    · exact ⟨hk.1, hk.2.1⟩
    · exact ih _ hk.2.2 _ hp
theorem kids_rng (k : Fo) : ∀ c, (kidsP c k).flatMap Pz.rng = List.range' c k.size := by
  induction k with
  | nil => intro c; rfl
  | cons h k r _ ih =>
    intro c
    simp only [kidsP, List.flatMap_cons, ih, Pz.rng, Fo.size]
    have e := List.range'_append (s := c) (m := k.size + 1) (n := r.size) (step := 1)
    rw [← e]; congr 2; omega
theorem len0 {k : Fo} (h : k.len = 0) : k = .nil := by cases k with | nil => rfl | cons _ _ _ => simp [Fo.len] at h
theorem len1 {k : Fo} (h : k.len = 1) : ∃ a x, k = .cons a x .nil := by
  cases k with
  | nil => simp [Fo.len] at h
  | cons a x r => simp [Fo.len] at h; rw [len0 h]; exact ⟨_, _, rfl⟩
theorem len2 {k : Fo} (h : k.len = 2) : ∃ a x b y, k = .cons a x (.cons b y .nil) := by
  cases k with
  | nil => simp [Fo.len] at h
  | cons a x r => simp [Fo.len] at h; obtain ⟨b, y, rfl⟩ := len1 h; exact ⟨_, _, _, _, rfl⟩
theorem len3 {k : Fo} (h : k.len = 3) : ∃ a x b y d z, k = .cons a x (.cons b y (.cons d z .nil)) := by
  cases k with
  | nil => simp [Fo.len] at h
  | cons a x r => simp [Fo.len] at h; obtain ⟨b, y, d, z, rfl⟩ := len2 h; exact ⟨_, _, _, _, _, _, rfl⟩
/-- The operations, one by one, and how many kids. -/
theorem arity_cases {op : Int} {n : Nat} (h : arity op n = true) :
    ((op = 1 ∨ op = 2 ∨ op = 8 ∨ op = 17) ∧ n = 0) ∨ ((op = 3 ∨ op = 4 ∨ op = 6 ∨ op = 12 ∨ op = 13 ∨ op = 18 ∨ op = 20 ∨ op = 21) ∧ n = 1) ∨ ((op = 5 ∨ op = 14 ∨ op = 16) ∧ n = 2) ∨
    (op = 15 ∧ n = 2) ∨ (op = 15 ∧ n = 3) ∨ (op = 19 ∧ n = 0) ∨ (op = 19 ∧ n = 1) ∨ (op = 7 ∨ op = 11) := by
  unfold arity at h
  split at h; · exact .inl ⟨by assumption, by simpa using h⟩
  split at h; · exact .inr (.inl ⟨by assumption, by simpa using h⟩)
  split at h; · exact .inr (.inr (.inl ⟨by assumption, by simpa using h⟩))
  split at h
  · rename_i e; simp at h
    rcases h with h | h
    · exact .inr (.inr (.inr (.inl ⟨e, h⟩)))
    · exact .inr (.inr (.inr (.inr (.inl ⟨e, h⟩))))
  split at h
  · rename_i e; simp at h
    rcases h with h | h
    · exact .inr (.inr (.inr (.inr (.inr (.inl ⟨e, h⟩)))))
    · exact .inr (.inr (.inr (.inr (.inr (.inr (.inl ⟨e, h⟩))))))
  · simp at h; exact .inr (.inr (.inr (.inr (.inr (.inr (.inr h))))))
theorem kidP_rng (h : Hd) (i : Nat) (h' : Hd) (k' : Fo) (c' : Nat) : (kidP h i (some (.nd h' k' c'))).flatMap Pz.rng = List.range' c' (k'.size + 1) := by
  simp only [kidP]
  split <;> simp [Pz.rng]
theorem sepP_rng (x : List UInt8) (l : List Pz) : (sepP x l).flatMap Pz.rng = l.flatMap Pz.rng := by
  cases l with
  | nil => rfl
  | cons a l =>
    have e : ∀ b : Pz, List.flatMap Pz.rng [Pz.tk x, b] = b.rng := fun b => by simp [List.flatMap_cons, Pz.rng]
    simp only [sepP, List.flatMap_cons, List.flatMap_assoc, e]
theorem pcs_rng {h : Hd} {k : Fo} (c : Nat) (ha : arity h.op k.len = true) : (pcs h k c).flatMap Pz.rng = List.range' c k.size := by
  have e2 : ∀ c a b, List.range' c (a + 1) ++ List.range' (c + a + 1) (b + 1) = List.range' c (a + 1 + (b + 1)) := fun c a b => by
    have := List.range'_append (s := c) (m := a + 1) (n := b + 1) (step := 1)
    rw [← this]; congr 2; omega
  have e3 : ∀ c a b d, List.range' c (a + 1) ++ (List.range' (c + a + 1) (b + 1) ++ List.range' (c + a + 1 + b + 1) (d + 1)) = List.range' c (a + 1 + (b + 1 + (d + 1))) := fun c a b d => by
    rw [e2, show d + 1 + 0 = d + 1 from rfl]
    have := List.range'_append (s := c) (m := a + 1) (n := b + 1 + (d + 1)) (step := 1)
    rw [← this]; congr 2; omega
  rcases arity_cases ha with ⟨ho, hn⟩ | ⟨ho, hn⟩ | ⟨ho, hn⟩ | ⟨ho, hn⟩ | ⟨ho, hn⟩ | ⟨ho, hn⟩ | ⟨ho, hn⟩ | ho
  · obtain rfl := len0 hn
    rcases ho with ho | ho | ho | ho <;> simp [pcs, patL, ho, partP, Pz.rng, Fo.size, wIn, wGoto]
  · obtain ⟨a, x, rfl⟩ := len1 hn
    rcases ho with ho | ho | ho | ho | ho | ho | ho | ho <;> simp [pcs, patL, ho, partP, kidsP, kidP_rng, Pz.rng, Fo.size, wOut]
  · obtain ⟨a, x, b, y, rfl⟩ := len2 hn
    rcases ho with ho | ho | ho <;> simp [pcs, patL, ho, partP, kidsP, kidP_rng, Pz.rng, Fo.size, wWhile, e2]
  · obtain ⟨a, x, b, y, rfl⟩ := len2 hn
    simp [pcs, patL, ho, partP, kidsP, kidP_rng, Pz.rng, Fo.size, wIf, Fo.len, e2]
  · obtain ⟨a, x, b, y, d, z, rfl⟩ := len3 hn
    simp [pcs, patL, ho, partP, kidsP, kidP_rng, Pz.rng, Fo.size, wIf, wElse, Fo.len, e3]
  · obtain rfl := len0 hn
    simp [pcs, patL, ho, partP, Pz.rng, Fo.size, wReturn, Fo.len]
  · obtain ⟨a, x, rfl⟩ := len1 hn
    simp [pcs, patL, ho, partP, kidsP, kidP_rng, Pz.rng, Fo.size, wReturn, Fo.len]
  · rcases ho with ho | ho
    · simp [pcs, patL, ho, partP, sepP_rng, kids_rng, Pz.rng]
    · simp [pcs, patL, ho, partP, kids_rng, Pz.rng]
theorem kidP_ok {h : Hd} {i : Nat} {o : Option Pz} (ho : ∀ p : Pz, o = some p → p.ok) : ∀ p ∈ kidP h i o, p.ok := by
  cases o with
  | none => intro p hp; cases hp
  | some q =>
    have hq := ho q rfl
    cases q with
    | tk s => intro p hp; cases hp
    | nd h' k' c' =>
      intro p hp
      simp only [kidP] at hp
      split at hp
      · simp at hp
        rcases hp with rfl | rfl | rfl
        · exact ⟨by simp, by simp⟩
        · exact hq
        · exact ⟨by simp, by simp⟩
      · simp at hp; rw [hp]; exact hq
theorem typeW_len (t : Int) : typeW t ≠ [] ∧ (typeW t).length ≤ 45 := by
  unfold typeW
  split; · decide
  split; · decide
  split; · decide
  decide
theorem itoa_ne (n : Int) : Lib.itoa n ≠ [] := by
  have h : ∀ u : Nat, Lib.decDigits u ≠ [] := fun u => by
    rw [Lib.decDigits]
    split <;> simp
  unfold Lib.itoa
  split
  · simp
  · exact h _
theorem digL_len {h : Hd} (h1 : -9223372036854775808 ≤ h.n) (h2 : h.n ≤ 9223372036854775807) : digL h ≠ [] ∧ (digL h).length ≤ 45 := by
  have h4 := Lib.itoa_length_le h.n h1 h2
  have h5 := itoa_ne h.n
  unfold digL
  refine ⟨by simp [h5], ?_⟩
  rw [List.length_append]
  split <;> simp <;> omega
theorem ite_mem {α : Type} {c : Prop} [Decidable c] {a b : List α} {P : α → Prop} (h1 : c → ∀ x ∈ a, P x) (h2 : ¬ c → ∀ x ∈ b, P x) : ∀ x ∈ (if c then a else b), P x := by
  split
  · exact h1 (by assumption)
  · exact h2 (by assumption)
theorem pat_words (op : Int) (n : Nat) : ∀ x ∈ patL op n, x ≠ [] ∧ x.length ≤ 45 := by
  unfold patL
  repeat' (first | (refine ite_mem (fun _ => ?_) (fun _ => ?_)) | decide)
theorem pat_S {op : Int} {n : Nat} (h : [83] ∈ patL op n) : usesS op = true := by
  have key : ∀ x ∈ patL op n, x = [83] → usesS op = true := by
    unfold patL
    repeat' (first | (refine ite_mem (fun _ => ?_) (fun _ => ?_)) | (intro x hx e; subst e; exact absurd hx (by decide)) | (rename_i e; subst e; intro _ _ _; rfl))
  exact key _ h rfl
theorem pcs_ok {h : Hd} {k : Fo} (c : Nat) (hn : NOk h k.len) (hk : k.ok) : ∀ p ∈ pcs h k c, p.ok := by
  intro p hp
  obtain ⟨x, hx, hp⟩ := List.mem_flatMap.1 hp
  have hw := pat_words h.op k.len x hx
  have hkk := kids_ok k c hk
  have hki : ∀ (i : Nat) (p : Pz), (kidsP c k)[i]? = some p → p.ok := fun i p h => hkk p (List.mem_of_getElem? h)
  unfold partP at hp
  split at hp
  · simp at hp; rw [hp]; exact digL_len hn.lo hn.hi
  split at hp
  · rename_i _ e; subst e
    simp at hp; rw [hp]; exact ⟨hn.nm (pat_S hx), by have := hn.sl; omega⟩
  split at hp
  · simp at hp; rw [hp]; exact typeW_len _
  split at hp; · exact kidP_ok (hki 0) p hp
  split at hp; · exact kidP_ok (hki 1) p hp
  split at hp; · exact kidP_ok (hki 2) p hp
  split at hp; · exact hkk p hp
  split at hp
  · revert hp hkk
    cases kidsP c k with
    | nil => intro _ hp; cases hp
    | cons a l =>
      intro hkk hp
      simp [sepP] at hp
      rcases hp with rfl | ⟨b, hb, rfl | rfl⟩
      · exact hkk _ (by simp)
      · exact ⟨by simp, by simp⟩
      · exact hkk _ (by simp [hb])
  · simp at hp; rw [hp]; exact hw

/-! how many tokens -/
theorem length2 {α : Type} {l : List α} (h : l.length = 2) : ∃ a b, l = [a, b] := by
  match l, h with
  | [a, b], _ => exact ⟨a, b, rfl⟩
theorem length3 {α : Type} {l : List α} (h : l.length = 3) : ∃ a b c, l = [a, b, c] := by
  match l, h with
  | [a, b, c], _ => exact ⟨a, b, c, rfl⟩
def sumL (l : List (Hd × Tx)) : Nat := (l.map fun a => a.2.length).sum
theorem sepT_len (x : List UInt8) (l : List (Hd × Tx)) : (sepT x l).length ≤ sumL l + l.length := by
  cases l with
  | nil => simp [sepT]
  | cons a l =>
    have : ∀ l : List (Hd × Tx), (l.flatMap fun b => x :: b.2).length = sumL l + l.length := by
      intro l
      induction l with
      | nil => rfl
      | cons b l ih => simp only [List.flatMap_cons, List.length_append, List.length_cons, ih, sumL, List.map_cons, List.sum_cons]; omega
    simp only [sepT, List.length_append, this, sumL, List.map_cons, List.sum_cons, List.length_cons]
    omega
theorem kidT_len (h : Hd) (i : Nat) (a : Hd × Tx) : (kidT h i (some a)).length ≤ a.2.length + 2 := by
  simp only [kidT]
  split <;> simp
theorem nodeT_len {h : Hd} {l : List (Hd × Tx)} (ha : arity h.op l.length = true) : (nodeT h l).length ≤ sumL l + l.length + 14 := by
  have f : ∀ l : List (Hd × Tx), (l.flatMap (·.2)).length = sumL l := fun l => by simp [sumL, List.length_flatMap]
  rcases arity_cases ha with ⟨ho, hn⟩ | ⟨ho, hn⟩ | ⟨ho, hn⟩ | ⟨ho, hn⟩ | ⟨ho, hn⟩ | ⟨ho, hn⟩ | ⟨ho, hn⟩ | ho
  · obtain rfl := List.length_eq_zero_iff.1 hn
    rcases ho with ho | ho | ho | ho <;> simp [nodeT, patL, ho, partT, wIn, wGoto]
  · obtain ⟨a, rfl⟩ := List.length_eq_one_iff.1 hn
    have h0 := kidT_len h 0 a
    rcases ho with ho | ho | ho | ho | ho | ho | ho | ho <;> simp [nodeT, patL, ho, partT, sumL, wOut] <;> omega
  · obtain ⟨a, b, rfl⟩ := length2 hn
    have h0 := kidT_len h 0 a
    have h1 := kidT_len h 1 b
    rcases ho with ho | ho | ho <;> simp [nodeT, patL, ho, partT, sumL, wWhile] <;> omega
  · obtain ⟨a, b, rfl⟩ := length2 hn
    have h0 := kidT_len h 0 a
    have h1 := kidT_len h 1 b
    simp [nodeT, patL, ho, partT, sumL, wIf] <;> omega
  · obtain ⟨a, b, d, rfl⟩ := length3 hn
    have h0 := kidT_len h 0 a
    have h1 := kidT_len h 1 b
    have h2 := kidT_len h 2 d
    simp [nodeT, patL, ho, partT, sumL, wIf, wElse] <;> omega
  · obtain rfl := List.length_eq_zero_iff.1 hn
    simp [nodeT, patL, ho, partT, wReturn]
  · obtain ⟨a, rfl⟩ := List.length_eq_one_iff.1 hn
    have h0 := kidT_len h 0 a
    simp [nodeT, patL, ho, partT, sumL, wReturn] <;> omega
  · rcases ho with ho | ho
    · have := sepT_len [44] l
      simp [nodeT, patL, ho, partT] <;> omega
    · simp [nodeT, patL, ho, partT, f] <;> omega
theorem Fo.len_le (x : Fo) : x.len ≤ x.size := by
  induction x with
  | nil => exact Nat.le_refl _
  | cons h k r _ ih => simp only [Fo.len, Fo.size]; omega
theorem tk_count (x : Fo) : x.ok → sumL x.tk + x.len ≤ 16 * x.size := by
  induction x with
  | nil => intro _; simp [sumL, Fo.tk, Fo.len, Fo.size]
  | cons h k r ihk ihr =>
    intro ho
    have h1 := ihk ho.2.1
    have h2 := ihr ho.2.2
    have h3 := nodeT_len (l := k.tk) (h := h) (by rw [Fo.tk_length]; exact ho.1.ar)
    rw [Fo.tk_length] at h3
    simp only [sumL, Fo.tk, List.map_cons, List.sum_cons, Fo.len, Fo.size] at *
    omega
end Go.Proofs.YtlbjjpfhkgagiaaGreatDoor
