/-
  PLAIN MATHEMATICS of layer dom: a visit of block 0, semidominators, dominators, what is split: as functions; what a visit keeps. No Go in sight.
-/
import Derived.Test.YtjmlpbnejcfnhaaIrm
namespace Go.Proofs.Ytjmlpbnejcfnhaa
set_option linter.unusedVariables false
set_option linter.unusedSimpArgs false

/-- The successors of an end. -/
def tosM (e : Eb) : List Int := if e.k = 1 then [e.to] else if e.k = 2 then (if e.to = e.el then [e.to] else [e.to, e.el]) else []
/-- The same, as numbers of blocks. -/
def tosN (e : Eb) : List Nat := (tosM e).map Int.toNat
/-- Do all ends lead to blocks that are there? -/
def endsOk (es : List Eb) : Bool := es.all fun e => (tosM e).all fun t => decide (0 ≤ t) && decide (t < (es.length : Int))
/-- A visit: each block's number (-1: none), the block of each number, its parent's number, the blocks in the order in which they were finished. -/
structure Wk where
  num : List Int
  blk : List Nat
  par : List Nat
  ord : List Nat
  deriving DecidableEq, Inhabited
def Wk.begun (k : Wk) (at_ par : Nat) : Wk := { num := k.num.set at_ k.blk.length, blk := k.blk ++ [at_], par := k.par ++ [par], ord := k.ord }
def Wk.done (k : Wk) (at_ : Nat) : Wk := { k with ord := k.ord ++ [at_] }
/-- A block is visited, with so much fuel. -/
def visW (T : List (List Nat)) : Nat → Nat → Nat → Wk → Wk
  | 0, _, _, k => k
  | F + 1, at_, par, k => ((T.getD at_ []).foldl (fun s to => if s.num.getD to 0 < 0 then visW T F to k.blk.length s else s) (k.begun at_ par)).done at_
def wk0 (N : Nat) : Wk := ⟨List.replicate N (-1), [], [], []⟩
def walkM (T : List (List Nat)) : Wk := if T.length = 0 then wk0 0 else
  let k := visW T T.length 0 0 (wk0 T.length)
  { k with ord := k.ord.reverse }
/-- From which numbers edges lead to each number. -/
def srcStep (T : List (List Nat)) (k : Wk) (n : Nat) (fr : List (List Nat)) : List (List Nat) :=
  (T.getD (k.blk.getD n 0) []).foldl (fun fr to => let j := (k.num.getD to 0).toNat; fr.set j (fr.getD j [] ++ [n])) fr
def srcsM (T : List (List Nat)) (k : Wk) : List (List Nat) := (List.range k.blk.length).foldl (fun fr n => srcStep T k n fr) (List.replicate k.blk.length [])
/-- From f on up to n. -/
def climbM (par : List Nat) (n : Nat) : Nat → Nat → List Nat → List Nat
  | 0, _, s => s
  | F + 1, f, s => if n < f then climbM par n F (par.getD f 0) (s.set n (min (s.getD n 0) (s.getD f 0))) else s
def semi1 (par : List Nat) (n : Nat) (s : List Nat) (f : Nat) : List Nat :=
  let s := if f < n then s.set n (min (s.getD n 0) f) else s
  climbM par n (f + 1) f s
def semiN (par : List Nat) (fr : List (List Nat)) : Nat → List Nat → List Nat
  | 0, s => s
  | n + 1, s => if n = 0 then s else semiN par fr n ((fr.getD n []).foldl (semi1 par n) s)
def semiM (T : List (List Nat)) (k : Wk) : List Nat := semiN k.par (srcsM T k) k.par.length k.par
/-- The nearest that dominates, by numbers. -/
def nearN (se : List Nat) (n : Nat) : Nat → List Nat → List Nat
  | 0, s => s
  | F + 1, s => if se.getD n 0 < s.getD n 0 then nearN se n F (s.set n (s.getD (s.getD n 0) 0)) else s
def nearM (se par : List Nat) : List Nat := (List.range par.length).foldl (fun s n => nearN se n (par.length + 1) s) par
def domsM (T : List (List Nat)) (k : Wk) : List Int :=
  let nr := nearM (semiM T k) k.par
  (List.range k.blk.length).foldl (fun d n => d.set (k.blk.getD n 0) ((k.blk.getD (nr.getD n 0) 0 : Nat) : Int)) (List.replicate T.length (-1))
structure Gph where
  T : List (List Nat)
  w : Wk
  pl : List Nat
  dm : List Int
  deriving DecidableEq, Inhabited
def placesM (N : Nat) (ord : List Nat) : List Nat := (List.range ord.length).foldl (fun p i => p.set (ord.getD i 0) i) (List.replicate N 0)
def graphM (es : List Eb) : Gph :=
  let T := es.map tosN
  let w := walkM T
  ⟨T, w, placesM T.length w.ord, domsM T w⟩
def Gph.back (g : Gph) (a b : Nat) : Bool := decide (g.pl.getD b 0 ≤ g.pl.getD a 0)
def Gph.domF (g : Gph) (x : Nat) : Nat → Nat → Bool
  | 0, y => x == y
  | F + 1, y => if g.pl.getD x 0 < g.pl.getD y 0 then g.domF x F (g.dm.getD y 0).toNat else x == y
def Gph.dom (g : Gph) (x y : Nat) : Bool := g.domF x g.pl.length y
/-- The first back edge whose target does not dominate its source. -/
def Gph.wrong (g : Gph) : Option (Nat × Nat) := (g.w.ord.flatMap fun a => (g.T.getD a []).map fun b => (a, b)).find? fun p => g.back p.1 p.2 && !g.dom p.2 p.1
def redir (e : Eb) (old to : Int) : Eb := { e with to := if e.to = old then to else e.to, el := if e.el = old then to else e.el }
/-- Split, on ends and on which block each one is a copy of; with fuel. -/
def splitF (most : Int) : Nat → List Eb → List Nat → Option (List Eb × List Nat)
  | 0, _, _ => none
  | F + 1, es, os => match (graphM es).wrong with
    | none => some (es, os)
    | some (a, b) => if min most 400 ≤ (es.length : Int) then none else
      let es' := es.set a (redir (es.getD a default) b es.length)
      splitF most F (es' ++ [es'.getD b default]) (os ++ [os.getD b 0])
def splitM (most : Int) (es : List Eb) : Option (List Eb × List Nat) := if es = [] then none else splitF most 401 es (List.range es.length)

/-! what stays -/
def Wk.un (k : Wk) : Nat := k.num.countP (fun x => decide (x < 0))
theorem countP_set_le {l : List Int} {i : Nat} {x : Int} (h : 0 ≤ x) : (l.set i x).countP (fun x => decide (x < 0)) ≤ l.countP (fun x => decide (x < 0)) := by
  induction l generalizing i with
  | nil => simp
  | cons y l ih =>
    cases i with
    | zero => simp only [List.set_cons_zero, List.countP_cons, decide_eq_true_eq, if_neg (Int.not_lt.2 h)]; omega
    | succ i => simp only [List.set_cons_succ, List.countP_cons]; have := @ih i; omega
theorem countP_set_lt {l : List Int} {i : Nat} {x y : Int} (h : 0 ≤ x) (hi : l[i]? = some y) (hy : y < 0) : (l.set i x).countP (fun x => decide (x < 0)) + 1 ≤ l.countP (fun x => decide (x < 0)) := by
  induction l generalizing i with
  | nil => simp at hi
  | cons z l ih =>
    cases i with
    | zero =>
      simp at hi; subst hi
      simp only [List.set_cons_zero, List.countP_cons, decide_eq_true_eq, if_neg (Int.not_lt.2 h), if_pos hy]; omega
    | succ i =>
      simp at hi
      simp only [List.set_cons_succ, List.countP_cons]; have := @ih i hi; omega
theorem Wk.un_begun (k : Wk) (a p : Nat) : (k.begun a p).un ≤ k.un := countP_set_le (by omega)
theorem Wk.un_begun_lt (k : Wk) {a p : Nat} {y : Int} (h : k.num[a]? = some y) (hy : y < 0) : (k.begun a p).un + 1 ≤ k.un := countP_set_lt (by omega) h hy
theorem Wk.un_done (k : Wk) (a : Nat) : (k.done a).un = k.un := rfl
theorem foldl_le {σ α : Type} (m : σ → Nat) (g : σ → α → σ) (h : ∀ s a, m (g s a) ≤ m s) (l : List α) (s : σ) : m (l.foldl g s) ≤ m s := by
  induction l generalizing s with
  | nil => exact Nat.le_refl _
  | cons a l ih => exact Nat.le_trans (ih _) (h s a)
theorem visW_un (T : List (List Nat)) (F a p : Nat) (k : Wk) : (visW T F a p k).un ≤ k.un := by
  induction F generalizing a p k with
  | zero => exact Nat.le_refl _
  | succ F ih =>
    unfold visW
    rw [Wk.un_done]
    refine Nat.le_trans (foldl_le Wk.un _ (fun s to => ?_) _ _) (k.un_begun a p)
    split
    · exact ih _ _ _
    · exact Nat.le_refl _
theorem foldl_eq {σ α β : Type} (m : σ → β) (g : σ → α → σ) (h : ∀ s a, m (g s a) = m s) (l : List α) (s : σ) : m (l.foldl g s) = m s := by
  induction l generalizing s with
  | nil => rfl
  | cons a l ih => exact (ih _).trans (h s a)
theorem visW_len (T : List (List Nat)) (F a p : Nat) (k : Wk) : (visW T F a p k).num.length = k.num.length := by
  induction F generalizing a p k with
  | zero => rfl
  | succ F ih =>
    unfold visW
    refine (foldl_eq (fun k : Wk => k.num.length) _ (fun s to => ?_) _ _).trans (by simp [Wk.begun])
    split
    · exact ih _ _ _
    · rfl
/-- What a visit keeps. -/
structure Wk.Ok (N : Nat) (k : Wk) : Prop where
  num : k.num.length = N
  par : k.par.length = k.blk.length
  b : ∀ (i b : Nat), k.blk[i]? = some b → b < N ∧ k.num[b]? = some (i : Int)
  n : ∀ (b : Nat) (x : Int), k.num[b]? = some x → x = -1 ∨ ∃ i : Nat, x = i ∧ k.blk[i]? = some b
  p : ∀ (i p : Nat), k.par[i]? = some p → (i = 0 ∧ p = 0) ∨ p < i
  o : ∀ b ∈ k.ord, b ∈ k.blk
theorem Wk.Ok.begun {N : Nat} {k : Wk} (h : k.Ok N) {a p : Nat} (ha : k.num[a]? = some (-1)) (hp : (k.blk = [] ∧ p = 0) ∨ p < k.blk.length) : (k.begun a p).Ok N := by
  have haN : a < N := by have := (List.getElem?_eq_some_iff.1 ha).1; rw [h.num] at this; exact this
  refine ⟨by simp [Wk.begun, h.num], by simp [Wk.begun, h.par], fun i b hi => ?_, fun b x hx => ?_, fun i q hi => ?_, fun b hb => by simp [Wk.begun]; exact .inl (h.o b hb)⟩
  · simp only [Wk.begun] at hi ⊢
    rcases Nat.lt_trichotomy i k.blk.length with hl | rfl | hl
    · rw [List.getElem?_append_left hl] at hi
      obtain ⟨h1, h2⟩ := h.b i b hi
      refine ⟨h1, ?_⟩
      rw [List.getElem?_set_ne (fun e => ?_)]
      · exact h2
      · subst e; rw [h2] at ha; simp at ha
    · simp at hi; subst hi
      refine ⟨haN, ?_⟩
      rw [List.getElem?_set_self (by rw [h.num]; exact haN)]
    · rw [List.getElem?_eq_none (by simp; omega)] at hi; cases hi
  · simp only [Wk.begun] at hx ⊢
    by_cases e : a = b
    · subst e
      rw [List.getElem?_set_self (by rw [h.num]; exact haN)] at hx
      refine .inr ⟨_, (Option.some.inj hx).symm, by simp⟩
    · rw [List.getElem?_set_ne e] at hx
      rcases h.n b x hx with h1 | ⟨i, h1, h2⟩
      · exact .inl h1
      · refine .inr ⟨i, h1, ?_⟩
        rw [List.getElem?_append_left (List.getElem?_eq_some_iff.1 h2).1]; exact h2
  · simp only [Wk.begun] at hi
    rcases Nat.lt_trichotomy i k.par.length with hl | rfl | hl
    · rw [List.getElem?_append_left hl] at hi; exact h.p i q hi
    · simp at hi; subst hi; rw [h.par]
      rcases hp with ⟨h1, h2⟩ | h1
      · exact .inl ⟨by rw [h1]; rfl, h2⟩
      · exact .inr h1
    · rw [List.getElem?_eq_none (by simp; omega)] at hi; cases hi
theorem Wk.Ok.done {N : Nat} {k : Wk} (h : k.Ok N) {a : Nat} (ha : a ∈ k.blk) : (k.done a).Ok N :=
  ⟨h.num, h.par, h.b, h.n, h.p, fun b hb => by
    simp only [Wk.done, List.mem_append, List.mem_singleton] at hb
    rcases hb with hb | rfl
    · exact h.o b hb
    · exact ha⟩
theorem foldl_mem {σ α : Type} (P : σ → Prop) (g : σ → α → σ) (l : List α) (h : ∀ s a, a ∈ l → P s → P (g s a)) (s : σ) (hs : P s) : P (l.foldl g s) := by
  induction l generalizing s with
  | nil => exact hs
  | cons a l ih => exact ih (fun s b hb => h s b (.tail _ hb)) _ (h s a (.head _) hs)
/-- RowsOk of blocks that are there. -/
def RowsOk (N : Nat) (T : List (List Nat)) : Prop := T.length = N ∧ ∀ r ∈ T, ∀ b ∈ r, b < N
theorem RowsOk.get {N : Nat} {T : List (List Nat)} (h : RowsOk N T) {a b : Nat} (hb : b ∈ T.getD a []) : b < N := by
  rw [List.getD_eq_getElem?_getD] at hb
  rcases e : T[a]? with _ | r
  · rw [e] at hb; simp at hb
  · rw [e] at hb; exact h.2 r (List.mem_of_getElem? e) b (by simpa using hb)
theorem Wk.Ok.neg {N : Nat} {k : Wk} (h : k.Ok N) {a : Nat} (ha : a < N) (hn : k.num.getD a 0 < 0) : k.num[a]? = some (-1) := by
  rw [List.getD_eq_getElem?_getD] at hn
  rcases e : k.num[a]? with _ | x
  · rw [e] at hn; simp at hn
  · rw [e] at hn
    rcases h.n a x e with rfl | ⟨i, rfl, -⟩
    · rfl
    · simp at hn; omega
theorem visW_ok {N : Nat} {T : List (List Nat)} (hT : RowsOk N T) (F a p : Nat) (k : Wk) (h : k.Ok N) (ha : k.num[a]? = some (-1)) (hp : (k.blk = [] ∧ p = 0) ∨ p < k.blk.length) :
    (visW T F a p k).Ok N ∧ ∃ l, (visW T F a p k).blk = k.blk ++ l := by
  induction F generalizing a p k with
  | zero => exact ⟨h, [], by simp [visW]⟩
  | succ F ih =>
    unfold visW
    obtain ⟨h1, l, h2⟩ := foldl_mem (fun s : Wk => s.Ok N ∧ ∃ l, s.blk = (k.blk ++ [a]) ++ l) (fun s to => if s.num.getD to 0 < 0 then visW T F to k.blk.length s else s) (T.getD a []) (fun s to hto ⟨h1, l, h2⟩ => by
      split
      · rename_i hlt
        obtain ⟨h3, l', h4⟩ := ih to k.blk.length s h1 (h1.neg (hT.get hto) hlt) (.inr (by rw [h2]; simp))
        exact ⟨h3, l ++ l', by rw [h4, h2, List.append_assoc]⟩
      · exact ⟨h1, l, h2⟩) (k.begun a p) ⟨h.begun ha hp, [], by simp [Wk.begun]⟩
    exact ⟨h1.done (by rw [h2]; simp), [a] ++ l, by rw [← List.append_assoc]; exact h2⟩
theorem visW_hd {N : Nat} {T : List (List Nat)} (hT : RowsOk N T) (F a p : Nat) (k : Wk) (h : k.Ok N) (ha : k.num[a]? = some (-1)) (hp : (k.blk = [] ∧ p = 0) ∨ p < k.blk.length) :
    ∃ l, (visW T (F + 1) a p k).blk = k.blk ++ a :: l := by
  unfold visW
  obtain ⟨h1, l, h2⟩ := foldl_mem (fun s : Wk => s.Ok N ∧ ∃ l, s.blk = (k.blk ++ [a]) ++ l) (fun s to => if s.num.getD to 0 < 0 then visW T F to k.blk.length s else s) (T.getD a []) (fun s to hto ⟨h1, l, h2⟩ => by
      split
      · rename_i hlt
        obtain ⟨h3, l', h4⟩ := visW_ok hT F to k.blk.length s h1 (h1.neg (hT.get hto) hlt) (.inr (by rw [h2]; simp))
        exact ⟨h3, l ++ l', by rw [h4, h2, List.append_assoc]⟩
      · exact ⟨h1, l, h2⟩) (k.begun a p) ⟨h.begun ha hp, [], by simp [Wk.begun]⟩
  exact ⟨l, by rw [← List.singleton_append, ← List.append_assoc]; exact h2⟩
theorem wk0_ok (N : Nat) : (wk0 N).Ok N := by
  refine ⟨by simp [wk0], rfl, fun i b h => by simp [wk0] at h, fun b x h => ?_, fun i p h => by simp [wk0] at h, fun b h => by simp [wk0] at h⟩
  simp only [wk0, List.getElem?_replicate] at h
  split at h
  · exact .inl (Option.some.inj h).symm
  · cases h
theorem walkM_ok {N : Nat} {T : List (List Nat)} (hT : RowsOk N T) (hN : 0 < N) : (walkM T).Ok N ∧ (walkM T).blk.head? = some 0 := by
  unfold walkM
  rw [if_neg (by rw [hT.1]; omega), hT.1]
  have ha : (wk0 N).num[0]? = some (-1) := by simp [wk0, List.getElem?_replicate]; omega
  obtain ⟨h1, l, h2⟩ := visW_ok hT N 0 0 (wk0 N) (wk0_ok N) ha (.inl ⟨rfl, rfl⟩)
  refine ⟨⟨h1.num, h1.par, h1.b, h1.n, h1.p, fun b hb => h1.o b (by simpa using hb)⟩, ?_⟩
  show (visW T N 0 0 (wk0 N)).blk.head? = _
  obtain ⟨M, rfl⟩ : ∃ M, N = M + 1 := ⟨N - 1, by omega⟩
  obtain ⟨l, h⟩ := visW_hd hT M 0 0 (wk0 (M + 1)) (wk0_ok _) ha (.inl ⟨rfl, rfl⟩)
  rw [h]
  rfl
end Go.Proofs.Ytjmlpbnejcfnhaa
