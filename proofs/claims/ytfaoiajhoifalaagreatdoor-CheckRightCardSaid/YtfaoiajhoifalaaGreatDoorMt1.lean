/-
  PLAIN MATHEMATICS of layer check: what Check finds in a program, as it goes. No Go in sight. PLAIN MATHEMATICS of layer check: the nodes of a tree, met breadth first, are those of the tree. PLAIN MATHEMATICS of layer check: what within keeps while it goes through a tree, breadth first, and marks what it has met. Layer check: maps with names for keys, in memory. Layer check: the checker in memory. Layer check: the checker in memory, when one thing changes. Layer check: faults, and scopes: the walks of refuse, has, find. Layer check: the walks of declare, open, close. Layer check: types of nodes; kids that must be values.
-/
import Derived.Test.YtfaoiajhoifalaaGreatDoorParm
import Derived.Test.YtfaoiajhoifalaaGreatDoorCm
import Derived.Test.YtfaoiajhoifalaaGreatDoorChecked
import Derived.Maps.Own
import Derived.Maps.OwnSet
import Derived.Maps.OwnOps
import Derived.Maps.Views
import Derived.StringKeys
import Derived.Laws.OwnMore
import Derived.OneCell
import Derived.Deep.QuietTactic
import Derived.BigQuiet
import Derived.RegionTactic
import Derived.WalkSmall
import Derived.Deep.Cut
import Derived.Deep.CutRange
import Derived.Laws.Pointers
import Derived.LaidMore
import Derived.Deep.AppendLies
import Derived.Deep.RegionLaw
import Derived.BigRegion
import Derived.Deep.RegionHeld2
import Derived.Deep.RegionHeld3
/-! Ckm -/
namespace Go.Proofs.YtfaoiajhoifalaaGreatDoor
set_option linter.unusedVariables false
set_option linter.unusedSimpArgs false
set_option linter.unusedSectionVars false

/-- What a name denotes: its sort (1 variable, 2 scalar, 3 array, 4 function), its Ref, its value. -/
structure Mg where
  so : Int
  rf : Int
  vl : Int
  deriving DecidableEq
abbrev Nm' := List UInt8
/-- One scope: what was declared last stands first. -/
abbrev Scp := List (Nm' × Mg)
def look {α : Type} (l : List (Nm' × α)) (x : Nm') : Option α := (l.find? fun y => decide (y.1 = x)).map (·.2)
/-- Scopes, the innermost last. -/
def lookS (l : List Scp) (x : Nm') : Option Mg := l.reverse.findSome? fun s => look s x
def decl (l : List Scp) (x : Nm') (m : Mg) : List Scp := l.dropLast ++ [(x, m) :: l.getLast?.getD []]
/-- An answer, or the first error. -/
inductive Ck (α : Type) where
  | ok (a : α)
  | er (no p : Int)
def Ck.bind {α β : Type} (r : Ck α) (f : α → Ck β) : Ck β :=
  match r with
  | .ok a => f a
  | .er n p => .er n p
def Ck.map {α β : Type} (f : α → β) (r : Ck α) : Ck β := r.bind fun a => .ok (f a)
def refuse (b : Bool) (no p : Int) : Ck Unit := if b then .er no p else .ok ()
@[simp] theorem Ck.bind_ok {α β : Type} (a : α) (f : α → Ck β) : (Ck.ok a).bind f = f a := rfl
@[simp] theorem Ck.bind_er {α β : Type} (n p : Int) (f : α → Ck β) : (Ck.er n p).bind f = .er n p := rfl
@[simp] theorem refuse_true (no p : Int) : refuse true no p = .er no p := rfl
@[simp] theorem refuse_false (no p : Int) : refuse false no p = .ok () := rfl
theorem Ck.bind_assoc {α β γ : Type} (r : Ck α) (f : α → Ck β) (g : β → Ck γ) : (r.bind f).bind g = r.bind fun a => (f a).bind g := by cases r <;> rfl

/-! globals, functions -/
def eb (t : Int) : Int := if t = 3 then 1 else if t = 1 then 4 else 8
def gMg (g : Gl) (i : Nat) : Mg := if g.n = 0 then ⟨2, -1 - i, g.ty⟩ else ⟨3, i, if g.ty = 2 then 2 else 1⟩
def globM : List Gl → Nat → Int → Scp → Ck Scp
  | [], _, _, s => .ok s
  | g :: l, i, b, s => if (look s g.s).isSome then .er 5 g.p else
    if 4096 < b + max g.n 1 * eb g.ty then .er 9 g.p else globM l (i + 1) (b + max g.n 1 * eb g.ty) ((g.s, gMg g i) :: s)
/-- Does one of these parameters bear the name of an earlier one? -/
def twice : List Pm → List Nm' → Bool
  | [], _ => false
  | p :: l, seen => decide (p.s ∈ seen) || twice l (seen ++ [p.s])
def funM : List Fn' → Nat → Scp → Ck Scp
  | [], _, s => .ok s
  | f :: l, i, s => if 32 ≤ i then .er 9 f.p else if (look s f.s).isSome then .er 5 f.p else
    if 8 < f.ps.length then .er 9 f.p else if twice f.ps [] then .er 5 f.p else funM l (i + 1) ((f.s, ⟨4, i, f.ty⟩) :: s)

/-! bodies -/
/-- What is kept while a body is gone through: each node's Type and Ref; the scopes; the variables' types. -/
structure Cs where
  tr : List (Int × Int)
  sc : List Scp
  vs : List Int
  deriving DecidableEq
def tyAt (tr : List (Int × Int)) (k : Nat) : Int := (tr.getD k (0, 0)).1
def isVal (t : Int) : Bool := decide (t = 1) || decide (t = 2)
def valsM (p : Int) (tr : List (Int × Int)) (ks : List Nat) : Ck Unit := refuse (!ks.all fun k => isVal (tyAt tr k)) 6 p
def referM (h : Hd) (so : List Int) (sc : List Scp) : Ck Mg :=
  match lookS sc h.s with
  | none => .er 4 h.p
  | some m => if m.so ∈ so then .ok m else .er 6 h.p
def iol (b : Bool) : Int := if b then 2 else 1
def cmpSigns : List (List UInt8) := [[61, 61], [33, 61], [60], [60, 61], [62], [62, 61], [38, 38], [124, 124]]
def binLong (s : List UInt8) (l r : Bool) : Bool := if s ∈ cmpSigns then false else if s = [60, 60] ∨ s = [62, 62] then l else l || r
/-- What stays the same in a body: the numbers of parameters of all functions; the function's type, its labels. -/
structure Kn where
  np : List Nat
  ft : Int
  lb : List Nm'
def setTy (σ : Cs) (i : Nat) (t : Int) : Cs := { σ with tr := σ.tr.set i (t, (σ.tr.getD i (0, 0)).2) }
def setRf (σ : Cs) (i : Nat) (r : Int) : Cs := { σ with tr := σ.tr.set i ((σ.tr.getD i (0, 0)).1, r) }
def kid (ks : List Nat) (j : Nat) : Nat := ks.getD j 0
def isLong (tr : List (Int × Int)) (k : Nat) : Bool := decide (tyAt tr k = 2)
def exprM (K : Kn) (h : Hd) (ks : List Nat) (i : Nat) (σ : Cs) : Ck Cs :=
  if h.op = 2 then (referM h [1, 2] σ.sc).bind fun m => .ok (setTy (setRf σ i m.rf) i m.vl)
  else if h.op = 3 then (referM h [3] σ.sc).bind fun m => (valsM h.p (setTy (setRf σ i m.rf) i m.vl).tr ks).bind fun _ => .ok (setTy (setRf σ i m.rf) i m.vl)
  else if h.op = 4 then (valsM h.p σ.tr ks).bind fun _ => .ok (setTy σ i (iol (!decide (h.s = [33]) && isLong σ.tr (kid ks 0))))
  else if h.op = 5 then (valsM h.p σ.tr ks).bind fun _ => .ok (setTy σ i (iol (binLong h.s (isLong σ.tr (kid ks 0)) (isLong σ.tr (kid ks 1)))))
  else if h.op = 6 then (valsM h.p σ.tr ks).bind fun _ => .ok (setTy σ i (iol (decide (h.to = 2))))
  else if h.op = 7 then (referM h [4] σ.sc).bind fun m => (refuse (decide (ks.length ≠ K.np.getD m.rf.toNat 0)) 7 h.p).bind fun _ => (valsM h.p (setTy (setRf σ i m.rf) i m.vl).tr ks).bind fun _ => .ok (setTy (setRf σ i m.rf) i m.vl)
  else if h.op = 8 then .ok (setTy σ i 2)
  else .ok σ
def stmtM (K : Kn) (h : Hd) (ks : List Nat) (i : Nat) (σ : Cs) : Ck Cs :=
  if h.op = 12 then (valsM h.p σ.tr ks).bind fun _ => (refuse (look (σ.sc.getLast?.getD []) h.s).isSome 5 h.p).bind fun _ => (refuse (decide (64 ≤ σ.vs.length)) 9 h.p).bind fun _ =>
    .ok { (setRf σ i σ.vs.length) with sc := decl σ.sc h.s ⟨1, σ.vs.length, h.to⟩, vs := σ.vs ++ [h.to] }
  else if h.op = 13 then (referM h [1, 2] σ.sc).bind fun m => (valsM h.p (setRf σ i m.rf).tr ks).bind fun _ => .ok (setRf σ i m.rf)
  else if h.op = 14 then (referM h [3] σ.sc).bind fun m => (valsM h.p (setRf σ i m.rf).tr ks).bind fun _ => .ok (setRf σ i m.rf)
  else if h.op = 15 ∨ h.op = 16 then (valsM h.p σ.tr [kid ks 0]).bind fun _ => .ok σ
  else if h.op = 17 then (refuse (!decide (h.s ∈ K.lb)) 8 h.p).bind fun _ => .ok σ
  else if h.op = 19 then (refuse (decide (0 < ks.length) == decide (K.ft = 0)) 6 h.p).bind fun _ => (valsM h.p σ.tr ks).bind fun _ => .ok σ
  else if h.op = 20 then (valsM h.p σ.tr ks).bind fun _ => .ok σ
  else .ok σ
def ruleM (K : Kn) (h : Hd) (ks : List Nat) (i : Nat) (σ : Cs) : Ck Cs := if h.op < 11 then exprM K h ks i σ else stmtM K h ks i σ
/-- Trees are visited, one behind the other: the kids, and then the node. -/
def visM (K : Kn) : Fo → Nat → Cs → Ck Cs
  | .nil, _, σ => .ok σ
  | .cons h k r, c, σ =>
    (if h.op = 11 then (visM K k c { σ with sc := σ.sc ++ [[]] }).bind fun τ => .ok { τ with sc := τ.sc.dropLast }
     else (visM K k c σ).bind fun τ => ruleM K h (k.roots c) (c + k.size) τ).bind fun τ => visM K r (c + k.size + 1) τ
def labM : List Nd → List Nm' → Ck (List Nm')
  | [], l => .ok l
  | n :: r, l => if n.h.op = 18 then (if n.h.s ∈ l then .er 5 n.h.p else labM r (l ++ [n.h.s])) else labM r l
/-- The parameters, declared. -/
def parS : List Pm → List Int → Scp → Scp
  | [], _, s => s
  | p :: l, vs, s => parS l (vs ++ [p.ty]) ((p.s, ⟨1, vs.length, p.ty⟩) :: s)
def bodyM (np : List Nat) (G : Scp) (f : Fn') (h : Hd) (k : Fo) (c : Nat) (tr : List (Int × Int)) : Ck (List (Int × Int) × List Int) :=
  (labM (Fo.flat c (.cons h k .nil)) []).bind fun lb => (visM ⟨np, f.ty, lb⟩ k c ⟨tr, [G, parS f.ps [] []], f.ps.map (·.ty)⟩).bind fun σ => .ok (σ.tr, σ.vs)
def bodsM (np : List Nat) (G : Scp) : List Fn' → Fo → Nat → List (Int × Int) → Ck (List (Int × Int) × List (List Int))
  | [], _, _, tr => .ok (tr, [])
  | _ :: _, .nil, _, tr => .ok (tr, [])
  | f :: l, .cons h k r, c, tr => (bodyM np G f h k c tr).bind fun x => (bodsM np G l r (c + k.size + 1) x.1).bind fun y => .ok (y.1, x.2 :: y.2)
def wMain' : List UInt8 := [109, 97, 105, 110]
def mainM (G : Scp) (fs : List Fn') : Ck Unit :=
  match look G wMain' with
  | none => .er 12 0
  | some m => if m.so ≠ 4 then .er 12 0 else match fs[m.rf.toNat]? with
    | none => .er 12 0
    | some f => if f.ty ≠ 1 ∨ f.ps ≠ [] then .er 12 f.p else .ok ()
/-- What nothing has been said of. -/
def tr0 (l : List Nd) : List (Int × Int) := l.map fun n => (if n.h.op = 1 then n.h.ty else 0, 0)
/-- All of Check: each node's Type and Ref, and the functions' variables. -/
def checkM (pg : Pg) : Ck (List (Int × Int) × List (List Int)) :=
  (globM pg.g 0 0 []).bind fun s => (funM pg.f 0 s).bind fun G => (bodsM (pg.f.map fun f => f.ps.length) G pg.f pg.t 0 (tr0 (pg.t.flat 0))).bind fun y => (mainM G pg.f).bind fun _ => .ok y
end Go.Proofs.YtfaoiajhoifalaaGreatDoor
/-! Ckn -/
namespace Go.Proofs.YtfaoiajhoifalaaGreatDoor
set_option linter.unusedVariables false
set_option linter.unusedSimpArgs false

/-- A forest's nodes stand in a list from place c on. -/
def Hld (L : List Nd) : Fo → Nat → Prop
  | .nil, _ => True
  | .cons h k r, c => Hld L k c ∧ L[c + k.size]? = some ⟨h, k.roots c⟩ ∧ Hld L r (c + k.size + 1)
theorem hld_flat (F : Fo) : ∀ (c : Nat) (A B : List Nd), A.length = c → Hld (A ++ F.flat c ++ B) F c := by
  induction F with
  | nil => intro c A B _; trivial
  | cons h k r ih1 ih2 =>
    intro c A B hA
    simp only [Fo.flat]
    have e1 : A ++ (k.flat c ++ ⟨h, k.roots c⟩ :: r.flat (c + k.size + 1)) ++ B = A ++ k.flat c ++ (⟨h, k.roots c⟩ :: r.flat (c + k.size + 1) ++ B) := by simp
    have e2 : A ++ (k.flat c ++ ⟨h, k.roots c⟩ :: r.flat (c + k.size + 1)) ++ B = (A ++ k.flat c ++ [⟨h, k.roots c⟩]) ++ r.flat (c + k.size + 1) ++ B := by simp
    refine ⟨by rw [e1]; exact ih1 c A _ hA, ?_, by rw [e2]; exact ih2 _ _ B (by simp only [List.length_append, hA, Fo.flat_length, List.length_cons, List.length_nil])⟩
    rw [e1, List.getElem?_append_right (by simp [hA, Fo.flat_length])]
    simp [hA, Fo.flat_length]
theorem Hld.le {L : List Nd} (F : Fo) : ∀ c, Hld L F c → F = .nil ∨ c + F.size ≤ L.length := by
  induction F with
  | nil => exact fun c _ => .inl rfl
  | cons h k r ih1 ih2 =>
    intro c hh
    right
    obtain ⟨h1, h2, h3⟩ := hh
    have := (List.getElem?_eq_some_iff.1 h2).1
    rcases ih2 _ h3 with rfl | h4
    · simp only [Fo.size]; omega
    · simp only [Fo.size]; omega
/-- The trees of a forest: each one's kids, and where they begin. -/
def kq : Fo → Nat → List (Fo × Nat)
  | .nil, _ => []
  | .cons _ k r, c => (k, c) :: kq r (c + k.size + 1)
def idq (x : Fo × Nat) : Nat := x.2 + x.1.size
def rng (x : Fo × Nat) : List Nat := List.range' x.2 (x.1.size + 1)
theorem kq_idq (F : Fo) : ∀ c, (kq F c).map idq = F.roots c := by
  induction F with
  | nil => intro c; rfl
  | cons h k r _ ih => intro c; simp [kq, idq, Fo.roots, ih]
theorem kq_rng (F : Fo) : ∀ c, (kq F c).flatMap rng = List.range' c F.size := by
  induction F with
  | nil => intro c; rfl
  | cons h k r _ ih =>
    intro c
    have e := List.range'_append (s := c) (m := k.size + 1) (n := r.size) (step := 1)
    simp only [kq, List.flatMap_cons, rng, ih, Fo.size]
    rw [← e]
    congr 2
    omega
theorem idq_mem (x : Fo × Nat) : idq x ∈ rng x := by simp only [idq, rng, List.mem_range'_1]; omega
theorem rng_perm (x : Fo × Nat) : (rng x).Perm (idq x :: (kq x.1 x.2).flatMap rng) := by
  rw [kq_rng]
  have e : rng x = List.range' x.2 x.1.size ++ [idq x] := by
    have := List.range'_append (s := x.2) (m := x.1.size) (n := 1) (step := 1)
    simp only [rng, idq]
    rw [← this]
    simp
  rw [e]
  exact List.perm_append_singleton _ _
/-- Breadth first: D done, Q found, R about to be found. -/
structure Bf (c n : Nat) (D : List Nat) (Q R : List (Fo × Nat)) : Prop where
  perm : (D ++ (Q ++ R).flatMap rng).Perm (List.range' c (n + 1))
theorem Bf.start (k : Fo) (c : Nat) : Bf c k.size [] [(k, c)] [] := ⟨by simp [rng]⟩
theorem Bf.next {c n : Nat} {D : List Nat} {x : Fo × Nat} {Q : List (Fo × Nat)} (h : Bf c n D (x :: Q) []) : Bf c n (D ++ [idq x]) Q (kq x.1 x.2) := by
  refine ⟨List.Perm.trans ?_ h.perm⟩
  simp only [List.append_nil, List.flatMap_append, List.flatMap_cons, List.append_assoc]
  refine List.Perm.append_left _ ?_
  refine List.Perm.trans ?_ (List.Perm.append_right _ (rng_perm x).symm)
  simp only [List.singleton_append, List.cons_append, List.perm_cons, List.nil_append]
  exact List.perm_append_comm
theorem Bf.claim {c n : Nat} {D : List Nat} {Q R : List (Fo × Nat)} {y : Fo × Nat} (h : Bf c n D Q (y :: R)) : (idq y ∉ D ++ Q.map idq ∧ c ≤ idq y ∧ idq y < c + n + 1) ∧ Bf c n D (Q ++ [y]) R := by
  have hn : (D ++ (Q ++ y :: R).flatMap rng).Nodup := h.perm.nodup_iff.2 (List.nodup_range')
  have hm : idq y ∈ List.range' c (n + 1) := h.perm.mem_iff.1 (by simp only [List.mem_append, List.mem_flatMap]; exact .inr ⟨y, by simp, idq_mem y⟩)
  rw [List.mem_range'_1] at hm
  refine ⟨⟨?_, hm.1, by omega⟩, ⟨by simpa using h.perm⟩⟩
  intro hx
  rw [List.flatMap_append, List.flatMap_cons, ← List.append_assoc, List.nodup_append] at hn
  have h3 := hn.2.2 (idq y)
  rcases List.mem_append.1 hx with hx | hx
  · exact h3 (List.mem_append_left _ hx) _ (List.mem_append_left _ (idq_mem y)) rfl
  · obtain ⟨z, hz, e⟩ := List.mem_map.1 hx
    exact h3 (List.mem_append_right _ (List.mem_flatMap.2 ⟨z, hz, e ▸ idq_mem z⟩)) _ (List.mem_append_left _ (idq_mem y)) rfl
theorem Bf.all {c n : Nat} {D : List Nat} (h : Bf c n D [] []) : D.Perm (List.range' c (n + 1)) := by simpa using h.perm
theorem Bf.len {c n : Nat} {D : List Nat} {Q R : List (Fo × Nat)} (h : Bf c n D Q R) : D.length + Q.length + R.length ≤ n + 1 := by
  have h1 := h.perm.length_eq
  simp only [List.length_append, List.length_range', List.length_flatMap] at h1
  have h2 : ∀ l : List (Fo × Nat), l.length ≤ (l.map fun a => (rng a).length).sum := by
    intro l
    induction l with
    | nil => simp
    | cons x l ih => simp only [List.map_cons, List.sum_cons, List.length_cons, rng, List.length_range'] at *; omega
  have := h2 (Q ++ R)
  simp only [List.length_append] at this
  omega
/-- Sorted, they rise. -/
theorem sort_range {c n : Nat} {D : List Nat} (h : D.Perm (List.range' c n)) : ((D.map fun k : Nat => (k : Int)).mergeSort fun x y => decide (x ≤ y)) = (List.range' c n).map fun k : Nat => (k : Int) := by
  have hs : ((D.map fun k : Nat => (k : Int)).mergeSort fun x y => decide (x ≤ y)).Pairwise fun x y => decide (x ≤ y) = true := List.pairwise_mergeSort (fun a b c h1 h2 => by simp only [decide_eq_true_eq] at *; omega) (fun a b => by simp only [Bool.or_eq_true, decide_eq_true_eq]; omega) _
  have hp := (List.mergeSort_perm (D.map fun k : Nat => (k : Int)) (fun x y => decide (x ≤ y))).trans (h.map _)
  refine hp.eq_of_pairwise (le := fun x y => decide (x ≤ y) = true) ?_ hs ?_
  · intro a b _ _ h1 h2
    simp only [decide_eq_true_eq] at h1 h2
    omega
  · rw [List.pairwise_map]
    refine (List.pairwise_lt_range' (s := c) (n := n)).imp ?_
    intro a b h
    simp only [decide_eq_true_eq]
    omega
end Go.Proofs.YtfaoiajhoifalaaGreatDoor
/-! Ckv -/
namespace Go.Proofs.YtfaoiajhoifalaaGreatDoor
set_option linter.unusedVariables false
set_option linter.unusedSimpArgs false

/-- A tree stands in a list of nodes: its kids, and its own node. -/
def Pk (L : List Nd) (x : Fo × Nat) : Prop := Hld L x.1 x.2 ∧ ∃ h, L[idq x]? = some ⟨h, (kq x.1 x.2).map idq⟩
theorem hld_pk (L : List Nd) (F : Fo) : ∀ c, Hld L F c → ∀ y ∈ kq F c, Pk L y := by
  induction F with
  | nil => intro c _ y hy; cases hy
  | cons h k r _ ih =>
    intro c hh y hy
    obtain ⟨h1, h2, h3⟩ := hh
    rcases List.mem_cons.1 hy with rfl | hy
    · exact ⟨h1, h, by rw [kq_idq]; exact h2⟩
    · exact ih _ h3 y hy
/-- D: gone through; Q: met and marked; R: the kids of the last of D that are to be met yet. -/
structure Wi (L : List Nd) (sb0 sb : List Bool) (c n : Nat) (D : List Nat) (Q R : List (Fo × Nat)) : Prop where
  bf : Bf c n D Q R
  pk : ∀ x ∈ Q ++ R, Pk L x
  new : ∀ i, c ≤ i → i < c + n + 1 → i ∉ D ++ Q.map idq → sb[i]? = some false
  old : ∀ i, i < c ∨ c + n + 1 ≤ i → sb[i]? = sb0[i]?
  ln : sb.length = sb0.length
theorem Wi.start {L : List Nd} {sb0 : List Bool} {k : Fo} {c : Nat} (hp : Pk L (k, c)) (hn : ∀ i, c ≤ i → i < c + k.size + 1 → sb0[i]? = some false) : Wi L sb0 sb0 c k.size [] [] [(k, c)] :=
  ⟨⟨by simp [rng]⟩, by simpa using hp, fun i h1 h2 _ => hn i h1 h2, fun _ _ => rfl, rfl⟩
theorem Wi.claim {L : List Nd} {sb0 sb : List Bool} {c n : Nat} {D : List Nat} {Q R : List (Fo × Nat)} {y : Fo × Nat} (h : Wi L sb0 sb c n D Q (y :: R)) :
    sb[idq y]? = some false ∧ Wi L sb0 (sb.set (idq y) true) c n D (Q ++ [y]) R := by
  obtain ⟨⟨h1, h2, h3⟩, h4⟩ := h.bf.claim
  refine ⟨h.new _ h2 h3 h1, h4, by simpa using h.pk, ?_, ?_, by simpa using h.ln⟩
  · intro i hi1 hi2 hi3
    have hne : idq y ≠ i := by
      intro e
      exact hi3 (by rw [← e]; simp)
    rw [List.getElem?_set_ne hne]
    exact h.new i hi1 hi2 (fun hm => hi3 (by
      rcases List.mem_append.1 hm with hm | hm
      · exact List.mem_append_left _ hm
      · rw [List.map_append]; exact List.mem_append_right _ (List.mem_append_left _ hm)))
  · intro i hi
    have hne : idq y ≠ i := by omega
    rw [List.getElem?_set_ne hne]
    exact h.old i hi
theorem Wi.next {L : List Nd} {sb0 sb : List Bool} {c n : Nat} {D : List Nat} {x : Fo × Nat} {Q : List (Fo × Nat)} (h : Wi L sb0 sb c n D (x :: Q) []) :
    (∃ h', L[idq x]? = some ⟨h', (kq x.1 x.2).map idq⟩) ∧ Wi L sb0 sb c n (D ++ [idq x]) Q (kq x.1 x.2) := by
  have hx := h.pk x (by simp)
  refine ⟨hx.2, h.bf.next, ?_, ?_, h.old, h.ln⟩
  · intro y hy
    rcases List.mem_append.1 hy with hy | hy
    · exact h.pk y (by simp [hy])
    · exact hld_pk L _ _ hx.1 y hy
  · intro i h1 h2 h3
    exact h.new i h1 h2 (by simpa using h3)
/-- At the end: each place of the tree once; sorted, they rise. -/
theorem Wi.done {L : List Nd} {sb0 sb : List Bool} {c n : Nat} {D : List Nat} (h : Wi L sb0 sb c n D [] []) :
    ((D.map fun k : Nat => (k : Int)).mergeSort fun x y => decide (x ≤ y)) = (List.range' c (n + 1)).map fun k : Nat => (k : Int) := sort_range h.bf.all
theorem Wi.len {L : List Nd} {sb0 sb : List Bool} {c n : Nat} {D : List Nat} {Q R : List (Fo × Nat)} (h : Wi L sb0 sb c n D Q R) : D.length + Q.length + R.length ≤ n + 1 := h.bf.len
end Go.Proofs.YtfaoiajhoifalaaGreatDoor
/-! Ckp -/
namespace Go.Proofs.YtfaoiajhoifalaaGreatDoor
open Go Go.RowKit Go.Maps
set_option linter.unusedVariables false
set_option linter.unusedSimpArgs false

abbrev tSt : TypeId := 9
theorem lawSt : Keyed Tryz.prog tSt := string_keyed Tryz.underlying9
theorem keySt {x : List UInt8} (h : x.length ≤ maxLen) : keyOf Tryz.prog tSt (.string (str x)) = some (.string x) := by
  have := Go.WideMaps.keyOf_string_mk (P := Tryz.prog) (s := str x) Tryz.underlying9 (by rw [str_size]; exact h)
  simpa using this
abbrev Rdr' := Value → Option (DataW Unit × List MemPlace)
/-- A map in memory that holds what a list of names says. -/
def Mpv {α : Type} (R : Rdr') (enc : α → DataW Unit) (w : World) (b n : Nat) (l : List (Nm' × α)) : Prop :=
  ∃ D : DataW Unit, w.ownsMap Tryz.prog tSt R b n D ∧ ∀ x, Maps.has D (.string x) = (look l x).isSome ∧ ∀ m z, look l x = some m → D.atKey (.string x) z = enc m
section
variable {α : Type} {R : Rdr'} {enc : α → DataW Unit} {w : World} {b n : Nat} {l : List (Nm' × α)}
theorem Mpv.lt (h : Mpv R enc w b n l) : b < w.heap.size := let ⟨_, h1, _⟩ := h; h1.lt
theorem Mpv.kept {w' : World} (h : Mpv R enc w b n l) (hb : w'.heap[b]? = w.heap[b]?) : Mpv R enc w' b n l := by
  obtain ⟨D, ⟨es, clock, h1, h2⟩, h3⟩ := h
  exact ⟨D, ⟨es, clock, hb.trans h1, h2⟩, h3⟩
theorem Mpv.mono {n' : Nat} (h : Mpv R enc w b n l) (hn : n ≤ n') : Mpv R enc w b n' l := let ⟨D, h1, h2⟩ := h; ⟨D, h1.mono hn, h2⟩
theorem Mpv.made (w : World) : Mpv R enc (w.alloc (.map #[] 0)) w.heap.size 0 ([] : List (Nm' × α)) :=
  ⟨_, World.ownsMap_made w Tryz.prog tSt R, fun x => ⟨rfl, fun m z h => by cases h⟩⟩
theorem Mpv.put {t e : TypeId} (ht : Tryz.prog.underlying t = some (.map tSt e)) (h : Mpv R enc w b n l) (hn : n < maxLen) {x : List UInt8} (hx : x.length ≤ maxLen) {v : Value} {m : α} {ps : List MemPlace} (hv : R v = some (enc m, ps)) :
    ∃ w', (Instr.mapUpdate t (.map (some b)) (.string (str x)) v).run Tryz.prog w = .ok () w' ∧ Mpv R enc w' b (n + 1) ((x, m) :: l) ∧ w.grownBy w' (some b) := by
  obtain ⟨D, h1, h2⟩ := h
  obtain ⟨w', hr, ho, hg⟩ := h1.update lawSt ht hn (keySt hx) hv
  refine ⟨w', hr, ⟨_, ho, fun y => ?_⟩, hg⟩
  by_cases hy : x = y
  · subst hy
    refine ⟨by rw [has_put_same h1.isMap (by trivial)]; simp [look], fun m' z h => ?_⟩
    rw [atKey_put_same h1.isMap (by trivial)]
    simp [look] at h
    rw [h]
  · have hne : (Lit.string y : Lit) ≠ .string x := fun e => hy (by simpa using e.symm)
    have hl : look ((x, m) :: l) y = look l y := by simp [look, List.find?_cons, hy]
    rw [hl]
    exact ⟨by rw [has_put_other hne]; exact (h2 y).1, fun m' z h => by rw [atKey_put_other hne]; exact (h2 y).2 m' z h⟩
theorem Mpv.get {t e : TypeId} (ht : Tryz.prog.underlying t = some (.map tSt e)) {zv : Value} (hz : ∀ w, (zeroValue e).run Tryz.prog w = .ok zv w) {zd : DataW Unit} {zp : List MemPlace} (hzd : R zv = some (zd, zp)) (h : Mpv R enc w b n l) {x : List UInt8} (hx : x.length ≤ maxLen) :
    ∃ v ps, (Instr.lookup t (.map (some b)) (.string (str x)) true).run Tryz.prog w = .ok (.tuple #[v, .bool (look l x).isSome]) w ∧ R v = some ((match look l x with | some m => enc m | none => zd), ps) := by
  obtain ⟨D, h1, h2⟩ := h
  obtain ⟨v, ps, hr, hv⟩ := h1.look_ok lawSt ht (hz w) hzd (keySt hx)
  rw [(h2 x).1] at hr
  refine ⟨v, ps, hr, ?_⟩
  rw [hv]
  clear hr
  have key : D.atKey (.string x) zd = (match look l x with | some m => enc m | none => zd) := by
    cases hl : look l x with
    | some m => exact (h2 x).2 m zd hl
    | none =>
      have hh : Maps.has D (.string x) = false := by rw [(h2 x).1, hl]; rfl
      exact atKey_of_not_has hh zd
  rw [key]
end

/-! meanings -/
abbrev tMg : TypeId := 103
abbrev tMm : TypeId := 100
abbrev tLm : TypeId := 66
def mgV (m : Mg) : Value := .agg #[.int .i64 m.so, .int .i64 m.rf, .int .i64 m.vl]
def mgD (m : Mg) : DataW Unit := .agg [.lit (.int .i64 m.so), .lit (.int .i64 m.rf), .lit (.int .i64 m.vl)]
/-- How a meaning is read. -/
def RMg (v : Value) : Option (DataW Unit × List MemPlace) :=
  match v with
  | .agg cs => match cs.toList with
    | [.int .i64 a, .int .i64 b, .int .i64 c] => some (mgD ⟨a, b, c⟩, [])
    | _ => none
  | _ => none
theorem rmg_mg (m : Mg) : RMg (mgV m) = some (mgD m, []) := rfl
theorem rmg_inv {v : Value} {m : Mg} {ps : List MemPlace} (h : RMg v = some (mgD m, ps)) : v = mgV m := by
  unfold RMg at h
  split at h
  · rename_i cs
    split at h
    · rename_i a b c e
      simp only [mgD, Option.some.injEq, Prod.mk.injEq, DataW.agg.injEq, List.cons.injEq, DataW.lit.injEq, Lit.int.injEq, and_true, true_and] at h
      obtain ⟨⟨rfl, rfl, rfl⟩, -⟩ := h
      exact congrArg Value.agg (Array.ext' (by simpa using e))
    · cases h
  · cases h
def mz : Mg := ⟨0, 0, 0⟩
theorem zeroMg (w : World) : (zeroValue tMg).run Tryz.prog w = .ok (mgV mz) w := by kernel_rfl
/-- A scope in memory. -/
def ScV (w : World) (b n : Nat) (l : Scp) : Prop := Mpv RMg mgD w b n l
theorem ScV.get {w : World} {b n : Nat} {l : Scp} (h : ScV w b n l) {x : List UInt8} (hx : x.length ≤ maxLen) :
    (Instr.lookup tMm (.map (some b)) (.string (str x)) true).run Tryz.prog w = .ok (.tuple #[mgV ((look l x).getD mz), .bool (look l x).isSome]) w := by
  obtain ⟨v, ps, hr, hv⟩ := Mpv.get Tryz.underlying100 zeroMg (rmg_mg mz) h hx
  have e : RMg v = some (mgD ((look l x).getD mz), ps) := by
    rw [hv]
    cases look l x <;> rfl
  rw [rmg_inv e] at hr
  exact hr
theorem ScV.put {w : World} {b n : Nat} {l : Scp} (h : ScV w b n l) (hn : n < maxLen) {x : List UInt8} (hx : x.length ≤ maxLen) (m : Mg) :
    ∃ w', (Instr.mapUpdate tMm (.map (some b)) (.string (str x)) (mgV m)).run Tryz.prog w = .ok () w' ∧ ScV w' b (n + 1) ((x, m) :: l) ∧ w.grownBy w' (some b) :=
  Mpv.put Tryz.underlying100 h hn hx (rmg_mg m)
def intD (k : Int) : DataW Unit := .lit (.int .i64 k)
def RIn (v : Value) : Option (DataW Unit × List MemPlace) :=
  match v with
  | .int .i64 a => some (intD a, [])
  | _ => none
theorem rin_inv {v : Value} {k : Int} {ps : List MemPlace} (h : RIn v = some (intD k, ps)) : v = .int .i64 k := by
  unfold RIn at h
  split at h
  · simp only [intD, Option.some.injEq, Prod.mk.injEq, DataW.lit.injEq, Lit.int.injEq, true_and] at h
    rw [h.1]
  · cases h
theorem zeroIn (w : World) : (zeroValue 3).run Tryz.prog w = .ok (.int .i64 0) w := by kernel_rfl
/-- Labels in memory. -/
def LbV (w : World) (b n : Nat) (l : List (Nm' × Int)) : Prop := Mpv RIn intD w b n l
theorem LbV.get {w : World} {b n : Nat} {l : List (Nm' × Int)} (h : LbV w b n l) {x : List UInt8} (hx : x.length ≤ maxLen) :
    (Instr.lookup tLm (.map (some b)) (.string (str x)) true).run Tryz.prog w = .ok (.tuple #[.int .i64 ((look l x).getD 0), .bool (look l x).isSome]) w := by
  obtain ⟨v, ps, hr, hv⟩ := Mpv.get Tryz.underlying66 zeroIn (show RIn (.int .i64 0) = some (intD 0, []) from rfl) h hx
  have e : RIn v = some (intD ((look l x).getD 0), ps) := by
    rw [hv]
    cases look l x <;> rfl
  rw [rin_inv e] at hr
  exact hr
theorem LbV.put {w : World} {b n : Nat} {l : List (Nm' × Int)} (h : LbV w b n l) (hn : n < maxLen) {x : List UInt8} (hx : x.length ≤ maxLen) (k : Int) :
    ∃ w', (Instr.mapUpdate tLm (.map (some b)) (.string (str x)) (.int .i64 k)).run Tryz.prog w = .ok () w' ∧ LbV w' b (n + 1) ((x, k) :: l) ∧ w.grownBy w' (some b) :=
  Mpv.put Tryz.underlying66 h hn hx (show RIn (.int .i64 k) = some (intD k, []) from rfl)
end Go.Proofs.YtfaoiajhoifalaaGreatDoor
/-! Cka -/
namespace Go.Proofs.YtfaoiajhoifalaaGreatDoor
open Go Go.RowKit Go.Maps
set_option linter.unusedVariables false
set_option linter.unusedSimpArgs false

abbrev tCk : TypeId := 68
abbrev tNd : TypeId := 75
abbrev tFu : TypeId := 42
abbrev tInt : TypeId := 3
abbrev tBo : TypeId := 4
abbrev tPr : TypeId := 45
abbrev tGb : TypeId := 47
abbrev tFt : TypeId := 58
/-- A node as it lies in memory: its kids are behind the slice v. -/
structure CN where
  h : Hd
  kids : List Nat
  v : Value
def CN.nd (x : CN) : Nd := ⟨x.h, x.kids⟩
def cellT (x : CN) (t : Int × Int) : List Value := [.int .i64 x.h.op, .int .i64 x.h.p, .int .i64 x.h.n, .string (str x.h.s), .int .i64 x.h.to, x.v, .int .i64 t.1, .int .i64 t.2]
/-- All nodes, with their Types and Refs. -/
def cellsTr (ns : List CN) (tr : List (Int × Int)) : List Value := (ns.zip tr).flatMap fun y => cellT y.1 y.2
theorem flat_at' {α : Type} (f : α → List Value) (n : Nat) (hf : ∀ x, (f x).length = n) (l : List α) : ∀ i j, j < n → (l.flatMap f)[i * n + j]? = (l[i]?).bind fun x => (f x)[j]? := by
  induction l with
  | nil => intro i j _; simp
  | cons x l ih =>
    intro i j hj
    rw [List.flatMap_cons]
    cases i with
    | zero => rw [List.getElem?_append_left (by rw [hf]; omega)]; simp
    | succ i =>
      have e : (i + 1) * n + j = n + (i * n + j) := by rw [Nat.add_mul]; omega
      rw [e, List.getElem?_append_right (by rw [hf]; omega), hf, Nat.add_sub_cancel_left, ih i j hj]
      simp
theorem flat_len' {α : Type} (f : α → List Value) (n : Nat) (hf : ∀ x, (f x).length = n) (l : List α) : (l.flatMap f).length = l.length * n := by
  induction l with
  | nil => simp
  | cons x l ih => rw [List.flatMap_cons, List.length_append, hf, ih, List.length_cons, Nat.add_mul]; omega
/-- A flat list of cells, one of which is set. -/
theorem flat_set {α : Type} (f : α → List Value) (n : Nat) (hn : 0 < n) (hf : ∀ x, (f x).length = n) (l : List α) (i j : Nat) (hi : i < l.length) (hj : j < n) (x : α) (u : Value) (hx : f x = (f l[i]).set j u) :
    (l.flatMap f).set (i * n + j) u = (l.set i x).flatMap f := by
  apply List.ext_getElem?
  intro k
  obtain ⟨a, b, hb, rfl⟩ : ∃ a b, b < n ∧ k = a * n + b := ⟨k / n, k % n, Nat.mod_lt _ hn, by rw [Nat.mul_comm]; exact (Nat.div_add_mod k n).symm⟩
  rw [List.getElem?_set, flat_at' f n hf _ a b hb, flat_at' f n hf _ a b hb, flat_len' f n hf]
  by_cases hai : a = i
  · subst hai
    rw [List.getElem?_set_self (by simpa using hi)]
    simp only [Option.bind_some, hx, List.getElem?_set]
    have hlt : a * n + j < l.length * n := by
      have h1 : (a + 1) * n ≤ l.length * n := Nat.mul_le_mul_right _ hi
      rw [Nat.add_mul] at h1
      omega
    by_cases hbj : j = b
    · subst hbj
      simp [hlt, hf, hj]
    · rw [if_neg (by omega), if_neg hbj, List.getElem?_eq_getElem hi]
      rfl
  · rw [List.getElem?_set_ne (by omega), if_neg]
    intro e
    rcases Nat.lt_or_gt_of_ne hai with h | h
    · have h1 : (a + 1) * n ≤ i * n := Nat.mul_le_mul_right _ h
      rw [Nat.add_mul] at h1
      omega
    · have h1 : (i + 1) * n ≤ a * n := Nat.mul_le_mul_right _ h
      rw [Nat.add_mul] at h1
      omega
theorem cellsTr_at (ns : List CN) (tr : List (Int × Int)) (i j : Nat) (hj : j < 8) {x : CN} {t : Int × Int} (hx : ns[i]? = some x) (ht : tr[i]? = some t) : (cellsTr ns tr)[i * 8 + j]? = (cellT x t)[j]? := by
  unfold cellsTr
  rw [flat_at' _ 8 (fun _ => rfl) _ i j hj]
  rw [show (ns.zip tr)[i]? = some (x, t) by rw [List.getElem?_zip_eq_some]; exact ⟨hx, ht⟩]
  rfl
theorem cellsTr_set (ns : List CN) (tr : List (Int × Int)) (i j : Nat) (hj : j < 8) {x : CN} {t t' : Int × Int} (hx : ns[i]? = some x) (ht : tr[i]? = some t) (u : Value) (hu : cellT x t' = (cellT x t).set j u) : (cellsTr ns tr).set (i * 8 + j) u = cellsTr ns (tr.set i t') := by
  unfold cellsTr
  have h1 := (List.getElem?_eq_some_iff.1 hx).1
  have h2 := (List.getElem?_eq_some_iff.1 ht).1
  have hz : (ns.zip tr)[i]? = some (x, t) := by rw [List.getElem?_zip_eq_some]; exact ⟨hx, ht⟩
  have hzl := (List.getElem?_eq_some_iff.1 hz).1
  have hzi : (ns.zip tr)[i] = (x, t) := (List.getElem?_eq_some_iff.1 hz).2
  rw [flat_set _ 8 (by omega) (fun _ => rfl) (ns.zip tr) i j hzl hj (x, t') u (by rw [hzi]; exact hu)]
  congr 1
  apply List.ext_getElem?
  intro k
  by_cases hk : i = k
  · subst hk
    rw [List.getElem?_set_self hzl]
    symm
    rw [List.getElem?_zip_eq_some]
    exact ⟨hx, List.getElem?_set_self h2⟩
  · rw [List.getElem?_set_ne hk]
    apply Option.ext
    intro y
    rw [List.getElem?_zip_eq_some, List.getElem?_zip_eq_some, List.getElem?_set_ne hk]
/-- A function in memory: its parameters behind the slice, its variables. -/
def fnC (x : Fn' × Value) (v : Value) : List Value := [.string (str x.1.s), .int .i64 x.1.ty, x.2, .int .i64 (x.1.b : Nat), .int .i64 x.1.p, v]
def fnCs (fl : List (Fn' × Value)) (vls : List Value) : List Value := (fl.zip vls).flatMap fun y => fnC y.1 y.2
def glC (g : Gl) : List Value := [.string (str g.s), .int .i64 g.ty, .int .i64 g.n, .int .i64 g.p]
def pmC' (p : Pm) : List Value := [.string (str p.s), .int .i64 p.ty]
def ints (l : List Int) : List Value := l.map (Value.int .i64)
def natI (l : List Nat) : List Int := l.map fun k : Nat => (k : Int)
/-- A slice that is read, whose block lies from B on and below H. -/
def RowB (w : World) (B H : Nat) (t : TypeId) (sz : Nat) (v : Value) (n : Nat) (xs : List Value) : Prop := w.ownsRow B t sz v n xs ∧ ∀ g, v.ownBlock = some g → g < H
theorem RowB.keep {w w' : World} {B H sz n : Nat} {t : TypeId} {v : Value} {xs : List Value} (h : RowB w B H t sz v n xs) (hk : ∀ g, v.ownBlock = some g → w'.heap[g]? = w.heap[g]?) : RowB w' B H t sz v n xs := by
  refine ⟨⟨h.1.1, h.1.2.imp id ?_⟩, h.2⟩
  rintro ⟨g, cap, cur, rfl, h1, h2, h3⟩
  exact ⟨g, cap, cur, rfl, h1, (hk g rfl).trans h2, h3⟩
theorem RowB.mono {w : World} {B H H' sz n : Nat} {t : TypeId} {v : Value} {xs : List Value} (h : RowB w B H t sz v n xs) (hH : H ≤ H') : RowB w B H' t sz v n xs := ⟨h.1, fun g hg => Nat.lt_of_lt_of_le (h.2 g hg) hH⟩
/-- What stays the same while all bodies are checked: places, and what was read. -/
structure CkX where
  B : Nat
  b : Nat
  gA : Option Addr
  gc : Nat
  nB : Nat
  nc : Nat
  fB : Nat
  fc : Nat
  sB : Nat
  sc : Nat
  gs : List Gl
  fl : List (Fn' × Value)
  ns : List CN
/-- What changes, beside the names' meanings and the types. -/
structure CkS where
  on : Bool
  fpV : Value
  lmV : Value
  fi : Nat
  H : Nat
  vls : List Value
  mps : List Nat
  scv : Value
  lbB : Nat
  lb : List (Nm' × Int)
  sb : List Bool
  done : List (List Int)
def ckCells (X : CkX) (S : CkS) : Array Value := #[.slice X.gA X.gs.length X.gc, .slice (some ⟨X.fB, 0, none⟩) X.fl.length X.fc, .slice (some ⟨X.nB, 0, none⟩) X.ns.length X.nc, S.scv, .slice (some ⟨X.sB, 0, none⟩) X.ns.length X.sc, S.fpV, S.lmV]
/-- The checker in memory; 'on': while a body is checked. -/
structure CkV (X : CkX) (S : CkS) (σ : Cs) (w : World) : Prop where
  chk : Blk w X.b tCk (ckCells X S)
  nod : w.ownsRow X.B tNd 8 (.slice (some ⟨X.nB, 0, none⟩) X.ns.length X.nc) X.ns.length (cellsTr X.ns σ.tr)
  fun_ : w.ownsRow X.B tFu 6 (.slice (some ⟨X.fB, 0, none⟩) X.fl.length X.fc) X.fl.length (fnCs X.fl S.vls)
  see : w.ownsRow X.B tBo 1 (.slice (some ⟨X.sB, 0, none⟩) X.ns.length X.sc) X.ns.length (S.sb.map Value.bool)
  trl : σ.tr.length = X.ns.length
  vll : S.vls.length = X.fl.length
  fil : S.on = true → S.fi < X.fl.length ∧ S.fpV = .pointer (some ⟨X.fB, S.fi * 6, none⟩)
  var : S.on = true → ∃ v, S.vls[S.fi]? = some v ∧ w.ownsRow S.H tInt 1 v σ.vs.length (ints σ.vs)
  sco : w.ownsRow X.B tMm 1 S.scv S.mps.length (S.mps.map fun m => Value.map (some m))
  scl : S.mps.length = σ.sc.length
  map_ : ∀ (j m : Nat) (s : Scp), S.mps[j]? = some m → σ.sc[j]? = some s → X.B ≤ m ∧ ScV w m s.length s
  nod2 : S.mps.Nodup
  lab : S.on = true → X.B ≤ S.lbB ∧ LbV w S.lbB S.lb.length S.lb ∧ S.lmV = .map (some S.lbB)
  labn : S.on = true → S.lbB ∉ S.mps
  kid_ : ∀ x ∈ X.ns, RowB w X.B S.H tInt 1 x.v x.kids.length (ints (natI x.kids))
  old : ∀ (j : Nat) (v : Value) (l : List Int), S.vls[j]? = some v → S.done[j]? = some l → j < S.fi → RowB w X.B S.H tInt 1 v l.length (ints l)
  prm : ∀ x ∈ X.fl, RowB w X.B S.H tPr 2 x.2 x.1.ps.length (x.1.ps.flatMap pmC')
  glb : RowB w X.B S.H tGb 4 (.slice X.gA X.gs.length X.gc) X.gs.length (X.gs.flatMap glC)
  hB : X.B ≤ X.b ∧ X.B ≤ X.nB ∧ X.B ≤ X.fB ∧ X.B ≤ X.sB ∧ X.B ≤ S.H ∧ S.H ≤ w.heap.size
end Go.Proofs.YtfaoiajhoifalaaGreatDoor
/-! Ckb -/
namespace Go.Proofs.YtfaoiajhoifalaaGreatDoor
open Go Go.RowKit Go.Maps
set_option linter.unusedVariables false
set_option linter.unusedSimpArgs false

/-- A block of cells of a type; a block that is a map. -/
def Kind (w : World) (k : Nat) (T : TypeId) : Prop := ∃ c fz, w.heap[k]? = some (.cells c T fz)
def KindM (w : World) (k : Nat) : Prop := ∃ es cl, w.heap[k]? = some (.map es cl)
theorem kind_ne {w : World} {a b : Nat} {T T' : TypeId} (h : Kind w a T) (h' : Kind w b T') (hT : T ≠ T') : a ≠ b := by
  rintro rfl
  obtain ⟨c, fz, e⟩ := h
  obtain ⟨c', fz', e'⟩ := h'
  rw [e] at e'
  simp at e'
  exact hT e'.2.1
theorem kindM_ne {w : World} {a b : Nat} {T : TypeId} (h : Kind w a T) (h' : KindM w b) : a ≠ b := by
  rintro rfl
  obtain ⟨c, fz, e⟩ := h
  obtain ⟨es, cl, e'⟩ := h'
  rw [e] at e'
  cases e'
theorem Blk.kind {w : World} {b : Nat} {t : TypeId} {cs : Array Value} (h : Blk w b t cs) : Kind w b t := ⟨_, _, h⟩
theorem row_kind {w : World} {base sz n g : Nat} {t : TypeId} {v : Value} {xs : List Value} (h : w.ownsRow base t sz v n xs) (hg : v.ownBlock = some g) : Kind w g t := by
  rcases h.2 with ⟨rfl, _⟩ | ⟨g', cap, cur, rfl, _, hh, _⟩
  · cases hg
  · obtain rfl : g' = g := by simpa [Value.ownBlock] using hg
    exact ⟨_, _, hh⟩
theorem mpv_kind {α : Type} {R : Rdr'} {enc : α → DataW Unit} {w : World} {b n : Nat} {l : List (Nm' × α)} (h : Mpv R enc w b n l) : KindM w b := by
  obtain ⟨D, ⟨es, clock, h1, _⟩, _⟩ := h
  exact ⟨es, clock, h1⟩
theorem Kind.lt {w : World} {k : Nat} {T : TypeId} (h : Kind w k T) : k < w.heap.size := by obtain ⟨c, fz, e⟩ := h; exact (Array.getElem?_eq_some_iff.1 e).1
theorem KindM.lt {w : World} {k : Nat} (h : KindM w k) : k < w.heap.size := by obtain ⟨c, fz, e⟩ := h; exact (Array.getElem?_eq_some_iff.1 e).1
section
variable {w w' : World} {ro : Option Nat}
theorem gr_row {base sz n : Nat} {t : TypeId} {v : Value} {xs : List Value} (hg : w.grownBy w' ro) (h : w.ownsRow base t sz v n xs) (hr : ∀ r, ro = some r → v.ownBlock ≠ some r) : w'.ownsRow base t sz v n xs := by
  refine ⟨h.1, h.2.imp id ?_⟩
  rintro ⟨g, cap, cur, rfl, h1, h2, h3⟩
  exact ⟨g, cap, cur, rfl, h1, (hg.block g (Array.getElem?_eq_some_iff.1 h2).1 (fun e => hr g e.symm rfl)).trans h2, h3⟩
theorem gr_blk {b : Nat} {t : TypeId} {cs : Array Value} (hg : w.grownBy w' ro) (h : Blk w b t cs) (hr : ro ≠ some b) : Blk w' b t cs := (hg.block b h.lt (fun e => hr e.symm)).trans h
theorem gr_map {α : Type} {R : Rdr'} {enc : α → DataW Unit} {b n : Nat} {l : List (Nm' × α)} (hg : w.grownBy w' ro) (h : Mpv R enc w b n l) (hr : ro ≠ some b) : Mpv R enc w' b n l := h.kept (hg.block b h.lt (fun e => hr e.symm))
theorem gr_rowB {B H sz n : Nat} {t : TypeId} {v : Value} {xs : List Value} (hg : w.grownBy w' ro) (h : RowB w B H t sz v n xs) (hr : ∀ r, ro = some r → v.ownBlock ≠ some r) : RowB w' B H t sz v n xs := ⟨gr_row hg h.1 hr, h.2⟩
end
section
variable {X : CkX} {S : CkS} {σ : Cs} {w w' : World}
/-- Where nothing of the checker's changes. -/
theorem CkV.grown (h : CkV X S σ w) (hg : w.grownBy w' none) : CkV X S σ w' where
  chk := gr_blk hg h.chk (by simp)
  nod := gr_row hg h.nod (by simp)
  fun_ := gr_row hg h.fun_ (by simp)
  see := gr_row hg h.see (by simp)
  trl := h.trl
  vll := h.vll
  fil := h.fil
  var := fun e => let ⟨v, h1, h2⟩ := h.var e; ⟨v, h1, gr_row hg h2 (by simp)⟩
  sco := gr_row hg h.sco (by simp)
  scl := h.scl
  map_ := fun j m s h1 h2 => ⟨(h.map_ j m s h1 h2).1, gr_map hg (h.map_ j m s h1 h2).2 (by simp)⟩
  nod2 := h.nod2
  lab := fun e => ⟨(h.lab e).1, gr_map hg (h.lab e).2.1 (by simp), (h.lab e).2.2⟩
  labn := h.labn
  kid_ := fun x hx => gr_rowB hg (h.kid_ x hx) (by simp)
  old := fun j v l h1 h2 h3 => gr_rowB hg (h.old j v l h1 h2 h3) (by simp)
  prm := fun x hx => gr_rowB hg (h.prm x hx) (by simp)
  glb := gr_rowB hg h.glb (by simp)
  hB := ⟨h.hB.1, h.hB.2.1, h.hB.2.2.1, h.hB.2.2.2.1, h.hB.2.2.2.2.1, Nat.le_trans h.hB.2.2.2.2.2 hg.size⟩
theorem grown_of_below (hb : Below w.heap.size w w') : w.grownBy w' none := ⟨hb.os, hb.tape, hb.output, hb.size, fun k hk _ => hb.block k hk⟩
theorem CkV.on (h : CkV X S σ w) (hb : Below w.heap.size w w') : CkV X S σ w' := h.grown (grown_of_below hb)
theorem CkV.alloc (h : CkV X S σ w) (o : Obj) : CkV X S σ (w.alloc o) := h.on ((Below.refl _ _).alloc (Nat.le_refl _) o)
theorem CkV.drew (h : CkV X S σ w) : CkV X S σ w.drew := h.on ⟨rfl, rfl, rfl, Nat.le_refl _, fun _ _ => rfl⟩
theorem CkV.drewN (h : CkV X S σ w) (d : Nat) : CkV X S σ (w.drewN d) := h.on (below_drewN _ _ _)
/-- A cell of a node's is set: its Type or its Ref. -/
theorem CkV.node (h : CkV X S σ w) {i j : Nat} (hj : j < 8) {x : CN} {t t' : Int × Int} (hx : X.ns[i]? = some x) (ht : σ.tr[i]? = some t) (u : Value) (hu : cellT x t' = (cellT x t).set j u) :
    CkV X S { σ with tr := σ.tr.set i t' } (w.setCell ⟨X.nB, i * 8 + j, none⟩ u) := by
  obtain ⟨hn, hg⟩ := h.nod.stored (i * 8 + j) u
  rw [cellsTr_set X.ns σ.tr i j hj hx ht u hu] at hn
  have hk : Kind w X.nB tNd := row_kind h.nod rfl
  have hr : ∀ {base sz n : Nat} {T : TypeId} {v : Value} {xs : List Value}, w.ownsRow base T sz v n xs → T ≠ tNd → ∀ r, some X.nB = some r → v.ownBlock ≠ some r := by
    intro base sz n T v xs h1 hT r hr e
    cases hr
    exact kind_ne (row_kind h1 e) hk hT rfl
  have hm : ∀ {m : Nat}, KindM w m → some X.nB ≠ some m := fun h1 e => kindM_ne hk h1 (Option.some.inj e)
  exact {
    chk := gr_blk hg h.chk (fun e => kind_ne h.chk.kind hk (by decide) (Option.some.inj e).symm)
    nod := hn
    fun_ := gr_row hg h.fun_ (hr h.fun_ (by decide))
    see := gr_row hg h.see (hr h.see (by decide))
    trl := by simpa using h.trl
    vll := h.vll
    fil := h.fil
    var := fun e => let ⟨v, h1, h2⟩ := h.var e; ⟨v, h1, gr_row hg h2 (hr h2 (by decide))⟩
    sco := gr_row hg h.sco (hr h.sco (by decide))
    scl := h.scl
    map_ := fun j m s h1 h2 => ⟨(h.map_ j m s h1 h2).1, gr_map hg (h.map_ j m s h1 h2).2 (hm (mpv_kind (h.map_ j m s h1 h2).2))⟩
    nod2 := h.nod2
    lab := fun e => ⟨(h.lab e).1, gr_map hg (h.lab e).2.1 (hm (mpv_kind (h.lab e).2.1)), (h.lab e).2.2⟩
    labn := h.labn
    kid_ := fun x hx => gr_rowB hg (h.kid_ x hx) (hr (h.kid_ x hx).1 (by decide))
    old := fun j v l h1 h2 h3 => gr_rowB hg (h.old j v l h1 h2 h3) (hr (h.old j v l h1 h2 h3).1 (by decide))
    prm := fun x hx => gr_rowB hg (h.prm x hx) (hr (h.prm x hx).1 (by decide))
    glb := gr_rowB hg h.glb (hr h.glb.1 (by decide))
    hB := by have := h.hB; have := hg.size; omega }
theorem CkV.ty (h : CkV X S σ w) {i : Nat} (hi : i < X.ns.length) (t : Int) : CkV X S (setTy σ i t) (w.setCell ⟨X.nB, i * 8 + 6, none⟩ (.int .i64 t)) := by
  have hi2 : i < σ.tr.length := by rw [h.trl]; exact hi
  have ht : σ.tr[i]? = some (σ.tr.getD i (0, 0)) := by simp [hi2]
  exact h.node (i := i) (j := 6) (by omega) (List.getElem?_eq_getElem hi) ht (.int .i64 t) (t' := (t, (σ.tr.getD i (0, 0)).2)) rfl
theorem CkV.rf (h : CkV X S σ w) {i : Nat} (hi : i < X.ns.length) (t : Int) : CkV X S (setRf σ i t) (w.setCell ⟨X.nB, i * 8 + 7, none⟩ (.int .i64 t)) := by
  have hi2 : i < σ.tr.length := by rw [h.trl]; exact hi
  have ht : σ.tr[i]? = some (σ.tr.getD i (0, 0)) := by simp [hi2]
  exact h.node (i := i) (j := 7) (by omega) (List.getElem?_eq_getElem hi) ht (.int .i64 t) (t' := ((σ.tr.getD i (0, 0)).1, t)) rfl
/-- A name is declared in the j-th scope. -/
theorem CkV.put (h : CkV X S σ w) {j m : Nat} {s s' : Scp} (hm : S.mps[j]? = some m) (hs : σ.sc[j]? = some s) (hv : ScV w' m s'.length s') (hg : w.grownBy w' (some m)) :
    CkV X S { σ with sc := σ.sc.set j s' } w' := by
  have hk : KindM w m := mpv_kind (h.map_ j m s hm hs).2
  have hr : ∀ {base sz n : Nat} {T : TypeId} {v : Value} {xs : List Value}, w.ownsRow base T sz v n xs → ∀ r, some m = some r → v.ownBlock ≠ some r := by
    intro base sz n T v xs h1 r hr e
    cases hr
    exact kindM_ne (row_kind h1 e) hk rfl
  exact {
    chk := gr_blk hg h.chk (fun e => kindM_ne h.chk.kind hk (Option.some.inj e).symm)
    nod := gr_row hg h.nod (hr h.nod)
    fun_ := gr_row hg h.fun_ (hr h.fun_)
    see := gr_row hg h.see (hr h.see)
    trl := h.trl
    vll := h.vll
    fil := h.fil
    var := fun e => let ⟨v, h1, h2⟩ := h.var e; ⟨v, h1, gr_row hg h2 (hr h2)⟩
    sco := gr_row hg h.sco (hr h.sco)
    scl := by simpa using h.scl
    map_ := fun i m' s1 h1 h2 => by
      by_cases hij : j = i
      · subst hij
        obtain rfl : m = m' := by rw [hm] at h1; exact Option.some.inj h1
        have hjl := (List.getElem?_eq_some_iff.1 hs).1
        rw [List.getElem?_set_self hjl] at h2
        cases h2
        exact ⟨(h.map_ j m s hm hs).1, hv⟩
      · rw [List.getElem?_set_ne hij] at h2
        refine ⟨(h.map_ i m' s1 h1 h2).1, gr_map hg (h.map_ i m' s1 h1 h2).2 ?_⟩
        intro e
        obtain rfl : m = m' := Option.some.inj e
        obtain ⟨a1, e1⟩ := List.getElem?_eq_some_iff.1 hm
        obtain ⟨a2, e2⟩ := List.getElem?_eq_some_iff.1 h1
        exact hij ((List.getElem_inj h.nod2).1 (e1.trans e2.symm))
    nod2 := h.nod2
    lab := fun on => ⟨(h.lab on).1, gr_map hg (h.lab on).2.1 (fun e => h.labn on (by rw [← Option.some.inj e]; exact List.mem_of_getElem? hm)), (h.lab on).2.2⟩
    labn := h.labn
    kid_ := fun x hx => gr_rowB hg (h.kid_ x hx) (hr (h.kid_ x hx).1)
    old := fun j v l h1 h2 h3 => gr_rowB hg (h.old j v l h1 h2 h3) (hr (h.old j v l h1 h2 h3).1)
    prm := fun x hx => gr_rowB hg (h.prm x hx) (hr (h.prm x hx).1)
    glb := gr_rowB hg h.glb (hr h.glb.1)
    hB := by have := h.hB; have := hg.size; omega }
/-- The scopes' slice changes, and then the checker's cell for it. -/
theorem CkV.scopes (h : CkV X S σ w) {v' : Value} {mps' : List Nat} {sc' : List Scp} (hg : w.grownBy w' S.scv.ownBlock) (hrow : w'.ownsRow X.B tMm 1 v' mps'.length (mps'.map fun m => Value.map (some m)))
    (hl : mps'.length = sc'.length) (hm : ∀ (j m : Nat) (s : Scp), mps'[j]? = some m → sc'[j]? = some s → X.B ≤ m ∧ ScV w' m s.length s) (hn : mps'.Nodup) (hlb : S.on = true → S.lbB ∉ mps') :
    CkV X { S with scv := v', mps := mps' } { σ with sc := sc' } (w'.setCell ⟨X.b, 3, none⟩ v') := by
  have hr : ∀ {base sz n : Nat} {T : TypeId} {v : Value} {xs : List Value}, w.ownsRow base T sz v n xs → T ≠ tMm → ∀ r, S.scv.ownBlock = some r → v.ownBlock ≠ some r := by
    intro base sz n T v xs h1 hT r hr e
    exact kind_ne (row_kind h1 e) (row_kind h.sco hr) hT rfl
  have hmm : ∀ {m : Nat}, KindM w m → S.scv.ownBlock ≠ some m := fun h1 e => kindM_ne (row_kind h.sco e) h1 rfl
  have hc' : Blk w' X.b tCk (ckCells X S) := gr_blk hg h.chk (fun e => kind_ne (row_kind h.sco e) h.chk.kind (by decide) rfl)
  have hk : Kind w' X.b tCk := hc'.kind
  have hg2 : w'.grownBy (w'.setCell ⟨X.b, 3, none⟩ v') (some X.b) := ⟨rfl, rfl, rfl, by simp, fun k _ hk => heap_setCell_other w' ⟨X.b, 3, none⟩ k v' (fun e => hk (by simp [e]))⟩
  have hr2 : ∀ {base sz n : Nat} {T : TypeId} {v : Value} {xs : List Value}, w'.ownsRow base T sz v n xs → T ≠ tCk → ∀ r, some X.b = some r → v.ownBlock ≠ some r := by
    intro base sz n T v xs h1 hT r hr e
    cases hr
    exact kind_ne (row_kind h1 e) hk hT rfl
  have hm2 : ∀ {m : Nat}, KindM w' m → some X.b ≠ some m := fun h1 e => kindM_ne hk h1 (Option.some.inj e)
  have two : ∀ {base sz n : Nat} {T : TypeId} {v : Value} {xs : List Value}, w.ownsRow base T sz v n xs → T ≠ tMm → T ≠ tCk → (w'.setCell ⟨X.b, 3, none⟩ v').ownsRow base T sz v n xs := fun h1 hT hT2 =>
    gr_row hg2 (gr_row hg h1 (hr h1 hT)) (hr2 (gr_row hg h1 (hr h1 hT)) hT2)
  exact {
    chk := by
      have := hc'.set_ 3 v'
      simpa [ckCells] using this
    nod := two h.nod (by decide) (by decide)
    fun_ := two h.fun_ (by decide) (by decide)
    see := two h.see (by decide) (by decide)
    trl := h.trl
    vll := h.vll
    fil := h.fil
    var := fun e => let ⟨v, h1, h2⟩ := h.var e; ⟨v, h1, two h2 (by decide) (by decide)⟩
    sco := gr_row hg2 hrow (hr2 hrow (by decide))
    scl := hl
    map_ := fun j m s h1 h2 => ⟨(hm j m s h1 h2).1, gr_map hg2 (hm j m s h1 h2).2 (hm2 (mpv_kind (hm j m s h1 h2).2))⟩
    nod2 := hn
    lab := fun on =>
      have hlab := gr_map hg (h.lab on).2.1 (hmm (mpv_kind (h.lab on).2.1))
      ⟨(h.lab on).1, gr_map hg2 hlab (hm2 (mpv_kind hlab)), (h.lab on).2.2⟩
    labn := hlb
    kid_ := fun x hx => ⟨two (h.kid_ x hx).1 (by decide) (by decide), (h.kid_ x hx).2⟩
    old := fun j v l h1 h2 h3 => ⟨two (h.old j v l h1 h2 h3).1 (by decide) (by decide), (h.old j v l h1 h2 h3).2⟩
    prm := fun x hx => ⟨two (h.prm x hx).1 (by decide) (by decide), (h.prm x hx).2⟩
    glb := ⟨two h.glb.1 (by decide) (by decide), h.glb.2⟩
    hB := by have := h.hB; have := hg.size; simp; omega }
end
end Go.Proofs.YtfaoiajhoifalaaGreatDoor
/-! Ckc -/
namespace Go.Proofs.YtfaoiajhoifalaaGreatDoor
open Go Go.RowKit Go.Maps
set_option linter.unusedVariables false
set_option linter.unusedSimpArgs false

def Pnc (no p : Int) : Ending := .panicked [{ v := .iface tFt (.agg #[.int .i64 no, .int .i64 p]), recovered := false }]
theorem pnc_end {fn : Func} {R : Ending → World → Prop} {a : Act} {w : World} {ch : List PanicEntry} (hd : a.defers = []) (hR : R (.panicked ch) w) : bodyPost Tryz.prog fn R (.panic ch) a w := ⟨hd, hR⟩
theorem refuse_no (no p : Int) (w : World) : Calls Tryz.prog 48 #[.bool false, .int .i64 no, .int .i64 p] w fun e w' => e = .returned (.tuple #[]) ∧ w = w' := by
  go_enter Tryz.func48, Tryz.ntmps48
  go_wp2
  go_end0
  exact ⟨rfl, rfl⟩
theorem refuse_yes (no p : Int) (w : World) : Calls Tryz.prog 48 #[.bool true, .int .i64 no, .int .i64 p] w fun e w' => e = .panicked [{ v := .iface tFt (.agg #[.int .i64 no, .int .i64 p]), recovered := false }] ∧ w = w' := by
  go_enter Tryz.func48, Tryz.ntmps48
  go_wp2_with fail
  exact pnc_end rfl ⟨rfl, rfl⟩
/-- Either way, in one. -/
theorem refuse_or (b : Bool) (no p : Int) (w : World) : Calls Tryz.prog 48 #[.bool b, .int .i64 no, .int .i64 p] w fun e w' => (b = true ∧ e = .panicked [{ v := .iface tFt (.agg #[.int .i64 no, .int .i64 p]), recovered := false }] ∨ b = false ∧ e = .returned (.tuple #[])) ∧ w = w' := by
  cases b
  · exact (refuse_no no p w).mono fun e w' ⟨h1, h2⟩ => ⟨.inr ⟨rfl, h1⟩, h2⟩
  · exact (refuse_yes no p w).mono fun e w' ⟨h1, h2⟩ => ⟨.inl ⟨rfl, h1⟩, h2⟩
/-- The scopes in memory. -/
structure ScsV (w : World) (B : Nat) (v : Value) (mps : List Nat) (sc : List Scp) : Prop where
  row : w.ownsRow B tMm 1 v mps.length (mps.map fun m => Value.map (some m))
  len : mps.length = sc.length
  map_ : ∀ (j m : Nat) (s : Scp), mps[j]? = some m → sc[j]? = some s → B ≤ m ∧ ScV w m s.length s
theorem CkV.scs {X : CkX} {S : CkS} {σ : Cs} {w : World} (h : CkV X S σ w) : ScsV w X.B S.scv S.mps σ.sc := ⟨h.sco, h.scl, h.map_⟩
theorem ScsV.on {w w' : World} {B : Nat} {v : Value} {mps : List Nat} {sc : List Scp} (h : ScsV w B v mps sc) (hb : Below w.heap.size w w') : ScsV w' B v mps sc :=
  have hg := grown_of_below hb
  ⟨gr_row hg h.row (by simp), h.len, fun j m s h1 h2 => ⟨(h.map_ j m s h1 h2).1, gr_map hg (h.map_ j m s h1 h2).2 (by simp)⟩⟩
/-- The j-th scope: where its map is told, and what a look-up in it says. -/
theorem ScsV.at {w : World} {B : Nat} {v : Value} {mps : List Nat} {sc : List Scp} (h : ScsV w B v mps sc) {j : Nat} (hj : j < sc.length) :
    ∃ g c m, v = .slice (some ⟨g, 0, none⟩) sc.length c ∧ g < w.heap.size ∧ sc.length ≤ c ∧ c ≤ maxLen ∧ mps[j]? = some m ∧ w.cell? ⟨g, j, none⟩ = some (.map (some m)) ∧ ScV w m sc[j].length sc[j] := by
  have hjm : j < mps.length := by rw [h.len]; exact hj
  rcases h.row.2 with ⟨_, h0⟩ | ⟨g, c, cur, hv, _, hh, hnc, hcm, hsz, hcur⟩
  · rw [h.len] at h0; omega
  · rw [hv] at h
    have hc := h.row.cellAt j (by omega)
    rw [h.len] at hv hnc
    refine ⟨g, c, mps[j], hv, (Array.getElem?_eq_some_iff.1 hh).1, hnc, hcm, List.getElem?_eq_getElem hjm, ?_, (h.map_ j _ _ (List.getElem?_eq_getElem hjm) (List.getElem?_eq_getElem hj)).2⟩
    rw [hc]
    simp [hjm]
theorem getLast_at {sc : List Scp} {k : Nat} (hk : sc.length = k + 1) : sc.getLast?.getD [] = sc[k]'(by omega) := by
  rw [List.getLast?_eq_getElem?, show sc.length - 1 = k by omega, List.getElem?_eq_getElem (show k < sc.length by omega)]
  rfl
theorem has_any {w : World} {B : Nat} {A : Option Addr} {n c : Nat} {mps : List Nat} {sc : List Scp} (h : ScsV w B (.slice A n c) mps sc) {k : Nat} (hk : sc.length = k + 1) (hk2 : k ≤ 1000000) {x : List UInt8} (hx : x.length ≤ maxLen) :
    Calls Tryz.prog 49 #[.slice A n c, .string (str x)] w fun e w' => e = .returned (.bool (look (sc.getLast?.getD []) x).isSome) ∧ Below w.heap.size w w' := by
  rw [getLast_at hk]
  obtain ⟨g, c', m, hv, hg, -, -, -, hc, hs⟩ := h.at (j := k) (by omega)
  simp only [Value.slice.injEq] at hv
  obtain ⟨rfl, rfl, rfl⟩ := hv
  have hl := hs.get hx
  generalize (look (sc[k]'(by omega)) x).isSome = bb at *
  obtain ⟨⟨a1, a2, a3⟩, ha⟩ : ∃ q, (look (sc[k]'(by omega)) x).getD mz = q := ⟨_, rfl⟩
  rw [ha] at hl
  unfold mgV at hl
  have HK := Lib.hid hk
  rw [hk]
  clear ha hs h hx
  go_enter Tryz.func49, Tryz.ntmps49
  go_wp2_with fail
  go_ret
  exact ⟨rfl, (Below.refl _ _).alloc (Nat.le_refl _) _⟩
theorem lookS_snoc (l : List Scp) (s : Scp) (x : List UInt8) : lookS (l ++ [s]) x = (match look s x with | some m => some m | none => lookS l x) := by
  simp only [lookS, List.reverse_append, List.reverse_cons, List.reverse_nil, List.nil_append, List.singleton_append, List.findSome?_cons]
  cases look s x <;> rfl
theorem mgU : ∃ d, Tryz.prog.underlying tMg = some d ∧ d.isRow = true := ⟨_, Tryz.underlying103, rfl⟩
theorem mgInfo : (Tryz.prog.info? tMg).map (·.size) = some 3 := by kernel_rfl
theorem results_find {fn : Func} {b p q : Nat} {m : Mg} (h : fn.results = #[.cell p tMg, .tmp q]) (tmps : Array Value) (w : World)
    (hp : tmps.getD p undef = .pointer (some ⟨b, 0, none⟩)) (hb : Blk w b tMg #[.int .i64 m.so, .int .i64 m.rf, .int .i64 m.vl]) :
    (results fn tmps).run Tryz.prog w = .ok (.tuple #[mgV m, tmps.getD q undef]) w := by
  obtain ⟨d, hu, hr⟩ := mgU
  have hc : w.rangeAt b 0 [.int .i64 m.so, .int .i64 m.rf, .int .i64 m.vl] := by
    intro j v hv
    rw [Nat.zero_add, hb.cell]
    simpa using hv
  have hl := run_loadVar_mid (P := Tryz.prog) w b 0 tMg [.int .i64 m.so, .int .i64 m.rf, .int .i64 m.vl] d hc hu hr mgInfo
  simp only [results, h]
  simp [Sem.run_bind, Result.andThen]
  rw [show tmps[p]?.getD undef = .pointer (some ⟨b, 0, none⟩) from by simpa using hp]
  simp [asAddr, hl, mgV]
theorem ret_find {fn : Func} {R : Ending → World → Prop} {a : Act} {w : World} {b p q : Nat} {m : Mg} {bv : Bool} (hf : fn.results = #[.cell p tMg, .tmp q]) (hd : a.defers = [])
    (hp : a.tmps.getD p undef = .pointer (some ⟨b, 0, none⟩)) (hq : a.tmps.getD q undef = .bool bv) (hb : Blk w b tMg #[.int .i64 m.so, .int .i64 m.rf, .int .i64 m.vl])
    (hR : R (.returned (.tuple #[mgV m, .bool bv])) w) : bodyPost Tryz.prog fn R .ret a w :=
  bodyPost_ret (v := .tuple #[mgV m, .bool bv]) (by rw [results_find hf _ _ hp hb, hq]) hd hR
set_option maxHeartbeats 1000000 in
set_option maxRecDepth 100000 in
theorem find_any {w : World} {B : Nat} {A : Option Addr} {n c : Nat} {mps : List Nat} {sc : List Scp} (h : ScsV w B (.slice A n c) mps sc) (hn : sc.length = n) (hn2 : n ≤ 1000000) {x : List UInt8} (hx : x.length ≤ maxLen) :
    Calls Tryz.prog 59 #[.slice A n c, .string (str x)] w fun e w' => e = .returned (.tuple #[mgV ((lookS sc x).getD mz), .bool (lookS sc x).isSome]) ∧ Below w.heap.size w w' := by
  have HS := Lib.hid h
  have HN := Lib.hid hn
  obtain ⟨R, hR⟩ : ∃ R, lookS sc x = R := ⟨_, rfl⟩
  rw [hR]
  have HR := Lib.hid hR
  clear h hn hR
  have hb0 : Below w.heap.size w (w.alloc (.cells #[.int .i64 0, .int .i64 0, .int .i64 0] tMg)) := (Below.refl _ _).alloc (Nat.le_refl _) _
  have hk0 := Blk.new w tMg #[.int .i64 0, .int .i64 0, .int .i64 0]
  go_enter Tryz.func59, Tryz.ntmps59
  go_upto_region 1 with (fail)
  obtain ⟨g4, hg4⟩ : ∃ y, w.heap.size = y := ⟨_, rfl⟩
  rw [hg4] at hk0
  generalize hW1 : w.alloc (.cells #[.int .i64 0, .int .i64 0, .int .i64 0] tMg) = W1 at *
  simp only [hg4]
  have HB := Lib.hid (And.intro hb0 (And.intro hk0 hg4))
  have HS1 := Lib.hid (HS.out.on hb0)
  have hwl : w.heap.size ≤ W1.heap.size := hb0.size
  clear hb0 hk0 hW1 hg4 HS
  go_wp2_with fail
  go_loopw [6] (fun v wr => ∃ k : Nat, k ≤ n ∧ v = .int .i64 ((k : Int) - 1) ∧ lookS sc x = lookS (sc.take k) x ∧ Below W1.heap.size W1 wr) (fun v _ => (intOf v + 1).toNat)
  case atStart => exact ⟨n, Nat.le_refl _, rfl, by rw [List.take_of_length_le (by rw [HN.out]; exact Nat.le_refl _)], Below.refl _ _⟩
  case round =>
    obtain ⟨k, hk, rfl, hlk, hbw⟩ := hrel
    have hk4 := HB.out.2.1.below hbw HB.out.2.1.lt
    by_cases hk0 : k = 0
    · subst hk0
      have hRn : R = none := by rw [← HR.out, hlk]; rfl
      subst hRn
      have HW := Lib.hid (And.intro hbw hk4)
      have f0 := hk4.frozen 0
      have f1 := hk4.frozen 1
      have f2 := hk4.frozen 2
      have l4 := hk4.lt
      have c0 := hk4.cell 0
      have c1 := hk4.cell 1
      have c2 := hk4.cell 2
      simp only [List.getElem?_toArray, List.getElem?_cons_zero, List.getElem?_cons_succ] at c0 c1 c2
      clear hlk hbw hk4 HS1
      go_wp2_with fail
      have hz := Blk.set_ (Blk.set_ (Blk.set_ HW.out.2 0 (.int .i64 0)) 1 (.int .i64 0)) 2 (.int .i64 0)
      refine ret_find (m := mz) (bv := false) rfl rfl rfl rfl hz ⟨rfl, ?_⟩
      have hg : w.heap.size ≤ g4 := by rw [HB.out.2.2]; exact Nat.le_refl _
      exact (((HB.out.1.trans (HW.out.1.mono hwl)).setCell (p := ⟨g4, 0, none⟩) hg _).setCell (p := ⟨g4, 1, none⟩) hg _).setCell (p := ⟨g4, 2, none⟩) hg _
    · obtain ⟨j, rfl⟩ : ∃ j, k = j + 1 := ⟨k - 1, by omega⟩
      have hjl : j < sc.length := by rw [HN.out]; omega
      obtain ⟨g, c', m, hv, hg, -, -, -, hc, hs⟩ := (HS1.out.on hbw).at hjl
      simp only [Value.slice.injEq] at hv
      obtain ⟨rfl, -, rfl⟩ := hv
      have hl := hs.get hx
      have htk : sc.take (j + 1) = sc.take j ++ [sc[j]] := by rw [List.take_succ_eq_append_getElem hjl]
      rw [htk, lookS_snoc] at hlk
      have HW := Lib.hid (And.intro hbw hk4)
      have hjn : (j : Int) < n := by have := HN.out; omega
      have hji : ((j : Int) + 1 - 1) = j := by omega
      have hj0 : (0 : Int) ≤ j := by omega
      have hjj : (((j + 1 : Nat) : Int) - 1) = (j : Int) := by omega
      rw [hjj]
      have hjlt : j < n := by omega
      cases hlo : look sc[j] x with
      | none =>
        rw [hlo] at hlk hl
        simp only [Option.getD_none, Option.isSome_none, mz, mgV] at hl
        have HLK := Lib.hid hlk
        clear hlk hbw hs hjj hji hk4 hlo htk
        go_wp2_with fail
        go_roundw
        case rel => exact ⟨j, by omega, by go_num, HLK.out, HW.out.1.alloc HW.out.1.size _⟩
        case measure => simp [intOf]
      | some m2 =>
        rw [hlo] at hlk hl
        obtain ⟨a1, a2, a3⟩ := m2
        simp only [Option.getD_some, Option.isSome_some, mgV] at hl
        have hRn : R = some ⟨a1, a2, a3⟩ := by rw [← HR.out, hlk]
        subst hRn
        have f0 := hk4.frozen 0
        have f1 := hk4.frozen 1
        have f2 := hk4.frozen 2
        have l4 := hk4.lt
        have c0 := hk4.cell 0
        have c1 := hk4.cell 1
        have c2 := hk4.cell 2
        simp only [List.getElem?_toArray, List.getElem?_cons_zero, List.getElem?_cons_succ] at c0 c1 c2
        clear hlk hbw hs hjj hji hk4 hlo htk HR
        go_wp2_with fail
        have hz := (Blk.set_ (Blk.set_ (Blk.set_ HW.out.2 0 (.int .i64 a1)) 1 (.int .i64 a2)) 2 (.int .i64 a3)).alloc (.cells #[.int .i64 a1, .int .i64 a2, .int .i64 a3] tMg)
        refine ret_find (m := ⟨a1, a2, a3⟩) (bv := true) rfl rfl rfl rfl hz ⟨rfl, ?_⟩
        have hg : w.heap.size ≤ g4 := by rw [HB.out.2.2]; exact Nat.le_refl _
        exact ((((HB.out.1.trans (HW.out.1.mono hwl)).setCell (p := ⟨g4, 0, none⟩) hg _).setCell (p := ⟨g4, 1, none⟩) hg _).setCell (p := ⟨g4, 2, none⟩) hg _).alloc (by have := HW.out.1.size; simp; omega) _
end Go.Proofs.YtfaoiajhoifalaaGreatDoor
/-! Ckd -/
namespace Go.Proofs.YtfaoiajhoifalaaGreatDoor
open Go Go.RowKit Go.Maps
set_option linter.unusedVariables false
set_option linter.unusedSimpArgs false

theorem decl_set {sc : List Scp} {k : Nat} (hk : sc.length = k + 1) (x : List UInt8) (m : Mg) : decl sc x m = sc.set k ((x, m) :: sc[k]'(by omega)) := by
  unfold decl
  rw [getLast_at hk]
  apply List.ext_getElem?
  intro j
  by_cases hj : j < k
  · rw [List.getElem?_append_left (by simp; omega), List.getElem?_set_ne (by omega), List.getElem?_dropLast]
    simp; omega
  · by_cases hj2 : j = k
    · subst hj2
      rw [List.getElem?_append_right (by simp; omega), List.getElem?_set_self (by omega)]
      simp [hk]
    · rw [List.getElem?_eq_none (by simp; omega), List.getElem?_eq_none (by simp; omega)]
theorem CkV.Ble {X : CkX} {S : CkS} {σ : Cs} {w : World} (h : CkV X S σ w) : X.B ≤ w.heap.size := by have := h.hB; omega
set_option maxHeartbeats 1000000 in
set_option maxRecDepth 100000 in
theorem declare_any {X : CkX} {S : CkS} {σ : Cs} {w : World} (h : CkV X S σ w) {k : Nat} (hk : σ.sc.length = k + 1) (hk2 : k ≤ 1000000) (hl : (σ.sc.getLast?.getD []).length ≤ 2000000) {x : List UInt8} (hx : x.length ≤ maxLen) (m : Mg) :
    Calls Tryz.prog 50 #[S.scv, .string (str x), mgV m] w fun e w' => e = .returned (.tuple #[]) ∧ CkV X S { σ with sc := decl σ.sc x m } w' ∧ Below X.B w w' ∧ ∀ k, k < w.heap.size → k ∉ S.mps → w'.heap[k]? = w.heap[k]? := by
  have hkl : k < σ.sc.length := by omega
  obtain ⟨s0, hs0⟩ : ∃ s, σ.sc[k]? = some s := ⟨_, List.getElem?_eq_getElem hkl⟩
  have hs0' : σ.sc[k] = s0 := (List.getElem?_eq_some_iff.1 hs0).2
  have hd : decl σ.sc x m = σ.sc.set k ((x, m) :: s0) := by rw [decl_set hk, hs0']
  rw [getLast_at hk, hs0'] at hl
  rw [hd]
  obtain ⟨m1, m2, m3⟩ := m
  have hb1 : Below w.heap.size w (w.alloc (.cells #[.int .i64 m1, .int .i64 m2, .int .i64 m3] tMg)) := (Below.refl _ _).alloc (Nat.le_refl _) _
  have h1 := h.on hb1
  have hB := h.Ble
  have b1 := Blk.new w tMg #[.int .i64 m1, .int .i64 m2, .int .i64 m3]
  obtain ⟨g, c, mm, hv, hg, hnc, hcm, hmm, hc, hs⟩ := h1.scs.at (j := k) (by omega)
  rw [hs0'] at hs
  obtain ⟨R, hR⟩ : ∃ R : Ending → World → Prop, (fun e w' => e = Ending.returned (.tuple #[]) ∧ CkV X S { σ with sc := σ.sc.set k ((x, ⟨m1, m2, m3⟩) :: s0) } w' ∧ Below X.B w w' ∧ ∀ k, k < w.heap.size → k ∉ S.mps → w'.heap[k]? = w.heap[k]?) = R := ⟨_, rfl⟩
  have HR : Hid (∀ w', (CkV X S { σ with sc := σ.sc.set k ((x, ⟨m1, m2, m3⟩) :: s0) } w' ∧ Below X.B w w' ∧ ∀ k, k < w.heap.size → k ∉ S.mps → w'.heap[k]? = w.heap[k]?) → R (.returned (.tuple #[])) w') := Lib.hid fun w' h => by rw [← hR]; exact ⟨rfl, h⟩
  rw [show (fun e w' => e = Ending.returned (.tuple #[]) ∧ CkV X S { σ with sc := σ.sc.set k ((x, ⟨m1, m2, m3⟩) :: s0) } w' ∧ Below X.B w w' ∧ ∀ k, k < w.heap.size → k ∉ S.mps → w'.heap[k]? = w.heap[k]?) = R from hR]
  rw [hv, hk]
  generalize hW : w.alloc (.cells #[.int .i64 m1, .int .i64 m2, .int .i64 m3] tMg) = W1 at *
  obtain ⟨w2, hrun, hs2, hg2⟩ := (show ScV W1.drew mm s0.length s0 from hs).put (by unfold maxLen; omega) hx ⟨m1, m2, m3⟩
  have HC := Lib.hid (h1.drew.put (σ := σ) (s' := (x, ⟨m1, m2, m3⟩) :: s0) hmm hs0 hs2 hg2)
  have hmB : X.B ≤ mm := (h1.map_ k mm _ hmm hs0).1
  have hbb : Below X.B w w2 := (hb1.mono hB).trans (((Below.refl X.B W1).drew).grown hg2 (by have := h1.Ble; simpa using this) (fun j e => by cases e; exact hmB))
  have hfr : ∀ k, k < w.heap.size → k ∉ S.mps → w2.heap[k]? = w.heap[k]? := by
    intro k hk hkm
    have h9 := hg2.block k (by have := hb1.size; simp; omega) (fun e => hkm (by cases e; exact List.mem_of_getElem? hmm))
    exact h9.trans (hb1.block k hk)
  have HW := Lib.hid (And.intro hbb hfr)
  have p0 := b1.cell 0
  have p1 := b1.cell 1
  have p2 := b1.cell 2
  have pl := b1.lt
  simp only [List.getElem?_toArray, List.getElem?_cons_zero, List.getElem?_cons_succ] at p0 p1 p2
  unfold mgV at hrun ⊢
  simp only at hrun
  clear hs hs2 hg2 h1 h hv hbb hfr hb1 b1 hk hmm hs0 hs0' hd hR hl hkl
  go_enter Tryz.func50, Tryz.ntmps50
  go_upto_region 1 with (fail)
  clear hW
  generalize w.heap.size = H0 at *
  go_region
  go_end0
  exact HR.out _ ⟨HC.out, HW.out.1, HW.out.2⟩
theorem info_pk {T : TypeId} {z : Option Value} {s b : Nat} (h : (Tryz.prog.info? T).map (fun i => (i.zero, i.size, i.bytes)) = some (z, s, b)) : ∃ i0, Tryz.prog.info? T = some i0 ∧ i0.zero = z ∧ i0.size = s ∧ i0.bytes = b := by
  cases hi : Tryz.prog.info? T with
  | none => rw [hi] at h; cases h
  | some i0 =>
    rw [hi] at h
    simp only [Option.map_some, Option.some.injEq, Prod.mk.injEq] at h
    exact ⟨i0, rfl, h.1, h.2.1, h.2.2⟩
/-- 'out = append(out, x)': the new element's cells are laid; out is the call's own. -/
theorem appK {ops : Array Oper} {rest : List Oper} {op : Oper} {a : Act} {Q : Exit → Act → World → Prop} (T TL : TypeId) (i0 : TypeInfo) (z : Value) (sz bt : Nat)
    (hu : Tryz.prog.underlying TL = some (.slice T)) (hi : Tryz.prog.info? T = some i0) (hz0 : i0.zero = some z) (hz1 : i0.size = sz) (hz2 : i0.bytes = bt) (hzs : z.cells.size = sz) (hsz : 0 < sz) (hbt : bt ≤ 100)
    (B : Nat) (w0 W : World) (H : Nat) (hH : W.heap.size = H) (v : Value) (n : Nat) (xs : List Value) (x : Array Value) (hx : x.size = sz) (h1 : ∀ u ∈ x.toList, u.oneCell' = true) (s y : Operand)
    (hgd : op.guard = none) (ho : op.op = .call { callee := .builtin .append, args := #[s, y], argTypes := #[TL, TL] }) (hs : a.eval s = v) (hy : a.eval y = .slice (some ⟨H, 0, none⟩) 1 1)
    (hrow : W.ownsRow B T sz v n xs) (hb : Below B w0 W) (hB : B ≤ w0.heap.size) (hn : n ≤ 2000000)
    (h : ∀ v' w1, w1.ownsRow B T sz v' (n + 1) (xs ++ x.toList) → Below B w0 w1 → (W.alloc (.cells x T)).grownBy w1 v.ownBlock → (∃ g cap, v' = .slice (some ⟨g, 0, none⟩) (n + 1) cap) → wpList Tryz.prog ops Q rest (a.put op.dst v') w1) :
    wpList Tryz.prog ops Q (op :: rest) a (W.alloc (.cells x T)) := by
  subst hH
  have hBW : B ≤ W.heap.size := Nat.le_trans hB hb.size
  have hnews : ∀ j u, x.toList[j]? = some u → (W.alloc (.cells x T)).cell? ((⟨W.heap.size, 0, none⟩ : Addr).add j) = some u :=
    World.news_of_block (cs := x) (heap_alloc_new W _)
  refine wpList_append_own _ hgd s y TL ho B T i0 z sz bt hu hi hz0 hz1 hz2 hzs hsz v n _ hs (hrow.alloc _) ⟨W.heap.size, 0, none⟩ 1 1 x.toList hy (by rw [Array.length_toList, hx, Nat.one_mul]) hnews h1 (by unfold maxLen; omega) ?_ (by simp; omega) ?_
  · have : (n + 1) * bt ≤ 2000001 * 100 := Nat.mul_le_mul (by omega) hbt
    omega
  · intro v' w1 hown hgrow _
    refine h v' w1 hown (hb.trans (((Below.refl _ W).alloc hBW _).grown hgrow (by simp; omega) (fun j ej => ?_))) hgrow (ownsRow_succ hown)
    rcases hrow.2 with ⟨rfl, _⟩ | ⟨g, cap, cur, rfl, hbg, _, _⟩
    · simp [Value.ownBlock] at ej
    · obtain rfl : g = j := by simpa [Value.ownBlock] using ej
      exact hbg

theorem infoMm : (Tryz.prog.info? tMm).map (fun i => (i.zero, i.size, i.bytes)) = some (some (.map none), 1, 8) := by kernel_rfl
theorem infoIn : (Tryz.prog.info? tInt).map (fun i => (i.zero, i.size, i.bytes)) = some (some (.int .i64 0), 1, 8) := by kernel_rfl
theorem own_ex {w : World} {B n sz : Nat} {t : TypeId} {v : Value} {xs : List Value} (h : w.ownsRow B t sz v n xs) : ∃ A c, v = .slice A n c := by
  rcases h.2 with ⟨rfl, rfl⟩ | ⟨g, cap, cur, rfl, _⟩
  · exact ⟨none, 0, rfl⟩
  · exact ⟨_, _, rfl⟩
/-- Another scope, empty. -/
def CkS.push (S : CkS) (v : Value) (m : Nat) : CkS := { S with scv := v, mps := S.mps ++ [m] }
theorem CkV.fresh {X : CkX} {S : CkS} {σ : Cs} {w : World} (h : CkV X S σ w) : ∀ m ∈ S.mps, m < w.heap.size := by
  intro m hm
  obtain ⟨j, hj, rfl⟩ := List.getElem_of_mem hm
  have hj2 : j < σ.sc.length := by rw [← h.scl]; exact hj
  exact (h.map_ j _ _ (List.getElem?_eq_getElem hj) (List.getElem?_eq_getElem hj2)).2.lt
theorem CkV.pushed {X : CkX} {S : CkS} {σ : Cs} {w w1 : World} (h : CkV X S σ w) {v' : Value} (hg : ((w.alloc (.map #[] 0)).alloc (.cells #[.map (some w.heap.size)] tMm)).grownBy w1 S.scv.ownBlock)
    (hr : w1.ownsRow X.B tMm 1 v' (S.mps.length + 1) (S.mps.map (fun m => Value.map (some m)) ++ [.map (some w.heap.size)])) :
    CkV X (S.push v' w.heap.size) { σ with sc := σ.sc ++ [[]] } (w1.setCell ⟨X.b, 3, none⟩ v') := by
  have h2 := (h.alloc (.map #[] 0)).alloc (.cells #[.map (some w.heap.size)] tMm)
  have hm1 : ScV (w.alloc (.map #[] 0)) w.heap.size 0 [] := Mpv.made w
  have hm2 : ScV ((w.alloc (.map #[] 0)).alloc (.cells #[.map (some w.heap.size)] tMm)) w.heap.size 0 [] := gr_map (World.grownBy_alloc _ _ none) hm1 (by simp)
  have hne : ∀ {m : Nat}, KindM ((w.alloc (.map #[] 0)).alloc (.cells #[.map (some w.heap.size)] tMm)) m → S.scv.ownBlock ≠ some m := fun h1 e => kindM_ne (row_kind h2.sco e) h1 rfl
  refine h2.scopes (mps' := S.mps ++ [w.heap.size]) (sc' := σ.sc ++ [[]]) hg (by simpa using hr) (by simp [h.scl]) ?_ ?_ ?_
  · intro j m s h1 hs
    by_cases hj : j < S.mps.length
    · rw [List.getElem?_append_left hj] at h1
      rw [List.getElem?_append_left (by rw [← h.scl]; exact hj)] at hs
      have := h2.map_ j m s h1 hs
      exact ⟨this.1, gr_map hg this.2 (hne (mpv_kind this.2))⟩
    · have hjl : j = S.mps.length := by
        have := (List.getElem?_eq_some_iff.1 h1).1
        simp at this
        omega
      subst hjl
      rw [List.getElem?_append_right (Nat.le_refl _)] at h1
      rw [List.getElem?_append_right (by rw [h.scl]; exact Nat.le_refl _)] at hs
      simp at h1
      rw [h.scl] at hs
      simp at hs
      subst h1 hs
      exact ⟨h.Ble, gr_map hg hm2 (hne (mpv_kind hm2))⟩
  · rw [List.nodup_append]
    refine ⟨h.nod2, by simp, ?_⟩
    intro a ha b hb
    simp at hb
    subst hb
    have := h.fresh a ha
    omega
  · intro on
    have h3 := h.labn on
    have h4 := (h.lab on).2.1.lt
    simp only [List.mem_append, List.mem_singleton, not_or]
    exact ⟨h3, by omega⟩
set_option maxHeartbeats 1000000 in
set_option maxRecDepth 100000 in
theorem open_any {X : CkX} {S : CkS} {σ : Cs} {w : World} (h : CkV X S σ w) (hk : σ.sc.length ≤ 1000000) :
    Calls Tryz.prog 55 #[.pointer (some ⟨X.b, 3, none⟩)] w fun e w' => e = .returned (.tuple #[]) ∧ ∃ v m, CkV X (S.push v m) { σ with sc := σ.sc ++ [[]] } w' ∧ Below X.B w w' := by
  obtain ⟨i0, hi, hz0, hz1, hz2⟩ := info_pk infoMm
  have hmm := @run_makeMap Tryz.prog
  obtain ⟨A, c, hv⟩ := own_ex h.sco
  have hB := h.Ble
  have hc3 : w.cell? ⟨X.b, 3, none⟩ = some S.scv := h.chk.cell 3
  have hf3 := h.chk.frozen 3
  have hl3 := h.chk.lt
  have hb0 : Below w.heap.size w (w.alloc (.map #[] 0)) := (Below.refl _ _).alloc (Nat.le_refl _) _
  have h1 := h.on hb0
  have hlen : S.mps.length ≤ 1000000 := by rw [h.scl]; exact hk
  rw [hv] at hc3
  have H := Lib.hid h
  have HB0 := Lib.hid hb0
  have hsz1 : (w.alloc (.map #[] 0)).heap.size = w.heap.size + 1 := by simp
  have hrow := h1.sco
  rw [hv] at hrow
  have H2 := Lib.hid (h1.alloc (.cells #[.map (some w.heap.size)] tMm))
  have HV := Lib.hid hv
  clear h h1 hv hb0
  go_enter Tryz.func55, Tryz.ntmps55
  go_wp2_with (at_builtin; refine appK tMm 63 i0 _ 1 8 Tryz.underlying63 hi hz0 hz1 hz2 rfl (by omega) (by omega) X.B w (w.alloc (.map #[] 0)) (w.heap.size + 1) hsz1 _ S.mps.length _ #[.map (some w.heap.size)] rfl (by simp [Value.oneCell']) _ _ rfl rfl rfl rfl hrow (HB0.out.mono hB) hB (by omega) ?_; intro v' w1 hr1 hb1 hg1 hsh; obtain ⟨gv, cp, rfl⟩ := hsh; have hg2 := hg1; rw [← HV.out] at hg2; have HP := Lib.hid (H.out.pushed hg2 hr1); have k1 := gr_blk hg2 H2.out.chk (fun e => kind_ne (row_kind H2.out.sco e) H2.out.chk.kind (by decide) rfl); have hf4 := k1.frozen 3; have hc4 := k1.cell 3; have hl4 := k1.lt; have HB1 := Lib.hid hb1; clear hg1 hg2 hr1 hb1 k1)
  have hBb := H.out.hB.1
  go_end0
  exact ⟨rfl, _, _, HP.out, HB1.out.setCell (p := ⟨X.b, 3, none⟩) hBb _⟩
/-- One scope less. -/
def CkS.pop (S : CkS) (v : Value) : CkS := { S with scv := v, mps := S.mps.dropLast }
theorem CkV.popped {X : CkX} {S : CkS} {σ : Cs} {w : World} (h : CkV X S σ w) {k g c : Nat} (hk : σ.sc.length = k + 1) (hv : S.scv = .slice (some ⟨g, 0, none⟩) (k + 1) c) :
    CkV X (S.pop (.slice (some ⟨g, 0, none⟩) k c)) { σ with sc := σ.sc.dropLast } (w.setCell ⟨X.b, 3, none⟩ (.slice (some ⟨g, 0, none⟩) k c)) := by
  have hmk : S.mps.length = k + 1 := by rw [h.scl]; exact hk
  refine h.scopes (mps' := S.mps.dropLast) (sc' := σ.sc.dropLast) (World.grownBy.refl _ _) ?_ (by simp [h.scl]) ?_ (h.nod2.sublist (List.dropLast_sublist _)) (fun on hm => h.labn on (List.dropLast_subset _ hm))
  · rcases h.sco.2 with ⟨e, _⟩ | ⟨g', cap, cur, e, h1, h2, h3, h4, h5, h6⟩
    · rw [hv] at e; cases e
    · rw [hv] at e
      simp only [Value.slice.injEq, Option.some.injEq, Addr.mk.injEq, and_true] at e
      obtain ⟨rfl, -, rfl⟩ := e
      refine ⟨by simp, .inr ⟨g, c, cur, by simp [hmk], h1, h2, by simp; omega, h4, h5, ?_⟩⟩
      rw [hmk] at h6
      have : cur.toList.take (S.mps.dropLast.length * 1) = (cur.toList.take ((k + 1) * 1)).take k := by rw [List.take_take]; congr 1; simp [hmk]
      rw [this, h6, ← List.map_take, List.dropLast_eq_take]
      simp [hmk]
  · intro j m s h1 hs
    have hj : j < k := by
      have := (List.getElem?_eq_some_iff.1 h1).1
      simp [hmk] at this
      exact this
    rw [List.getElem?_dropLast, if_pos (by rw [hmk]; simpa using hj)] at h1
    rw [List.getElem?_dropLast, if_pos (by rw [hk]; simpa using hj)] at hs
    exact h.map_ j m s h1 hs
set_option maxHeartbeats 1000000 in
set_option maxRecDepth 100000 in
theorem close_any {X : CkX} {S : CkS} {σ : Cs} {w : World} (h : CkV X S σ w) {k : Nat} (hk : σ.sc.length = k + 1) (hk2 : k ≤ 1000000) :
    Calls Tryz.prog 58 #[.pointer (some ⟨X.b, 3, none⟩)] w fun e w' => e = .returned (.tuple #[]) ∧ ∃ v, CkV X (S.pop v) { σ with sc := σ.sc.dropLast } w' ∧ Below X.B w w' := by
  obtain ⟨g, c, m, hv, hg, hnc, hcm, -, hc, -⟩ := h.scs.at (j := k) (by omega)
  rw [hk] at hv hnc
  have hB := h.Ble
  have hc3 : w.cell? ⟨X.b, 3, none⟩ = some S.scv := h.chk.cell 3
  have hf3 := h.chk.frozen 3
  have hl3 := h.chk.lt
  rw [hv] at hc3
  have HP := Lib.hid (h.popped hk hv).drew
  have hBb := h.hB.1
  clear h hv hk hc
  unfold maxLen at hcm
  go_enter Tryz.func58, Tryz.ntmps58
  go_region
  go_end0
  exact ⟨rfl, _, HP.out, ((Below.refl _ _).setCell (p := ⟨X.b, 3, none⟩) hBb _).drew⟩
end Go.Proofs.YtfaoiajhoifalaaGreatDoor
/-! Cke -/
namespace Go.Proofs.YtfaoiajhoifalaaGreatDoor
open Go Go.RowKit Go.Maps
set_option linter.unusedVariables false
set_option linter.unusedSimpArgs false

theorem iol_any (b : Bool) (w : World) : Calls Tryz.prog 93 #[.bool b] w fun e w' => e = .returned (.int .i64 (iol b)) ∧ w = w' := by
  cases b
  · go_enter Tryz.func93, Tryz.ntmps93
    go_wp2
    go_ret
    exact ⟨rfl, rfl⟩
  · go_enter Tryz.func93, Tryz.ntmps93
    go_wp2
    go_ret
    exact ⟨rfl, rfl⟩
theorem eb_any (t : Int) (w : World) : Calls Tryz.prog 52 #[.int .i64 t] w fun e w' => e = .returned (.int .i64 (eb t)) ∧ w = w' := by
  by_cases h3 : t = 3
  · subst h3
    go_enter Tryz.func52, Tryz.ntmps52
    go_wp2
    go_ret
    exact ⟨rfl, rfl⟩
  · by_cases h1 : t = 1
    · subst h1
      go_enter Tryz.func52, Tryz.ntmps52
      go_wp2
      go_ret
      exact ⟨rfl, rfl⟩
    · have e : eb t = 8 := by simp [eb, h3, h1]
      rw [e]
      have b3 : (t == 3) = false := by simp [h3]
      have b1 : (t == 1) = false := by simp [h1]
      go_enter Tryz.func52, Tryz.ntmps52
      go_wp2
      go_ret
      exact ⟨rfl, rfl⟩
section
variable {X : CkX} {S : CkS} {σ : Cs} {w : World}
theorem CkV.nodeCell (h : CkV X S σ w) {i : Nat} {x : CN} (hx : X.ns[i]? = some x) (j : Nat) (hj : j < 8) : w.cell? ⟨X.nB, i * 8 + j, none⟩ = (cellT x (σ.tr.getD i (0, 0)))[j]? := by
  have hi := (List.getElem?_eq_some_iff.1 hx).1
  have hi2 : i < σ.tr.length := by rw [h.trl]; exact hi
  rw [h.nod.cellAt (i * 8 + j) (by have h1 : (i + 1) * 8 ≤ X.ns.length * 8 := Nat.mul_le_mul_right _ hi; omega)]
  exact cellsTr_at X.ns σ.tr i j hj hx (by simp [hi2])
theorem CkV.nodeLt (h : CkV X S σ w) : X.nB < w.heap.size := (row_kind h.nod rfl).lt
theorem CkV.c0 (h : CkV X S σ w) : w.cell? ⟨X.b, 0, none⟩ = some (.slice X.gA X.gs.length X.gc) := h.chk.cell 0
theorem CkV.c1 (h : CkV X S σ w) : w.cell? ⟨X.b, 1, none⟩ = some (.slice (some ⟨X.fB, 0, none⟩) X.fl.length X.fc) := h.chk.cell 1
theorem CkV.c2 (h : CkV X S σ w) : w.cell? ⟨X.b, 2, none⟩ = some (.slice (some ⟨X.nB, 0, none⟩) X.ns.length X.nc) := h.chk.cell 2
theorem CkV.c3 (h : CkV X S σ w) : w.cell? ⟨X.b, 3, none⟩ = some S.scv := h.chk.cell 3
theorem CkV.c4 (h : CkV X S σ w) : w.cell? ⟨X.b, 4, none⟩ = some (.slice (some ⟨X.sB, 0, none⟩) X.ns.length X.sc) := h.chk.cell 4
theorem CkV.c5 (h : CkV X S σ w) : w.cell? ⟨X.b, 5, none⟩ = some S.fpV := h.chk.cell 5
theorem CkV.c6 (h : CkV X S σ w) : w.cell? ⟨X.b, 6, none⟩ = some S.lmV := h.chk.cell 6
end
abbrev ckp (X : CkX) : Value := .pointer (some ⟨X.b, 0, none⟩)
abbrev ndp (X : CkX) (i : Nat) : Value := .pointer (some ⟨X.nB, i * 8, none⟩)
set_option maxHeartbeats 1000000 in
set_option maxRecDepth 100000 in
theorem isLong_any {X : CkX} {S : CkS} {σ : Cs} {w : World} (h : CkV X S σ w) {i : Nat} (hi : i < X.ns.length) :
    Calls Tryz.prog 154 #[ckp X, .int .i64 i] w fun e w' => e = .returned (.bool (isLong σ.tr i)) ∧ w = w' := by
  have hc2 := h.c2
  have hl2 := h.chk.lt
  have hn6 := h.nodeCell (List.getElem?_eq_getElem hi) 6 (by omega)
  have hnl := h.nodeLt
  simp only [cellT, List.getElem?_cons_succ, List.getElem?_cons_zero] at hn6
  have hii : (i : Int) < X.ns.length := by omega
  have e : isLong σ.tr i = ((σ.tr.getD i (0, 0)).1 == 2) := by
    unfold isLong tyAt
    generalize (σ.tr.getD i (0, 0)).1 = t
    by_cases ht : t = 2 <;> simp [ht]
  rw [e]
  generalize (σ.tr.getD i (0, 0)).1 = t at *
  clear h e
  go_enter Tryz.func154, Tryz.ntmps154
  go_wp2
  go_ret
  exact ⟨rfl, rfl⟩
/-- Kids as they are read. -/
def RdK (w : World) (A : Option Addr) (ks : List Nat) : Prop := ks = [] ∨ ∃ g o, A = some ⟨g, o, none⟩ ∧ g < w.heap.size ∧ ∀ j k, ks[j]? = some k → w.cell? ⟨g, o + j, none⟩ = some (.int .i64 (k : Nat))
theorem RdK.of_row {w : World} {B : Nat} {v : Value} {ks : List Nat} (h : w.ownsRow B tInt 1 v ks.length (ints (natI ks))) : ∃ A c, v = .slice A ks.length c ∧ RdK w A ks := by
  rcases h.2 with ⟨rfl, h0⟩ | ⟨g, cap, cur, rfl, h1, h2, h3⟩
  · exact ⟨none, 0, by rw [h0], .inl (List.eq_nil_of_length_eq_zero h0)⟩
  · refine ⟨_, _, rfl, .inr ⟨g, 0, rfl, (Array.getElem?_eq_some_iff.1 h2).1, fun j k hk => ?_⟩⟩
    have hj := (List.getElem?_eq_some_iff.1 hk).1
    rw [Nat.zero_add, World.ownsRow.cellAt h j (by omega)]
    simp [ints, natI, hk]
set_option maxHeartbeats 1000000 in
set_option maxRecDepth 100000 in
theorem mbv_any {X : CkX} {S : CkS} {σ : Cs} {w : World} (h : CkV X S σ w) {i : Nat} {x : CN} (hx : X.ns[i]? = some x) {ks : List Nat} (hks : ∀ k ∈ ks, k < X.ns.length) {A : Option Addr} {n c : Nat} (hn : ks.length = n) (hn1 : n ≤ 1000000) (hr : RdK w A ks) :
    Calls Tryz.prog 153 #[ckp X, ndp X i, .slice A n c] w fun e w' => ((ks.all fun k => isVal (tyAt σ.tr k)) = true ∧ e = .returned (.tuple #[]) ∨ (ks.all fun k => isVal (tyAt σ.tr k)) = false ∧ e = .panicked [{ v := .iface tFt (.agg #[.int .i64 6, .int .i64 x.h.p]), recovered := false }]) ∧ w = w' := by
  have hc2 := h.c2
  have hl2 := h.chk.lt
  have hnl := h.nodeLt
  have hp := h.nodeCell hx 1 (by omega)
  simp only [cellT, List.getElem?_cons_succ, List.getElem?_cons_zero] at hp
  have hil := (List.getElem?_eq_some_iff.1 hx).1
  have H := Lib.hid h
  have HN := Lib.hid hn
  obtain ⟨V, hV⟩ : ∃ V, (ks.all fun k => isVal (tyAt σ.tr k)) = V := ⟨_, rfl⟩
  rw [hV]
  have HV := Lib.hid hV
  obtain ⟨R, hR⟩ : ∃ R : Ending → World → Prop, (fun e w' => (V = true ∧ e = Ending.returned (.tuple #[]) ∨ V = false ∧ e = .panicked [{ v := .iface tFt (.agg #[.int .i64 6, .int .i64 x.h.p]), recovered := false }]) ∧ w = w') = R := ⟨_, rfl⟩
  have HT : Hid (V = true → R (.returned (.tuple #[])) w) := Lib.hid fun e => by rw [← hR]; exact ⟨.inl ⟨e, rfl⟩, rfl⟩
  have HF : Hid (V = false → R (Pnc 6 x.h.p) w) := Lib.hid fun e => by rw [← hR]; exact ⟨.inr ⟨e, rfl⟩, rfl⟩
  rw [hR]
  clear h hV hR hn
  generalize x.h.p = p at *
  clear hx
  go_enter Tryz.func153, Tryz.ntmps153
  go_wp2
  go_loop [11] (fun v => ∃ j : Nat, j ≤ n ∧ v = .int .i64 j ∧ ((ks.take j).all fun k => isVal (tyAt σ.tr k)) = true) (fun v => n - (intOf v).toNat)
  case atStart => exact ⟨0, by omega, rfl, by simp⟩
  case round =>
    obtain ⟨j, hj, rfl, hal⟩ := hrel
    have HA := Lib.hid hal
    clear hal
    by_cases hlt : j < n
    · have hjl : j < ks.length := by have := HN.out; omega
      obtain ⟨g, o, rfl, hg, hcj⟩ : ∃ g o, A = some ⟨g, o, none⟩ ∧ g < w.heap.size ∧ w.cell? ⟨g, o + j, none⟩ = some (.int .i64 (ks[j] : Nat)) := by
        rcases hr with h0 | ⟨g, o, e, hg, hc⟩
        · rw [h0] at hjl; simp at hjl
        · exact ⟨g, o, e, hg, hc j _ (List.getElem?_eq_getElem hjl)⟩
      have hkl := hks _ (List.getElem_mem hjl)
      have hn6 := H.out.nodeCell (List.getElem?_eq_getElem hkl) 6 (by omega)
      simp only [cellT, List.getElem?_cons_succ, List.getElem?_cons_zero] at hn6
      have HTK : Hid (((ks.take (j + 1)).all fun k => isVal (tyAt σ.tr k)) = isVal ((σ.tr.getD ks[j] (0, 0)).1)) := Lib.hid (by
        rw [List.take_succ_eq_append_getElem hjl, List.all_append, HA.out]
        simp [tyAt])
      have HM : Hid (isVal ((σ.tr.getD ks[j] (0, 0)).1) = false → V = false) := Lib.hid fun e => by
        rw [← HV.out, List.all_eq_false]
        exact ⟨_, List.getElem_mem hjl, by simp only [tyAt]; rw [e]; simp⟩
      generalize (σ.tr.getD ks[j] (0, 0)).1 = ty at *
      generalize ks[j] = kk at *
      have hkk : (kk : Int) < X.ns.length := by omega
      by_cases h1 : ty = 1
      · subst h1
        go_wp2_with (go_at_call 48; refine (refuse_no _ _ _).mono ?_; rintro e w' ⟨rfl, rfl⟩)
        go_round
        case rel => exact ⟨j + 1, by omega, by go_num, by rw [HTK.out]; rfl⟩
        case measure => simp [intOf]; omega
      · have b1 : (ty != 1) = true := by simp [h1]
        by_cases h2 : ty = 2
        · subst h2
          go_wp2_with (go_at_call 48; refine (refuse_no _ _ _).mono ?_; rintro e w' ⟨rfl, rfl⟩)
          go_round
          case rel => exact ⟨j + 1, by omega, by go_num, by rw [HTK.out]; rfl⟩
          case measure => simp [intOf]; omega
        · have b2 : (ty != 2) = true := by simp [h2]
          have HVF := HF.out (HM.out (by simp [isVal, h1, h2]))
          go_wp2_with (go_at_call 48; refine (refuse_yes _ _ _).mono ?_; rintro e w' ⟨rfl, rfl⟩)
          exact pnc_end rfl HVF
    · have hjn : j = n := by omega
      have hV : V = true := by rw [← HV.out, ← HA.out, List.take_of_length_le (by rw [HN.out, hjn]; exact Nat.le_refl _)]
      have HVT := HT.out hV
      go_wp2
      go_end0
      exact HVT
end Go.Proofs.YtfaoiajhoifalaaGreatDoor
