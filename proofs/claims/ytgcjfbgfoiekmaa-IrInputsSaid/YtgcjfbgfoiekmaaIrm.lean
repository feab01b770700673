/-
  PLAIN MATHEMATICS of layer ir: no Go in sight. Modules of blocks of instructions: which may be, and what they do; with more steps, with other inputs.
-/
import Derived.Test.YtgcjfbgfoiekmaaMath
namespace Go.Proofs.Ytgcjfbgfoiekmaa
set_option linter.unusedVariables false
set_option linter.unusedSimpArgs false

structure Ins where
  op : Int
  ty : Int
  dst : Int
  a : Int
  b : Int
  n : Int
  s : List UInt8
  args : List Int
  deriving DecidableEq, Inhabited
structure Eb where
  k : Int
  a : Int
  to : Int
  el : Int
  deriving DecidableEq, Inhabited
structure Blo where
  code : List Ins
  e : Eb
  deriving DecidableEq, Inhabited
structure Cod where
  nm : List UInt8
  ty : Int
  pr : Int
  regs : List Int
  bl : List Blo
  deriving DecidableEq, Inhabited
structure Glo where
  nm : List UInt8
  ty : Int
  sz : Int
  at_ : Int
  deriving DecidableEq, Inhabited
structure Mdl where
  g : List Glo
  f : List Cod
  deriving DecidableEq, Inhabited

/-! which may be -/
def isV (t : Int) : Bool := t == 1 || t == 2
def isCmp (s : List UInt8) : Bool := s == [61, 61] || s == [33, 61] || s == [60] || s == [60, 61] || s == [62] || s == [62, 61]
def isAri (s : List UInt8) : Bool := s == [43] || s == [45] || s == [42] || s == [47] || s == [37] || s == [38] || s == [124] || s == [94] || s == [60, 60] || s == [62, 62]
def held (t : Int) : Int := if t = 2 then 2 else 1
def resT (i : Ins) : Int := if isCmp i.s then 1 else i.ty
/-- A list at a place. -/
def at0 (l : List Int) (i : Int) : Int := l.getD i.toNat 0
def inR {α : Type} (l : List α) (i : Int) : Bool := decide (0 ≤ i) && decide (i < (l.length : Int))
section
variable (m : Mdl) (f : Cod)
def gAt (n : Int) : Glo := m.g.getD n.toNat default
def fAt (n : Int) : Cod := m.f.getD n.toNat default
def hasForm (i : Ins) : Bool := if i.op = 3 then isCmp i.s || isAri i.s else if i.op = 4 then isV i.ty || i.ty == 3 else decide (1 ≤ i.op) && decide (i.op ≤ 11)
/-- The registers that an instruction needs, and what is asked of each one's type. -/
def needL (i : Ins) : List (Int × (Int → Bool)) :=
  if i.op = 1 then [(i.dst, isV)]
  else if i.op = 2 then [(i.a, isV), (i.dst, fun t => t == at0 f.regs i.a)]
  else if i.op = 3 then [(i.a, fun t => t == i.ty), (i.b, fun t => t == i.ty), (i.dst, fun t => t == resT i)]
  else if i.op = 4 then [(i.a, isV), (i.dst, fun t => t == held i.ty)]
  else if i.op = 5 then [(i.a, fun t => t == 2), (i.dst, fun t => t == held (gAt m i.n).ty)]
  else if i.op = 6 then [(i.a, fun t => t == 2), (i.b, fun t => t == held (gAt m i.n).ty)]
  else if i.op = 7 then [(i.dst, fun t => t == (gAt m i.n).ty)]
  else if i.op = 8 then [(i.a, fun t => t == (gAt m i.n).ty)]
  else if i.op = 9 then (i.args.mapIdx fun k a => (a, fun t => t == at0 (fAt m i.n).regs k)) ++ (if 0 ≤ i.dst then [(i.dst, fun t => t == (fAt m i.n).ty)] else [])
  else if i.op = 10 then [(i.dst, fun t => t == 2)]
  else if i.op = 11 then [(i.a, fun t => t == 2)]
  else []
def existL (l : List (Int × (Int → Bool))) : Bool := l.all fun n => inR f.regs n.1
def fitL (l : List (Int × (Int → Bool))) : Bool := l.all fun n => n.2 (at0 f.regs n.1)
def placeI (i : Ins) : Bool :=
  if i.op = 1 then wr (at0 f.regs i.dst) i.n == i.n
  else if i.op = 5 ∨ i.op = 6 then inR m.g i.n && decide (0 < (gAt m i.n).sz)
  else if i.op = 7 ∨ i.op = 8 then inR m.g i.n && (gAt m i.n).sz == 0
  else if i.op = 9 then inR m.f i.n && decide ((fAt m i.n).pr ≤ ((fAt m i.n).regs.length : Int))
  else true
def chkI (i : Ins) : Int :=
  if hasForm i = false then 2
  else if (existL f (needL m f i) && placeI m f i) = false then 11
  else if i.op = 9 ∧ (i.args.length : Int) ≠ (fAt m i.n).pr then 7
  else if fitL f (needL m f i) = false then 6
  else 0
def chkE (e : Eb) : Int :=
  if e.k = 1 then (if inR f.bl e.to then 0 else 11)
  else if e.k = 2 then (if (inR f.bl e.to && inR f.bl e.el && inR f.regs e.a) = false then 11 else if at0 f.regs e.a = 1 then 0 else 6)
  else if e.k = 3 then (if 0 ≤ e.a then (if inR f.regs e.a = false then 11 else if at0 f.regs e.a = f.ty then 0 else 6) else if f.ty = 0 then 0 else 6)
  else 2
/-- The first that is not 0. -/
def fst0 : List Int → Int
  | [] => 0
  | x :: l => if x = 0 then fst0 l else x
def chkB (b : Blo) : Int := fst0 (b.code.map (chkI m f) ++ [chkE f b.e])
def chkH : Int :=
  if f.bl = [] ∨ 400 < f.bl.length ∨ 4096 < f.regs.length then 9
  else if f.pr < 0 ∨ (f.regs.length : Int) < f.pr then 11
  else if f.regs.all isV = false then 6
  else if isV f.ty = false ∧ f.ty ≠ 0 then 6
  else 0
def chkF : Int := fst0 (chkH f :: f.bl.map (chkB m f))
def okG (g : Glo) : Bool := isV g.ty || (g.ty == 3 && decide (0 < g.sz))
/-- The place of main; -1: there is none. -/
def mainAt : Int := match m.f.findIdx? (fun f => f.nm == [109, 97, 105, 110]) with
  | some k => k
  | none => -1
def chk : Int :=
  if m.g.all okG = false then 6
  else if fst0 (m.f.map (chkF m)) ≠ 0 then fst0 (m.f.map (chkF m))
  else if mainAt m < 0 then 12
  else if (fAt m (mainAt m)).ty ≠ 1 ∨ 0 < (fAt m (mainAt m)).pr then 12
  else 0
end

/-! what they do -/
structure Mst where
  inp : List Int
  out : List Int
  st : Int
  sc : List Int
  el : Int → Int → Int
  calls : Int
inductive Rn where
  | ok (v : List Int) (s : Mst)
  | er (status code : Int) (s : Mst)
  | out
def Rn.bind (r : Rn) (k : List Int → Mst → Rn) : Rn := match r with
  | .ok v s => k v s
  | .er a b o => .er a b o
  | .out => .out
inductive Mo where
  | call (f : Int) (args : List Int)
  | blk (c : Cod) (regs : List Int) (at_ : Int)
  | code (regs : List Int) (l : List Ins)
def stepM (s : Mst) : Rn := if s.st ≤ 0 then .er 3 0 s else .ok [] { s with st := s.st - 1 }
def put0 (r : List Int) (to v : Int) : List Int := if 0 ≤ to then r.set to.toNat v else r
/-- What an instruction writes. -/
def wrs (i : Ins) : Int := if (1 ≤ i.op ∧ i.op ≤ 5) ∨ i.op = 7 ∨ i.op = 10 then i.dst else if i.op = 9 then max i.dst (-1) else -1
def regs0 (c : Cod) (a : List Int) : List Int := a.take c.regs.length ++ List.replicate (c.regs.length - a.length) 0
def retd (r : List Int) (a : Int) : Int := if a < 0 then 0 else at0 r a
def nxt (r : List Int) (e : Eb) : Int := if e.k = 2 ∧ at0 r e.a = 0 then e.el else e.to
def setEl (el : Int → Int → Int) (a i v : Int) : Int → Int → Int := fun x y => if x = a ∧ y = i then v else el x y
section
variable (m : Mdl)
def doM (r : List Int) (i : Ins) (s : Mst) : Rn :=
  if i.op = 1 then .ok [i.n] s
  else if i.op = 2 then .ok [at0 r i.a] s
  else if i.op = 3 then (if (bn i.ty i.s (at0 r i.a) (at0 r i.b)).2 ≠ 0 then .er 2 (bn i.ty i.s (at0 r i.a) (at0 r i.b)).2 s else .ok [(bn i.ty i.s (at0 r i.a) (at0 r i.b)).1] s)
  else if i.op = 4 then .ok [wr i.ty (at0 r i.a)] s
  else if i.op = 5 then (if at0 r i.a < 0 ∨ (gAt m i.n).sz ≤ at0 r i.a then .er 2 3 s else .ok [s.el i.n (at0 r i.a)] s)
  else if i.op = 6 then (if at0 r i.a < 0 ∨ (gAt m i.n).sz ≤ at0 r i.a then .er 2 3 s else .ok [0] { s with el := setEl s.el i.n (at0 r i.a) (wr (gAt m i.n).ty (at0 r i.b)) })
  else if i.op = 7 then .ok [at0 s.sc i.n] s
  else if i.op = 8 then .ok [0] { s with sc := s.sc.set i.n.toNat (at0 r i.a) }
  else if i.op = 10 then .ok [s.inp.getD 0 0] { s with inp := s.inp.tail }
  else if i.op = 11 then .ok [0] { s with out := s.out ++ [at0 r i.a] }
  else .ok [0] s
def ex : Nat → Mo → Mst → Rn
  | 0, _, _ => .out
  | n + 1, .call f a, s => if 32 ≤ s.calls then .er 2 4 s else ex n (.blk (fAt m f) (regs0 (fAt m f) a) 0) { s with calls := s.calls + 1 }
  | n + 1, .blk c r p, s => (ex n (.code r (c.bl.getD p.toNat default).code) s).bind fun r s => (stepM s).bind fun _ s =>
      if (c.bl.getD p.toNat default).e.k = 3 then .ok [retd r (c.bl.getD p.toNat default).e.a] { s with calls := s.calls - 1 } else ex n (.blk c r (nxt r (c.bl.getD p.toNat default).e)) s
  | n + 1, .code r [], s => .ok r s
  | n + 1, .code r (i :: l), s => (stepM s).bind fun _ s => (if i.op = 9 then ex n (.call i.n (i.args.map (at0 r))) s else doM m r i s).bind fun v s => ex n (.code (put0 r (wrs i) (v.getD 0 0)) l) s

/-! it always ends -/
def need (md : Mo) (st : Int) : Nat := match md with
  | .call _ _ => 3 * st.toNat + 3
  | .blk _ _ _ => 3 * st.toNat + 2
  | .code _ _ => 3 * st.toNat + 1
end
/-- Steps are taken, none comes back; what is told stays. -/
def Adv (c : Int) (s s' : Mst) : Prop := s'.st ≤ s.st ∧ s.out <+: s'.out ∧ (s'.out.length : Int) + s'.st ≤ s.out.length + s.st + c ∧ (0 ≤ s.st → 0 ≤ s'.st)
def Good (c : Int) (s : Mst) : Rn → Prop
  | .ok _ s' => Adv c s s'
  | .er a b s' => Adv c s s' ∧ ((a = 3 ∧ b = 0) ∨ (a = 2 ∧ 1 ≤ b ∧ b ≤ 4))
  | .out => True
theorem bn_trap (t : Int) (l : List UInt8) (a b : Int) : (bn t l a b).2 = 0 ∨ (bn t l a b).2 = 1 ∨ (bn t l a b).2 = 2 := by
  let P : Int × Int → Prop := fun x => x.2 = 0 ∨ x.2 = 1 ∨ x.2 = 2
  have J : ∀ {c : Prop} [Decidable c] {a b : Int × Int}, P a → P b → P (if c then a else b) := by
    intro c _ a b h1 h2
    split
    · exact h1
    · exact h2
  have z : ∀ x : Int, P (x, 0) := fun x => .inl rfl
  have o : P (0, 1) := .inr (.inl rfl)
  have t2 : P (0, 2) := .inr (.inr rfl)
  show P (bn t l a b)
  unfold bn bn32 bn64
  repeat' first | exact z _ | exact o | exact t2 | refine J ?_ ?_

theorem Adv.refl {c : Int} (h : 0 ≤ c) (s : Mst) : Adv c s s := ⟨Int.le_refl _, List.prefix_refl _, by omega, id⟩
theorem Adv.trans {c d : Int} {s t u : Mst} (h : Adv c s t) (k : Adv d t u) : Adv (c + d) s u := ⟨Int.le_trans k.1 h.1, h.2.1.trans k.2.1, by have := h.2.2.1; have := k.2.2.1; omega, fun x => k.2.2.2 (h.2.2.2 x)⟩
theorem Adv.up {c d : Int} {s t : Mst} (h : Adv c s t) (k : c ≤ d) : Adv d s t := ⟨h.1, h.2.1, by have := h.2.2.1; omega, h.2.2.2⟩
theorem Good.up {c d : Int} {s : Mst} {r : Rn} (h : Good c s r) (k : c ≤ d) : Good d s r := by
  cases r with
  | ok v t => exact Adv.up h k
  | er a b t => exact ⟨Adv.up h.1 k, h.2⟩
  | out => trivial
theorem Good.bind {c d : Int} (hd : 0 ≤ d) {s : Mst} {r : Rn} {f : List Int → Mst → Rn} (h : Good c s r) (k : ∀ v t, r = .ok v t → Good d t (f v t)) : Good (c + d) s (r.bind f) := by
  cases r with
  | ok v t =>
    have h2 := k v t rfl
    have h1 : Adv c s t := h
    simp only [Rn.bind]
    cases hf : f v t with
    | ok v' u => rw [hf] at h2; exact h1.trans h2
    | er a b u => rw [hf] at h2; exact ⟨h1.trans h2.1, h2.2⟩
    | out => trivial
  | er a b t => exact ⟨h.1.up (by omega), h.2⟩
  | out => trivial
theorem Good.step {d : Int} (hd : 0 ≤ d) {s : Mst} {f : List Int → Mst → Rn} (k : 0 < s.st → Good d { s with st := s.st - 1 } (f [] { s with st := s.st - 1 })) (hd1 : d ≤ 1) : Good 0 s ((stepM s).bind f) := by
  unfold stepM
  split
  · exact ⟨Adv.refl (by omega) s, .inl ⟨rfl, rfl⟩⟩
  · rename_i h
    have hk := k (by omega)
    simp only [Rn.bind]
    have h1 : Adv (-1) s { s with st := s.st - 1 } := ⟨by simp only; omega, List.prefix_refl _, by simp only; omega, fun _ => by simp only; omega⟩
    cases hf : f [] { s with st := s.st - 1 } with
    | ok v u => rw [hf] at hk; exact (h1.trans hk).up (by omega)
    | er a b u => rw [hf] at hk; exact ⟨(h1.trans hk.1).up (by omega), hk.2⟩
    | out => trivial
theorem doM_good (m : Mdl) (r : List Int) (i : Ins) (s : Mst) : Good 1 s (doM m r i s) := by
  have h0 : Adv 1 s s := Adv.refl (by omega) s
  unfold doM
  split; · exact h0
  split; · exact h0
  split
  · split
    · rename_i h
      refine ⟨h0, .inr ⟨rfl, ?_⟩⟩
      have := bn_trap i.ty i.s (at0 r i.a) (at0 r i.b)
      omega
    · exact h0
  split; · exact h0
  split
  · split
    · exact ⟨h0, .inr ⟨rfl, by omega⟩⟩
    · exact h0
  split
  · split
    · exact ⟨h0, .inr ⟨rfl, by omega⟩⟩
    · exact h0
  split; · exact h0
  split; · exact h0
  split; · exact h0
  split
  · exact ⟨Int.le_refl _, List.prefix_append _ _, by simp; omega, id⟩
  · exact h0
theorem ex_good (m : Mdl) : ∀ n md s, Good 0 s (ex m n md s) := by
  intro n
  induction n with
  | zero => intro md s; trivial
  | succ n ih =>
    intro md s
    cases md with
    | call f a =>
      unfold ex
      split
      · exact ⟨Adv.refl (by omega) s, .inr ⟨rfl, by omega⟩⟩
      · have h := ih (.blk (fAt m f) (regs0 (fAt m f) a) 0) { s with calls := s.calls + 1 }
        cases hr : ex m n (.blk (fAt m f) (regs0 (fAt m f) a) 0) { s with calls := s.calls + 1 } with
        | ok v t => rw [hr] at h; exact h
        | er a b t => rw [hr] at h; exact h
        | out => trivial
    | blk c r p =>
      unfold ex
      refine Good.bind (c := 0) (d := 0) (by omega) (ih _ _) fun v t _ => Good.step (d := 0) (by omega) (fun h => ?_) (by omega)
      simp only
      split
      · exact Adv.refl (by omega) _
      · exact ih _ _
    | code r l =>
      cases l with
      | nil => exact Adv.refl (by omega) s
      | cons i l =>
        unfold ex
        refine Good.step (d := 1) (by omega) (fun h => ?_) (by omega)
        refine Good.bind (c := 1) (d := 0) (by omega) ?_ fun v t _ => ih _ _
        split
        · exact (ih _ _).up (by omega)
        · exact doM_good m _ _ _

theorem bind_out {r : Rn} {f : List Int → Mst → Rn} (h : r ≠ .out) (k : ∀ v t, r = .ok v t → f v t ≠ .out) : r.bind f ≠ .out := by
  cases r with
  | ok v t => exact k v t rfl
  | er a b t => exact fun h => by cases h
  | out => exact absurd rfl h
theorem doM_out (m : Mdl) (r : List Int) (i : Ins) (s : Mst) : doM m r i s ≠ .out := by
  unfold doM
  repeat' split
  all_goals exact fun h => by cases h
theorem ex_ends (m : Mdl) : ∀ n md s, need md s.st ≤ n → ex m n md s ≠ .out := by
  intro n
  induction n with
  | zero => intro md s h; cases md <;> simp [need] at h
  | succ n ih =>
    intro md s h
    cases md with
    | call f a =>
      unfold ex
      split
      · exact fun h => by cases h
      · exact ih _ _ (by simp only [need] at h ⊢; omega)
    | blk c r p =>
      unfold ex
      refine bind_out (ih _ _ (by simp only [need] at h ⊢; omega)) fun v t hr => ?_
      have hg := ex_good m n (.code r (c.bl.getD p.toNat default).code) s
      rw [hr] at hg
      have hst : t.st ≤ s.st := hg.1
      refine bind_out (by unfold stepM; split <;> exact fun h => by cases h) fun v' t' hs => ?_
      unfold stepM at hs
      split at hs
      · cases hs
      · rename_i hlt
        simp only [Rn.ok.injEq] at hs
        obtain ⟨-, rfl⟩ := hs
        split
        · exact fun h => by cases h
        · exact ih _ _ (by simp only [need] at h ⊢; omega)
    | code r l =>
      cases l with
      | nil => exact fun h => by cases h
      | cons i l =>
        unfold ex
        refine bind_out (by unfold stepM; split <;> exact fun h => by cases h) fun v' t' hs => ?_
        unfold stepM at hs
        split at hs
        · cases hs
        · rename_i hlt
          simp only [Rn.ok.injEq] at hs
          obtain ⟨-, rfl⟩ := hs
          refine bind_out ?_ fun v u hr => ?_
          · split
            · exact ih _ _ (by simp only [need] at h ⊢; omega)
            · exact doM_out m _ _ _
          · have hg : Good 1 { s with st := s.st - 1 } (.ok v u) := by
              rw [← hr]
              split
              · exact (ex_good m _ _ _).up (by omega)
              · exact doM_good m _ _ _
            have hst : u.st ≤ s.st - 1 := hg.1
            exact ih _ _ (by simp only [need] at h ⊢; omega)

/-! more fuel makes no odds -/
theorem ex_fuel (m : Mdl) : ∀ n md s, ex m n md s ≠ .out → ex m (n + 1) md s = ex m n md s := by
  intro n
  induction n with
  | zero => intro md s h; exact absurd rfl h
  | succ n ih =>
    intro md s h
    cases md with
    | call f a =>
      unfold ex at h ⊢
      split at h
      · rename_i h1; rw [if_pos h1, if_pos h1]
      · rename_i h1; rw [if_neg h1, if_neg h1]; exact ih _ _ h
    | blk c r p =>
      rw [ex, ex]
      rw [ex] at h
      have h1 : ex m n (.code r (c.bl.getD p.toNat default).code) s ≠ .out := fun e => by rw [e] at h; exact h rfl
      rw [ih _ _ h1]
      cases hr : ex m n (.code r (c.bl.getD p.toNat default).code) s with
      | out => rfl
      | er a b t => rfl
      | ok v t =>
        rw [hr] at h
        simp only [Rn.bind] at h ⊢
        cases hs : stepM t with
        | out => rfl
        | er a b u => rfl
        | ok v' u =>
          rw [hs] at h
          simp only [Rn.bind] at h ⊢
          split
          · rfl
          · rename_i hk
            rw [if_neg hk] at h
            exact ih _ _ h
    | code r l =>
      cases l with
      | nil => rfl
      | cons i l =>
        rw [ex, ex]
        rw [ex] at h
        cases hs : stepM s with
        | out => rfl
        | er a b u => rfl
        | ok v' u =>
          rw [hs] at h
          simp only [Rn.bind] at h ⊢
          by_cases h9 : i.op = 9
          · simp only [h9, if_true] at h ⊢
            have h1 : ex m n (.call i.n (i.args.map (at0 r))) u ≠ .out := fun e => by rw [e] at h; exact h rfl
            rw [ih _ _ h1]
            cases hr : ex m n (.call i.n (i.args.map (at0 r))) u with
            | out => rfl
            | er a b t => rfl
            | ok v t => rw [hr] at h; exact ih _ _ h
          · simp only [h9, if_false] at h ⊢
            cases hr : doM m r i u with
            | out => rfl
            | er a b t => rfl
            | ok v t => rw [hr] at h; exact ih _ _ h
theorem ex_fuels (m : Mdl) (md : Mo) (s : Mst) {n : Nat} (h : ex m n md s ≠ .out) : ∀ k, ex m (n + k) md s = ex m n md s := by
  intro k
  induction k with
  | zero => rfl
  | succ k ih => rw [← Nat.add_assoc, ex_fuel m (n + k) md s (by rw [ih]; exact h), ih]
theorem ex_fuel_le (m : Mdl) (md : Mo) (s : Mst) {n n' : Nat} (h : ex m n md s ≠ .out) (hn : n ≤ n') : ex m n' md s = ex m n md s := by
  obtain ⟨k, rfl⟩ := Nat.exists_eq_add_of_le hn
  exact ex_fuels m md s h k

/-! with more steps -/
def Mst.up (s : Mst) (k : Int) : Mst := { s with st := s.st + k }
def Pre (o : List Int) : Rn → Prop
  | .ok _ s => o <+: s.out
  | .er _ _ s => o <+: s.out
  | .out => True
def More (k : Int) : Rn → Rn → Prop
  | .ok v s, r' => r' = .ok v (s.up k)
  | .er a b s, r' => (a = 2 ∧ r' = .er a b (s.up k)) ∨ (a = 3 ∧ Pre s.out r')
  | .out, _ => True
theorem Good.pre {c : Int} {s : Mst} {r : Rn} (h : Good c s r) {o : List Int} (ho : o <+: s.out) : Pre o r := by
  cases r with
  | ok v t => exact ho.trans (show Adv c s t from h).2.1
  | er a b t => exact ho.trans h.1.2.1
  | out => trivial
theorem More.bind {k : Int} {r r' : Rn} {f f' : List Int → Mst → Rn} (h : More k r r') (h1 : ∀ v s, r = .ok v s → More k (f v s) (f' v (s.up k))) (h2 : ∀ v s, ∃ c, Good c s (f' v s)) : More k (r.bind f) (r'.bind f') := by
  cases r with
  | ok v s =>
    have e : r' = .ok v (s.up k) := h
    subst e
    exact h1 v s rfl
  | er a b s =>
    rcases h with ⟨e, rfl⟩ | ⟨e, hp⟩
    · exact .inl ⟨e, rfl⟩
    · refine .inr ⟨e, ?_⟩
      cases r' with
      | ok v t => obtain ⟨c, hg⟩ := h2 v t; exact hg.pre hp
      | er a' b' t => exact hp
      | out => trivial
  | out => trivial
theorem step_more {k : Int} (hk : 0 ≤ k) (s : Mst) : More k (stepM s) (stepM (s.up k)) := by
  unfold stepM
  split
  · refine .inr ⟨rfl, ?_⟩
    split
    · exact List.prefix_refl _
    · exact List.prefix_refl _
  · rename_i h
    rw [if_neg (by simp only [Mst.up]; omega)]
    show Rn.ok [] _ = Rn.ok [] _
    simp only [Mst.up, Rn.ok.injEq, true_and, Mst.mk.injEq, and_true]
    omega
theorem step_good (s : Mst) : Good 0 s (stepM s) := by
  unfold stepM
  split
  · exact ⟨Adv.refl (by omega) s, .inl ⟨rfl, rfl⟩⟩
  · exact ⟨by simp only; omega, List.prefix_refl _, by simp only; omega, fun _ => by simp only; omega⟩
theorem doM_more {k : Int} (m : Mdl) (r : List Int) (i : Ins) (s : Mst) : More k (doM m r i s) (doM m r i (s.up k)) := by
  have J : ∀ {c : Prop} [Decidable c] {a b a' b' : Rn}, (c → More k a a') → (¬ c → More k b b') → More k (if c then a else b) (if c then a' else b') := by
    intro c _ a b a' b' h1 h2
    by_cases hc : c
    · rw [if_pos hc, if_pos hc]; exact h1 hc
    · rw [if_neg hc, if_neg hc]; exact h2 hc
  unfold doM
  refine J (fun _ => rfl) fun _ => J (fun _ => rfl) fun _ => J (fun _ => J (fun _ => .inl ⟨rfl, rfl⟩) fun _ => rfl) fun _ => J (fun _ => rfl) fun _ => J (fun _ => J (fun _ => .inl ⟨rfl, rfl⟩) fun _ => rfl) fun _ =>
    J (fun _ => J (fun _ => .inl ⟨rfl, rfl⟩) fun _ => rfl) fun _ => J (fun _ => rfl) fun _ => J (fun _ => rfl) fun _ => J (fun _ => rfl) fun _ => J (fun _ => rfl) fun _ => rfl
theorem ex_more (m : Mdl) {k : Int} (hk : 0 ≤ k) : ∀ n md s, More k (ex m n md s) (ex m n md (s.up k)) := by
  intro n
  induction n with
  | zero => intro md s; trivial
  | succ n ih =>
    intro md s
    cases md with
    | call f a =>
      rw [ex, ex]
      by_cases h : 32 ≤ s.calls
      · rw [if_pos h, if_pos (show 32 ≤ (s.up k).calls from h)]
        exact .inl ⟨rfl, rfl⟩
      · rw [if_neg h, if_neg (show ¬ 32 ≤ (s.up k).calls from h)]
        exact ih _ _
    | blk c r p =>
      rw [ex, ex]
      refine More.bind (ih _ _) (fun v t _ => ?_) (fun v t => ⟨0, ?_⟩)
      · refine More.bind (step_more hk t) (fun v' u _ => ?_) (fun v' u => ⟨0, ?_⟩)
        · split
          · rfl
          · exact ih _ _
        · split
          · exact Adv.refl (by omega) _
          · exact ex_good m _ _ _
      · refine Good.step (d := 0) (by omega) (fun h => ?_) (by omega)
        simp only
        split
        · exact Adv.refl (by omega) _
        · exact ex_good m _ _ _
    | code r l =>
      cases l with
      | nil => exact rfl
      | cons i l =>
        rw [ex, ex]
        refine More.bind (step_more hk s) (fun v t _ => ?_) (fun v t => ⟨1, ?_⟩)
        · refine More.bind ?_ (fun v' u _ => ih _ _) (fun v' u => ⟨0, ex_good m _ _ _⟩)
          split
          · exact ih _ _
          · exact doM_more m _ _ _
        · refine Good.bind (c := 1) (d := 0) (by omega) ?_ fun v u _ => ex_good m _ _ _
          split
          · exact (ex_good m _ _ _).up (by omega)
          · exact doM_good m _ _ _

/-! with other inputs -/
/-- The same but for inputs, which agree as far as so many. -/
def Sim (c : Int) (s t : Mst) : Prop := t.out = s.out ∧ t.st = s.st ∧ t.sc = s.sc ∧ t.el = s.el ∧ t.calls = s.calls ∧ ∀ j : Nat, (j : Int) < s.st + c → t.inp.getD j 0 = s.inp.getD j 0
def SimR : Rn → Rn → Prop
  | .ok v s, r' => ∃ t, r' = .ok v t ∧ Sim 0 s t
  | .er a b s, r' => ∃ t, r' = .er a b t ∧ t.out = s.out
  | .out, r' => r' = .out
theorem SimR.bind {r r' : Rn} {f f' : List Int → Mst → Rn} (h : SimR r r') (h1 : ∀ v s t, Sim 0 s t → SimR (f v s) (f' v t)) : SimR (r.bind f) (r'.bind f') := by
  cases r with
  | ok v s => obtain ⟨t, rfl, ht⟩ := h; exact h1 v s t ht
  | er a b s => obtain ⟨t, rfl, ht⟩ := h; exact ⟨t, rfl, ht⟩
  | out => rw [show r' = .out from h]; exact rfl
theorem doM_sim (m : Mdl) (r : List Int) (i : Ins) (s t : Mst) (h : Sim 1 s t) (h0 : 0 ≤ s.st) : SimR (doM m r i s) (doM m r i t) := by
  obtain ⟨h1, h2, h3, h4, h5, h6⟩ := h
  have hs : Sim 0 s t := ⟨h1, h2, h3, h4, h5, fun j hj => h6 j (by omega)⟩
  have J : ∀ {c : Prop} [Decidable c] {a b a' b' : Rn}, SimR a a' → SimR b b' → SimR (if c then a else b) (if c then a' else b') := by
    intro c _ a b a' b' h1 h2
    by_cases hc : c
    · rw [if_pos hc, if_pos hc]; exact h1
    · rw [if_neg hc, if_neg hc]; exact h2
  unfold doM
  refine J ⟨t, rfl, hs⟩ (J ⟨t, rfl, hs⟩ (J (J ⟨t, rfl, h1⟩ ⟨t, rfl, hs⟩) (J ⟨t, rfl, hs⟩ (J (J ⟨t, rfl, h1⟩ ⟨t, by rw [h4], hs⟩) (J (J ⟨t, rfl, h1⟩ ⟨_, rfl, h1, h2, h3, by simp only [h4], h5, fun j hj => h6 j (by simp only at hj; omega)⟩)
    (J ⟨t, by rw [h3], hs⟩ (J ⟨_, rfl, h1, h2, by simp only [h3], h4, h5, fun j hj => h6 j (by simp only at hj; omega)⟩ (J ⟨{ t with inp := t.inp.tail }, by rw [h6 0 (by omega)], h1, h2, h3, h4, h5, fun j hj => ?_⟩ (J ⟨_, rfl, by simp only [h1], h2, h3, h4, h5, fun j hj => h6 j (by simp only at hj; omega)⟩ ⟨t, rfl, hs⟩)))))))))
  have := h6 (j + 1) (by simp only at hj; omega)
  simpa [List.getD_eq_getElem?_getD] using this
theorem step_sim {s t : Mst} (h : Sim 0 s t) {f f' : List Int → Mst → Rn} (k : 0 < s.st → Sim 1 { s with st := s.st - 1 } { t with st := t.st - 1 } → SimR (f [] { s with st := s.st - 1 }) (f' [] { t with st := t.st - 1 })) : SimR ((stepM s).bind f) ((stepM t).bind f') := by
  obtain ⟨h1, h2, h3, h4, h5, h6⟩ := h
  unfold stepM
  split
  · rw [if_pos (by omega)]; exact ⟨t, rfl, h1⟩
  · rw [if_neg (by omega)]
    exact k (by omega) ⟨h1, by simp only; omega, h3, h4, h5, fun j hj => h6 j (by simp at hj; omega)⟩
theorem Sim.one {s t : Mst} (h : Sim 1 s t) : Sim 0 s t := ⟨h.1, h.2.1, h.2.2.1, h.2.2.2.1, h.2.2.2.2.1, fun j hj => h.2.2.2.2.2 j (by omega)⟩
theorem ex_sim (m : Mdl) : ∀ n md s t, Sim 0 s t → SimR (ex m n md s) (ex m n md t) := by
  intro n
  induction n with
  | zero => intro md s t _; exact rfl
  | succ n ih =>
    intro md s t h
    cases md with
    | call f a =>
      rw [ex, ex]
      obtain ⟨h1, h2, h3, h4, h5, h6⟩ := h
      by_cases h9 : 32 ≤ s.calls
      · rw [if_pos h9, if_pos (by omega)]; exact ⟨t, rfl, h1⟩
      · rw [if_neg h9, if_neg (by omega)]
        exact ih _ _ _ ⟨h1, h2, h3, h4, by simp only [h5], h6⟩
    | blk c r p =>
      rw [ex, ex]
      refine SimR.bind (ih _ _ _ h) fun v s' t' h' => step_sim h' fun _ h1 => ?_
      simp only
      split
      · exact ⟨_, rfl, h1.1, h1.2.1, h1.2.2.1, h1.2.2.2.1, by simp only [h'.2.2.2.2.1], fun j hj => h1.2.2.2.2.2 j (by simp at hj ⊢; omega)⟩
      · exact ih _ _ _ h1.one
    | code r l =>
      cases l with
      | nil => exact ⟨t, rfl, h⟩
      | cons i l =>
        rw [ex, ex]
        refine step_sim h fun h0 h1 => ?_
        refine SimR.bind ?_ fun v s' t' h' => ih _ _ _ h'
        split
        · exact ih _ _ _ h1.one
        · exact doM_sim m _ _ _ _ h1 (by simp only; omega)
end Go.Proofs.Ytgcjfbgfoiekmaa
