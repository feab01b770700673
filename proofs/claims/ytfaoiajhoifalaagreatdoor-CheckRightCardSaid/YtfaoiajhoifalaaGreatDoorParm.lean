/-
  PLAIN MATHEMATICS of layer parse: the grammar as a reader of tokens, its trees, and their nodes. No Go in sight.
-/
import Derived.Test.YtfaoiajhoifalaaGreatDoorLexm
namespace Go.Proofs.YtfaoiajhoifalaaGreatDoor
set_option linter.unusedVariables false
set_option linter.unusedSimpArgs false
set_option linter.unusedSectionVars false

/-- What a node bears beside its kids. -/
structure Hd where
  op : Int
  p : Int
  n : Int
  s : List UInt8
  to : Int
  ty : Int
  deriving DecidableEq

/-- Trees, one behind the other. -/
inductive Fo where
  | nil
  | cons (h : Hd) (kids rest : Fo)
  deriving DecidableEq

/-- A node: its kids are places. -/
structure Nd where
  h : Hd
  kids : List Nat
  deriving DecidableEq

def Fo.size : Fo → Nat
  | .nil => 0
  | .cons _ k r => k.size + 1 + r.size
def Fo.app : Fo → Fo → Fo
  | .nil, y => y
  | .cons h k r, y => .cons h k (r.app y)
/-- The places of the trees' own nodes, the first node of all standing at c. -/
def Fo.roots (c : Nat) : Fo → List Nat
  | .nil => []
  | .cons _ k r => (c + k.size) :: r.roots (c + k.size + 1)
/-- The nodes, in the order in which they are finished. -/
def Fo.flat (c : Nat) : Fo → List Nd
  | .nil => []
  | .cons h k r => k.flat c ++ ⟨h, k.roots c⟩ :: r.flat (c + k.size + 1)
/-- How many trees. -/
def Fo.len : Fo → Nat
  | .nil => 0
  | .cons _ _ r => r.len + 1
def Fo.one (h : Hd) (k : Fo) : Fo := .cons h k .nil

theorem Fo.size_app (x y : Fo) : (x.app y).size = x.size + y.size := by
  induction x with
  | nil => simp [Fo.app, Fo.size]
  | cons h k r _ ih => simp only [Fo.app, Fo.size, ih]; omega
theorem Fo.flat_app (x y : Fo) : ∀ c, (x.app y).flat c = x.flat c ++ y.flat (c + x.size) := by
  induction x with
  | nil => intro c; simp [Fo.app, Fo.flat, Fo.size]
  | cons h k r _ ih => intro c; simp only [Fo.app, Fo.flat, Fo.size, ih, List.append_assoc, List.cons_append]; congr 3; congr 1; omega
theorem Fo.roots_app (x y : Fo) : ∀ c, (x.app y).roots c = x.roots c ++ y.roots (c + x.size) := by
  induction x with
  | nil => intro c; simp [Fo.app, Fo.roots, Fo.size]
  | cons h k r _ ih => intro c; simp only [Fo.app, Fo.roots, Fo.size, ih, List.cons_append]; congr 3; omega
theorem Fo.len_app (x y : Fo) : (x.app y).len = x.len + y.len := by
  induction x with
  | nil => simp [Fo.app, Fo.len]
  | cons h k r _ ih => simp only [Fo.app, Fo.len, ih]; omega
theorem Fo.flat_length (x : Fo) : ∀ c, (x.flat c).length = x.size := by
  induction x with
  | nil => intro c; rfl
  | cons h k r ih1 ih2 => intro c; simp only [Fo.flat, Fo.size, List.length_append, List.length_cons, ih1, ih2]; omega
theorem Fo.roots_length (x : Fo) : ∀ c, (x.roots c).length = x.len := by
  induction x with
  | nil => intro c; rfl
  | cons h k r ih1 ih2 => intro c; simp only [Fo.roots, Fo.len, List.length_cons, ih2]
theorem Fo.app_nil (x : Fo) : x.app .nil = x := by
  induction x with
  | nil => rfl
  | cons h k r _ ih => simp only [Fo.app, ih]
theorem Fo.app_assoc (x y z : Fo) : (x.app y).app z = x.app (y.app z) := by
  induction x with
  | nil => rfl
  | cons h k r _ ih => simp only [Fo.app, ih]

/-! words and signs -/
def wChar : List UInt8 := [99, 104, 97, 114]
def wInt : List UInt8 := [105, 110, 116]
def wLong : List UInt8 := [108, 111, 110, 103]
def wVoid : List UInt8 := [118, 111, 105, 100]
def wIf : List UInt8 := [105, 102]
def wElse : List UInt8 := [101, 108, 115, 101]
def wWhile : List UInt8 := [119, 104, 105, 108, 101]
def wGoto : List UInt8 := [103, 111, 116, 111]
def wReturn : List UInt8 := [114, 101, 116, 117, 114, 110]
def wIn : List UInt8 := [105, 110]
def wOut : List UInt8 := [111, 117, 116]
def wordsL : List (List UInt8) := [wChar, wInt, wLong, wVoid, wIf, wElse, wWhile, wGoto, wReturn, wIn, wOut]
def isW (s : List UInt8) : Bool := decide (s ∈ wordsL)
/-- The text by which the grammar tells a token; [] where it has none. -/
def q (t : Tok) : List UInt8 := if t.k = 3 ∨ (t.k = 1 ∧ isW t.s = true) then t.s else []
def isNm (t : Tok) : Bool := decide (t.k = 1) && !isW t.s
def typeNo (s : List UInt8) : Option Int :=
  if s = wVoid then some 0 else if s = wInt then some 1 else if s = wLong then some 2 else if s = wChar then some 3 else none
def lvl (s : List UInt8) : Nat :=
  if s = [124, 124] then 1 else if s = [38, 38] then 2 else if s = [124] then 3 else if s = [94] then 4 else if s = [38] then 5
  else if s = [61, 61] ∨ s = [33, 61] then 6 else if s = [60] ∨ s = [60, 61] ∨ s = [62] ∨ s = [62, 61] then 7
  else if s = [60, 60] ∨ s = [62, 62] then 8 else if s = [43] ∨ s = [45] then 9 else if s = [42] ∨ s = [47] ∨ s = [37] then 10 else 0

/-! the reader -/
/-- What is still to be read, and how many nodes are finished. -/
structure St where
  l : List Tok
  c : Nat
inductive Rs (α : Type) where
  | ok (a : α) (s : St)
  | er (no p : Int)
  | out
def Rs.bind {α β : Type} (r : Rs α) (f : α → St → Rs β) : Rs β :=
  match r with
  | .ok a s => f a s
  | .er no p => .er no p
  | .out => .out
theorem Rs.bind_ok {α β : Type} (a : α) (s : St) (f : α → St → Rs β) : (Rs.ok a s).bind f = f a s := rfl
theorem Rs.bind_er {α β : Type} (n p : Int) (f : α → St → Rs β) : (Rs.er n p : Rs α).bind f = .er n p := rfl
theorem Rs.bind_out {α β : Type} (f : α → St → Rs β) : (Rs.out : Rs α).bind f = .out := rfl
def St.nx (s : St) : St := ⟨s.l.tail, s.c⟩

section
variable (e : Tok)
def pk (s : St) : Tok := s.l.headD e
def wr {α : Type} (no : Int) (s : St) : Rs α := .er no (pk e s).p
def isT (x : List UInt8) (s : St) : Bool := decide (q (pk e s) = x)
def must (x : List UInt8) (s : St) : Rs Unit := if isT e x s then .ok () s.nx else wr e 2 s
def nameM (s : St) : Rs Tok := if isNm (pk e s) then .ok (pk e s) s.nx else wr e 2 s
def typedM (ks : List Int) (s : St) : Rs Int :=
  match typeNo (q (pk e s)) with
  | some k => if k ∈ ks then .ok k s.nx else wr e 2 s
  | none => wr e 2 s
def addM (h : Hd) (kids : Fo) (s : St) : Rs Fo := if 4000 ≤ s.c then .er 9 h.p else .ok (.one h kids) ⟨s.l, s.c + 1⟩
def enterM (d : Nat) (s : St) : Rs Unit := if 40 < d then wr e 3 s else .ok () s

/-- What is to be read: an expression, what stands behind an operand, an operand, arguments, a statement, a block's statements and its end. -/
inductive Md where
  | bin (d least : Nat)
  | loop (d least : Nat) (left : Fo)
  | opd (d : Nat)
  | args (d : Nat)
  | stm (d : Nat)
  | blk (d : Nat)

variable (rec : Md → St → Rs Fo)

def binB (d least : Nat) (s : St) : Rs Fo := (rec (.opd d) s).bind fun a s => rec (.loop d least a) s
def loopB (d least : Nat) (left : Fo) (s : St) : Rs Fo :=
  if lvl (q (pk e s)) < least then .ok left s
  else (rec (.bin d (lvl (q (pk e s)) + 1)) s.nx).bind fun b s' => (addM ⟨5, (pk e s).p, 0, (pk e s).s, 0, 0⟩ (left.app b) s').bind fun x s' => rec (.loop d least x) s'

def callB (f : Tok) (d : Nat) (s : St) : Rs Fo :=
  (must e [40] s).bind fun _ s =>
  (if isT e [41] s then Rs.ok .nil s else rec (.args d) s).bind fun a s =>
  (must e [41] s).bind fun _ s => addM ⟨7, f.p, 0, f.s, 0, 0⟩ a s
def elemB (f : Tok) (d : Nat) (s : St) : Rs Fo :=
  (must e [91] s).bind fun _ s => (rec (.bin d 1) s).bind fun a s => (must e [93] s).bind fun _ s => addM ⟨3, f.p, 0, f.s, 0, 0⟩ a s
def varB (d : Nat) (s : St) : Rs Fo :=
  (nameM e s).bind fun t s =>
  if q (pk e s) = [40] then callB e rec t (d + 1) s else if q (pk e s) = [91] then elemB e rec t (d + 1) s else addM ⟨2, t.p, 0, t.s, 0, 0⟩ .nil s
def encE (d : Nat) (s : St) : Rs Fo := (rec (.bin (d + 1) 1) s).bind fun a s => (must e [41] s).bind fun _ s => .ok a s
def encB (d : Nat) (s : St) : Rs Fo :=
  match typeNo (q (pk e s.nx)) with
  | some k => if k = 0 then encE e rec d s.nx else (must e [41] s.nx.nx).bind fun _ s' => (rec (.opd (d + 1)) s').bind fun a s' => addM ⟨6, (pk e s).p, 0, [], k, 0⟩ a s'
  | none => encE e rec d s.nx
def numB (s : St) : Rs Fo := addM ⟨1, (pk e s).p, (pk e s).n, [], 0, if (pk e s).s = [76] then 2 else 1⟩ .nil s.nx
def unB (d : Nat) (s : St) : Rs Fo := (rec (.opd (d + 1)) s.nx).bind fun a s' => addM ⟨4, (pk e s).p, 0, (pk e s).s, 0, 0⟩ a s'
def inB (s : St) : Rs Fo :=
  (must e wIn s).bind fun _ s' => (must e [40] s').bind fun _ s' => (must e [41] s').bind fun _ s' => addM ⟨8, (pk e s).p, 0, [], 0, 0⟩ .nil s'
def opdB (d : Nat) (s : St) : Rs Fo :=
  (enterM e d s).bind fun _ s =>
  if (pk e s).k = 2 then numB e s
  else if isNm (pk e s) then varB e rec d s
  else if q (pk e s) = [45] ∨ q (pk e s) = [126] ∨ q (pk e s) = [33] then unB e rec d s
  else if q (pk e s) = [40] then encB e rec d s
  else if q (pk e s) = wIn then inB e s
  else wr e 2 s
def argsB (d : Nat) (s : St) : Rs Fo :=
  (rec (.bin d 1) s).bind fun a s => if isT e [44] s then (rec (.args d) s.nx).bind fun b s => .ok (a.app b) s else .ok a s

def blkB (d : Nat) (s : St) : Rs Fo :=
  if isT e [125] s then .ok .nil s.nx else (rec (.stm (d + 1)) s).bind fun a s => (rec (.blk d) s).bind fun b s => .ok (a.app b) s
def blockB (d : Nat) (s : St) : Rs Fo :=
  (must e [123] s).bind fun _ s' => (rec (.blk d) s').bind fun a s' => addM ⟨11, (pk e s).p, 0, [], 0, 0⟩ a s'
def localB (d : Nat) (s : St) : Rs Fo :=
  (typedM e [1, 2] s).bind fun k s' => (nameM e s').bind fun t s' => (must e [61] s').bind fun _ s' =>
  (rec (.bin (d + 1) 1) s').bind fun a s' => (must e [59] s').bind fun _ s' => addM ⟨12, (pk e s).p, 0, t.s, k, 0⟩ a s'
def guardB (d : Nat) (s : St) : Rs Fo :=
  (must e [40] s).bind fun _ s => (rec (.bin (d + 1) 1) s).bind fun a s => (must e [41] s).bind fun _ s =>
  (rec (.stm (d + 1)) s).bind fun b s => .ok (a.app b) s
def ifB (d : Nat) (s : St) : Rs Fo :=
  (guardB e rec d s.nx).bind fun a s' =>
  if isT e wElse s' then (rec (.stm (d + 1)) s'.nx).bind fun b s' => addM ⟨15, (pk e s).p, 0, [], 0, 0⟩ (a.app b) s'
  else addM ⟨15, (pk e s).p, 0, [], 0, 0⟩ a s'
def whileB (d : Nat) (s : St) : Rs Fo := (guardB e rec d s.nx).bind fun a s' => addM ⟨16, (pk e s).p, 0, [], 0, 0⟩ a s'
def gotoB (d : Nat) (s : St) : Rs Fo := (nameM e s.nx).bind fun t s' => (must e [59] s').bind fun _ s' => addM ⟨17, (pk e s).p, 0, t.s, 0, 0⟩ .nil s'
def retB (d : Nat) (s : St) : Rs Fo :=
  (if isT e [59] s.nx then Rs.ok .nil s.nx else rec (.bin (d + 1) 1) s.nx).bind fun a s' => (must e [59] s').bind fun _ s' => addM ⟨19, (pk e s).p, 0, [], 0, 0⟩ a s'
def outB (d : Nat) (s : St) : Rs Fo :=
  (must e [40] s.nx).bind fun _ s' => (rec (.bin (d + 1) 1) s').bind fun a s' => (must e [41] s').bind fun _ s' => (must e [59] s').bind fun _ s' => addM ⟨20, (pk e s).p, 0, [], 0, 0⟩ a s'
def storeB (d : Nat) (s : St) : Rs Fo :=
  (must e [91] s).bind fun _ s => (rec (.bin (d + 1) 1) s).bind fun a s => (must e [93] s).bind fun _ s => (must e [61] s).bind fun _ s =>
  (rec (.bin (d + 1) 1) s).bind fun b s => (must e [59] s).bind fun _ s => .ok (a.app b) s
def namedB (d : Nat) (s : St) : Rs Fo :=
  (nameM e s).bind fun t s =>
  if q (pk e s) = [61] then (rec (.bin (d + 1) 1) s.nx).bind fun a s => (must e [59] s).bind fun _ s => addM ⟨13, t.p, 0, t.s, 0, 0⟩ a s
  else if q (pk e s) = [91] then (storeB e rec d s).bind fun a s => addM ⟨14, t.p, 0, t.s, 0, 0⟩ a s
  else if q (pk e s) = [40] then (callB e rec t (d + 1) s).bind fun a s => (must e [59] s).bind fun _ s => addM ⟨21, t.p, 0, [], 0, 0⟩ a s
  else if q (pk e s) = [58] then (rec (.stm (d + 1)) s.nx).bind fun a s => addM ⟨18, t.p, 0, t.s, 0, 0⟩ a s
  else wr e 2 s
def stmB (d : Nat) (s : St) : Rs Fo :=
  (enterM e d s).bind fun _ s =>
  if isNm (pk e s) then namedB e rec d s
  else if q (pk e s) = [123] then blockB e rec d s
  else if q (pk e s) = wInt then localB e rec d s
  else if q (pk e s) = wLong then localB e rec d s
  else if q (pk e s) = wIf then ifB e rec d s
  else if q (pk e s) = wWhile then whileB e rec d s
  else if q (pk e s) = wGoto then gotoB e d s
  else if q (pk e s) = wReturn then retB e rec d s
  else if q (pk e s) = wOut then outB e rec d s
  else wr e 2 s

def run : Nat → Md → St → Rs Fo
  | 0, _, _ => .out
  | k + 1, m, s =>
    match m with
    | .bin d least => binB (run k) d least s
    | .loop d least left => loopB e (run k) d least left s
    | .opd d => opdB e (run k) d s
    | .args d => argsB e (run k) d s
    | .stm d => stmB e (run k) d s
    | .blk d => blkB e (run k) d s

/-! a program -/
end
structure Gl where
  s : List UInt8
  ty : Int
  n : Int
  p : Int
  deriving DecidableEq
structure Pm where
  s : List UInt8
  ty : Int
  deriving DecidableEq
structure Fn' where
  s : List UInt8
  ty : Int
  ps : List Pm
  b : Nat
  p : Int
  deriving DecidableEq
/-- What has been read of a program: globals, functions, and all trees. -/
structure Pg where
  g : List Gl
  f : List Fn'
  t : Fo
  deriving DecidableEq
section
variable (e : Tok)
def sizeM (s : St) : Rs Int :=
  if (pk e s).k ≠ 2 then wr e 2 s else if (pk e s).n < 1 ∨ 1024 < (pk e s).n then wr e 11 s else .ok (pk e s).n s.nx
def globalM (kind : Int) (t : Tok) (s : St) : Rs Gl :=
  if kind = 3 ∨ isT e [91] s then (must e [91] s).bind fun _ s => (sizeM e s).bind fun n s => (must e [93] s).bind fun _ s => (must e [59] s).bind fun _ s => .ok ⟨t.s, kind, n, t.p⟩ s
  else (must e [59] s).bind fun _ s => .ok ⟨t.s, kind, 0, t.p⟩ s
def paramM (s : St) : Rs Pm := (typedM e [1, 2] s).bind fun k s => (nameM e s).bind fun t s => .ok ⟨t.s, k⟩ s
/-- The parameters behind those that have been read. -/
def moreM : Nat → List Pm → St → Rs (List Pm)
  | 0, _, _ => .out
  | k + 1, l, s => if isT e [44] s then (paramM e s.nx).bind fun p s => moreM k (l ++ [p]) s else .ok l s
def paramsM (k : Nat) (s : St) : Rs (List Pm) := (paramM e s).bind fun p s => moreM e k [p] s
def functionM (k : Nat) (kind : Int) (t : Tok) (s : St) : Rs (Fn' × Fo) :=
  (must e [40] s).bind fun _ s => (if isT e [41] s then Rs.ok [] s else paramsM e k s).bind fun ps s =>
  (must e [41] s).bind fun _ s => (blockB e (run e k) 1 s).bind fun b s => .ok (⟨t.s, kind, ps, s.c - 1, t.p⟩, b) s
def itemM (k : Nat) (p : Pg) (s : St) : Rs Pg :=
  (typedM e [0, 1, 2, 3] s).bind fun kind s => (nameM e s).bind fun t s =>
  if kind = 0 ∨ (kind ≠ 3 ∧ isT e [40] s) then (functionM e k kind t s).bind fun x s => .ok ⟨p.g, p.f ++ [x.1], p.t.app x.2⟩ s
  else (globalM e kind t s).bind fun g s => .ok ⟨p.g ++ [g], p.f, p.t⟩ s
def progM : Nat → Pg → St → Rs Pg
  | 0, _, _ => .out
  | k + 1, p, s => if (pk e s).k = 4 then .ok p s else (itemM e k p s).bind fun p s => progM k p s
end

/-- The relevant tokens, and the end. -/
def relT (l : List Tok) : List Tok := l.takeWhile fun t => decide (t.k ≠ 4)
def endT (l : List Tok) : Tok := (l.find? fun t => decide (t.k = 4)).getD ⟨4, (l.getLast?.map (·.p)).getD 0, 0, []⟩
def fuelT (l : List Tok) : Nat := 4 * l.length + 8
def parseL (l : List Tok) : Rs Pg := progM (endT l) (fuelT l) ⟨[], [], .nil⟩ ⟨relT l, 0⟩
end Go.Proofs.YtfaoiajhoifalaaGreatDoor
