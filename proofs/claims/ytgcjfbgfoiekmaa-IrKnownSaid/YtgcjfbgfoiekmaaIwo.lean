/-
  IrKnown: what is known by reckoning.
-/
import Derived.Test.YtgcjfbgfoiekmaaIwn
namespace Go.Proofs.Ytgcjfbgfoiekmaa
open Go Go.RowKit Go.Maps
set_option linter.unusedVariables false
set_option linter.unusedSimpArgs false

def ins (op ty dst a b n : Int) (s : List UInt8 := []) (args : List Int := []) : Ins := ⟨op, ty, dst, a, b, n, s, args⟩
abbrev iin : Ins := ⟨10, 0, 2, 0, 0, 0, [], []⟩
abbrev iat : Ins := ⟨1, 0, 3, 0, 0, 2, [], []⟩
abbrev la : List Ins := [iin, ⟨4, 3, 0, 2, 0, 0, [], []⟩]
abbrev lb : List Ins := [iin, iat, ⟨4, 1, 1, 2, 0, 0, [], []⟩, ⟨6, 0, 0, 3, 1, 1, [], []⟩, ⟨5, 0, 0, 3, 0, 1, [], []⟩]
abbrev lc : List Ins := [iat, ⟨5, 0, 0, 3, 0, 2, [], []⟩]
abbrev ld : List Ins := [⟨3, 1, 0, 0, 1, 0, [47], []⟩]
abbrev lf : List Ins := [iin, ⟨8, 0, 0, 2, 0, 0, [], []⟩, ⟨7, 0, 3, 0, 0, 0, [], []⟩, ⟨11, 0, 0, 3, 0, 0, [], []⟩, iin, ⟨11, 0, 0, 2, 0, 0, [], []⟩, iin, ⟨11, 0, 0, 2, 0, 0, [], []⟩, ⟨3, 2, 0, 3, 2, 0, [62], []⟩]
theorem ran_eq {r : Ran} {o : List Int} {s c : Int} (h : r.out = o ∧ r.status = s ∧ r.code = c) : r = ⟨o, s, c⟩ := by
  obtain ⟨a, b, d⟩ := r
  simp only at h
  rw [h.1, h.2.1, h.2.2]
theorem Ra : endsR la = ⟨[], 1, 44⟩ ∧ chk (mE la) = 0 := ⟨ran_eq (by decide +kernel), by decide +kernel⟩
theorem Rb : endsR lb = ⟨[], 1, 44⟩ ∧ chk (mE lb) = 0 := ⟨ran_eq (by decide +kernel), by decide +kernel⟩
theorem Rc : endsR lc = ⟨[], 2, 3⟩ ∧ chk (mE lc) = 0 := ⟨ran_eq (by decide +kernel), by decide +kernel⟩
theorem Rd : endsR ld = ⟨[], 2, 1⟩ ∧ chk (mE ld) = 0 := ⟨ran_eq (by decide +kernel), by decide +kernel⟩
theorem Rf : endsR lf = ⟨[300, -7, 0], 1, 1⟩ ∧ chk (mE lf) = 0 := ⟨ran_eq (by decide +kernel), by decide +kernel⟩
/-- What is wrong with one instruction. -/
def badL : List Ins := [⟨0, 0, 0, 0, 0, 0, [], []⟩, ⟨12, 0, 0, 0, 0, 0, [], []⟩, ⟨3, 1, 0, 0, 0, 0, [38, 38], []⟩, ⟨4, 0, 0, 0, 0, 0, [], []⟩, ⟨1, 0, 4, 0, 0, 0, [], []⟩, ⟨1, 0, -1, 0, 0, 0, [], []⟩, ⟨1, 0, 0, 0, 0, 2147483648, [], []⟩, ⟨7, 0, 2, 0, 0, 1, [], []⟩, ⟨5, 0, 0, 2, 0, 0, [], []⟩, ⟨9, 0, 0, 0, 0, 1, [], []⟩, ⟨9, 0, 0, 0, 0, 0, [], [0]⟩, ⟨2, 0, 0, 2, 0, 0, [], []⟩, ⟨11, 0, 0, 0, 0, 0, [], []⟩, ⟨3, 2, 2, 2, 3, 0, [60], []⟩, ⟨3, 1, 0, 0, 0, 0, [32], []⟩]
def wantL : List Int := [2, 2, 2, 2, 11, 11, 11, 11, 11, 11, 7, 6, 6, 6, 2]
theorem bad_want : ∀ i : Fin 15, chk (mE [badL.getD i default]) = wantL.getD i 0 := by decide +kernel
/-- A main that calls itself; one that goes round; globals that may not be. -/
def mSelf : Mdl := ⟨[], [mainC [1] [⟨[⟨9, 0, -1, 0, 0, 0, [], []⟩], ⟨3, 0, 0, 0⟩⟩]]⟩
def mLoop : Mdl := ⟨[], [mainC [1] [⟨[], ⟨1, 0, 0, 0⟩⟩]]⟩
theorem Rself : runM mSelf [] 1000 = ⟨[], 2, 4⟩ ∧ chk mSelf = 0 := ⟨ran_eq (by decide +kernel), by decide +kernel⟩
theorem Rloop : runM mLoop [] 1000 = ⟨[], 3, 0⟩ ∧ chk mLoop = 0 := ⟨ran_eq (by decide +kernel), by decide +kernel⟩
def oddL : List Glo := [⟨[], 3, 0, 0⟩, ⟨[], 0, 2, 0⟩, ⟨[], 4, 1, 0⟩, ⟨[], 0, 0, 0⟩]
theorem odd_6 : ∀ i : Fin 4, chk ⟨[oddL.getD i default], m7.f⟩ = 6 := by decide +kernel
theorem chk_none : chk ⟨[], []⟩ = 12 := by decide +kernel
theorem chk_many : chk ⟨[], [mainC [] []]⟩ = 9 := by decide +kernel
theorem chk_char : chk ⟨[], [mainC [3] [b7]]⟩ = 6 := by decide +kernel
theorem chk_to : chk ⟨[], [mainC [1] [⟨[], ⟨1, 0, 1, 0⟩⟩]]⟩ = 11 := by decide +kernel
theorem chk_long : chk ⟨[], [mainC [2] [⟨[], ⟨3, 0, 0, 0⟩⟩]]⟩ = 6 := by decide +kernel
end Go.Proofs.Ytgcjfbgfoiekmaa
