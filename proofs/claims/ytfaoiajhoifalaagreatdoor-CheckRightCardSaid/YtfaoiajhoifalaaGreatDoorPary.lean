/-
  Layer parse: the walk of the function that reads a statement.
-/
import Derived.Test.YtfaoiajhoifalaaGreatDoorParx
import Derived.MapKept
import Derived.Deep.RegionHeld2
namespace Go.Proofs.YtfaoiajhoifalaaGreatDoor
open Go.RowKit Go.MapKept
set_option linter.unusedVariables false
set_option linter.unusedSimpArgs false

/-- The ways to read a statement, in their map. -/
def stK : List (List UInt8 × Nat) := [([123], 109), (wInt, 110), (wLong, 110), (wIf, 111), (wWhile, 112), (wGoto, 113), (wReturn, 114), (wOut, 115)]
def stEs : List MapEntry := [⟨.string (str [123]), .func (.func 109) #[] #[], 0⟩, ⟨.string (str wInt), .func (.func 110) #[] #[], 1⟩, ⟨.string (str wLong), .func (.func 110) #[] #[], 2⟩, ⟨.string (str wIf), .func (.func 111) #[] #[], 3⟩, ⟨.string (str wWhile), .func (.func 112) #[] #[], 4⟩, ⟨.string (str wGoto), .func (.func 113) #[] #[], 5⟩, ⟨.string (str wReturn), .func (.func 114) #[] #[], 6⟩, ⟨.string (str wOut), .func (.func 115) #[] #[], 7⟩]
def stF (l : List UInt8) : Option Nat := (stK.find? fun p => decide (p.1 = l)).map (·.2)
theorem same_str (a b : List UInt8) : (str a == str b) = decide (b = a) := by
  rw [Bool.eq_iff_iff, bytes_beq, decide_eq_true_eq]
  exact ⟨fun e => by have := congrArg (fun x => x.data.toList) e; simpa using this.symm, fun e => by rw [e]⟩
abbrev tM : TypeId := 124
theorem look_any (mb : Nat) (es : Array MapEntry) (clock : Nat) (hes : es.toList = stEs) (l : List UInt8) (w : World) (hb : w.heap[mb]? = some (.map es clock)) :
    (Instr.lookup tM (.map (some mb)) (.string (str l)) true).run Tryz.prog w = .ok (.tuple #[match stF l with | some f => .func (.func f) #[] #[] | none => .nilFunc, .bool (stF l).isSome]) w := by
  have hz : (zeroValue 149).run Tryz.prog w = .ok .nilFunc w := by kernel_rfl
  have hk : IsKey .string (.string (str l)) := by simp [IsKey]
  obtain ⟨a, ha, hav⟩ : ∃ a, Instr.findNow .string (.string (str l)) es.toList 0 = some a ∧ a.map (·.2) = (stF l).map fun f => (.func (.func f) #[] #[] : Value) := by
    rw [hes]
    simp only [stEs, stF, stK, Instr.findNow, Instr.sameNow, same_str, List.find?_cons, List.find?_nil]
    by_cases h0 : [123] = l
    · simp [h0]
    by_cases h1 : wInt = l
    · simp [h0, h1]
    by_cases h2 : wLong = l
    · simp [h0, h1, h2]
    by_cases h3 : wIf = l
    · simp [h0, h1, h2, h3]
    by_cases h4 : wWhile = l
    · simp [h0, h1, h2, h3, h4]
    by_cases h5 : wGoto = l
    · simp [h0, h1, h2, h3, h4, h5]
    by_cases h6 : wReturn = l
    · simp [h0, h1, h2, h3, h4, h5, h6]
    by_cases h7 : wOut = l
    · simp [h0, h1, h2, h3, h4, h5, h6, h7]
    · simp [h0, h1, h2, h3, h4, h5, h6, h7]
  have hfk := run_findKey (P := Tryz.prog) (w := w) (kt := 9) (d := .string) (l := es.toList) (k := .string (str l)) Tryz.underlying9 ha
  have hck := fun b => run_checkKey (P := Tryz.prog) (w := w) (kt := 9) (d := .string) (k := .string (str l)) Tryz.underlying9 hk b 9999
  cases a with
  | none =>
    have hs : stF l = none := by cases h : stF l with
      | none => rfl
      | some f => rw [h] at hav; cases hav
    rw [hs]
    simp [Instr.lookup, run_underlying Tryz.underlying124, MapKept.run_getObj_map hb, hck, hfk, hz, Result.andThen]
  | some p =>
    obtain ⟨f, hs, hp⟩ : ∃ f, stF l = some f ∧ p.2 = .func (.func f) #[] #[] := by cases h : stF l with
      | none => rw [h] at hav; cases hav
      | some f => rw [h] at hav; exact ⟨f, rfl, Option.some.inj hav⟩
    rw [hs]
    simp [Instr.lookup, run_underlying Tryz.underlying124, MapKept.run_getObj_map hb, hck, hfk, hp, Result.andThen]

theorem stm_cases {e : Tok} {r : Md → St → Rs Fo} {d : Nat} {s : St} :
    (if isNm (pk e s) then namedB e r d s
  else if q (pk e s) = [123] then blockB e r d s
  else if q (pk e s) = wInt then localB e r d s
  else if q (pk e s) = wLong then localB e r d s
  else if q (pk e s) = wIf then ifB e r d s
  else if q (pk e s) = wWhile then whileB e r d s
  else if q (pk e s) = wGoto then gotoB e d s
  else if q (pk e s) = wReturn then retB e r d s
  else if q (pk e s) = wOut then outB e r d s
  else wr e 2 s) = if isNm (pk e s) then namedB e r d s else match stF (q (pk e s)) with | some f => if f = 109 then blockB e r d s else if f = 110 then localB e r d s else if f = 111 then ifB e r d s else if f = 112 then whileB e r d s else if f = 113 then gotoB e d s else if f = 114 then retB e r d s else outB e r d s | none => wr e 2 s := by
  split
  · rfl
  generalize q (pk e s) = l
  by_cases h0 : l = [123]
  · subst h0; rfl
  by_cases h1 : l = wInt
  · subst h1; rfl
  by_cases h2 : l = wLong
  · subst h2; rfl
  by_cases h3 : l = wIf
  · subst h3; rfl
  by_cases h4 : l = wWhile
  · subst h4; rfl
  by_cases h5 : l = wGoto
  · subst h5; rfl
  by_cases h6 : l = wReturn
  · subst h6; rfl
  by_cases h7 : l = wOut
  · subst h7; rfl
  have hs : stF l = none := by
    simp only [stF, stK, List.find?_cons, List.find?_nil, decide_eq_false (Ne.symm h0), decide_eq_false (Ne.symm h1), decide_eq_false (Ne.symm h2), decide_eq_false (Ne.symm h3), decide_eq_false (Ne.symm h4), decide_eq_false (Ne.symm h5), decide_eq_false (Ne.symm h6), decide_eq_false (Ne.symm h7), Option.map_none]
  rw [hs, if_neg h0, if_neg h1, if_neg h2, if_neg h3, if_neg h4, if_neg h5, if_neg h6, if_neg h7]
end Go.Proofs.YtfaoiajhoifalaaGreatDoor
