/-
  Walks of layer parse: words, signs' levels, types' names.
-/
import Derived.Test.YtfaoiajhoifalaaGreatDoorLexf
import Derived.Test.YtfaoiajhoifalaaGreatDoorParq
namespace Go.Proofs.YtfaoiajhoifalaaGreatDoor
open Go.RowKit
set_option linter.unusedVariables false
set_option linter.unusedSimpArgs false

theorem str_list (l : List UInt8) : (str l).toList = l := by rw [Lib.toList_data]
theorem eq_list {zz : ByteArray} {l : List UInt8} (h : zz.toList = l) : zz = str l := eq_str (by rw [← h, Lib.toList_data])

theorem isWord_any (zz : ByteArray) (l : List UInt8) (hz : zz.toList = l) (w : World) :
    Calls Tryz.prog 147 #[.string zz] w fun e w' => e = .returned (.bool (isW l)) ∧ w = w' := by
  go_enter Tryz.func147, Tryz.ntmps147
  go_wp2
  all_goals (go_ret; refine ⟨ret_bool ?_, rfl⟩; subst hz; simp_all [isW, wordsL, wChar, wInt, wLong, wVoid, wIf, wElse, wWhile, wGoto, wReturn, wIn, wOut])

set_option maxHeartbeats 4000000 in
set_option maxRecDepth 100000 in
theorem level_any (zz : ByteArray) (l : List UInt8) (hz : zz.toList = l) (w : World) :
    Calls Tryz.prog 184 #[.string zz] w fun e w' => e = .returned (.int .i64 (lvl l : Nat)) ∧ w = w' := by
  go_enter Tryz.func184, Tryz.ntmps184
  go_wp2
  all_goals (go_ret; refine ⟨ret_int ?_, rfl⟩; subst hz; simp_all [lvl])

abbrev gY : Nat := 1
theorem nY : Tryz.prog.globalNamed "mortise/parse.typeNames" = some gY := by kernel_rfl
abbrev tys : List (List UInt8) := [wVoid, wInt, wLong, wChar]
/-- The types' names. -/
structure EnvY (w : World) : Prop where
  ty : w.var? Tryz.prog "mortise/parse.typeNames" = some (tys.map fun z => Value.string (str z)).toArray
  szY : gY < w.heap.size
theorem EnvY.below {w w' : World} {B : Nat} (h : EnvY w) (hb : Below B w w') (hB : w.heap.size ≤ B) : EnvY w' :=
  ⟨(var?_same nY hb (Nat.lt_of_lt_of_le h.szY hB)).trans h.ty, Nat.lt_of_lt_of_le h.szY hb.size⟩
def TY : Array Value := (tys.map fun z => Value.string (str z)).toArray
theorem TY_at (i : Nat) (h : i < tys.length) : TY[i]? = some (.string (str tys[i])) := by simp only [TY, List.getElem?_toArray, List.getElem?_map, List.getElem?_eq_getElem h, Option.map_some]
theorem tyU : ∃ d, Tryz.prog.underlying 170 = some d ∧ d.isRow = true := ⟨_, Tryz.underlying170, rfl⟩
theorem tyInfo : (Tryz.prog.info? 170).map (·.size) = some TY.toList.length := by kernel_rfl
theorem tyRange {w : World} (h : EnvY w) : w.rangeAt gY 0 TY.toList := by
  intro j v hv
  rw [Nat.zero_add, World.var?_cell nY h.ty j]
  simpa [TY] using hv
theorem tyIdx (k : Nat) (h : k < tys.length) (w : World) : (Instr.index 170 (.agg TY) (.int .i64 k)).run Tryz.prog w = .ok (.string (str tys[k])) w := by
  have h30 : (k : Int) < 4 := by have : tys.length = 4 := by decide
                                 omega
  have hat := TY_at k h
  have hat' : TY[k]? = some (.string (str tys[k])) := hat
  simp [Instr.index, run_underlying Tryz.underlying170, asIntOf, h30, go_sem, part, Tryz.sizeOf9, Tryz.isAgg9]
  rw [if_pos (by omega), hat]
  rfl
theorem typeNo_at {l : List UInt8} {k : Nat} (hk : k < 4) (h : (tys[k]'(by simpa using hk)) = l) : typeNo l = some (k : Int) := by
  subst h
  rcases (by omega : k = 0 ∨ k = 1 ∨ k = 2 ∨ k = 3) with rfl | rfl | rfl | rfl <;> rfl
theorem typeNo_none {l : List UInt8} (h : ∀ k, (hk : k < 4) → (tys[k]'(by simpa using hk)) ≠ l) : typeNo l = none := by
  have h0 := h 0 (by omega); have h1 := h 1 (by omega); have h2 := h 2 (by omega); have h3 := h 3 (by omega)
  simp only [List.getElem_cons_zero, List.getElem_cons_succ] at h0 h1 h2 h3
  rw [typeNo, if_neg (Ne.symm h0), if_neg (Ne.symm h1), if_neg (Ne.symm h2), if_neg (Ne.symm h3)]

set_option maxHeartbeats 1000000 in
theorem typeNamed_any (zz : ByteArray) (l : List UInt8) (hz : zz.toList = l) (w : World) (hE : EnvY w) :
    Calls Tryz.prog 116 #[.string zz] w fun e w' => e = .returned (.tuple #[.int .i64 ((typeNo l).getD 0), .bool (typeNo l).isSome]) ∧ w = w' := by
  have hR := tyRange hE
  obtain ⟨d, hu, hr⟩ := tyU
  have HR := Lib.hid hR
  have HD := Lib.hid (And.intro hu hr)
  have HZ := Lib.hid hz
  clear hR hu hr hz
  go_enter Tryz.func116, Tryz.ntmps116
  go_wp2_with (with_reducible refine wpList_load_mid rfl 170 (Operand.global 1) rfl gY 0 rfl TY.toList d HR.out HD.out.1 HD.out.2 tyInfo ?_)
  go_loopw [7] (fun v wr => ∃ k : Nat, k ≤ 4 ∧ v = .int .i64 k ∧ wr = w ∧ ∀ j, (hj : j < 4) → j < k → (tys[j]'(by simpa using hj)) ≠ l) (fun i _ => 4 - (intOf i).toNat)
  case atStart => exact ⟨0, by omega, rfl, rfl, fun j _ h => by omega⟩
  case round =>
    obtain ⟨k, hk, rfl, rfl, hn⟩ := hrel
    by_cases hlt : k < 4
    · have hix := fun W => tyIdx k (by simpa using hlt) W
      have hS := fun hp => typeNo_at (l := l) hlt hp
      have hN : (tys[k]'(by simpa using hlt)) ≠ l → ∀ j, (hj : j < 4) → j < k + 1 → (tys[j]'(by simpa using hj)) ≠ l := fun hp j hj hjk => by
        rcases (by omega : j < k ∨ j = k) with h | rfl
        · exact hn j hj h
        · exact hp
      generalize tys[k]'(by simpa using hlt) = z at *
      have HS := Lib.hid hS
      have HN := Lib.hid hN
      clear hS hN hn
      by_cases hp : z = l
      · have hq : (z == zz.toList) = true := by rw [HZ.out]; simpa using hp
        have e := HS.out hp
        have HE := Lib.hid e
        clear e hp
        go_wp2
        refine bodyPost_ret (v := .tuple #[.int .i64 k, .bool true]) (by simp [results, Tryz.results116]) rfl ?_
        rw [HE.out]
        exact ⟨rfl, rfl⟩
      · have hq : (z == zz.toList) = false := by rw [HZ.out]; simpa using hp
        have e := HN.out hp
        have HE := Lib.hid e
        clear e hp
        go_wp2
        go_roundw
        case rel => exact ⟨k + 1, by omega, by go_num, trivial, HE.out⟩
        case measure => simp [intOf]; omega
    · obtain rfl : k = 4 := by omega
      have e := typeNo_none fun j hj => hn j hj hj
      have HE := Lib.hid e
      clear e hn
      go_wp2
      refine bodyPost_ret (v := .tuple #[.int .i64 0, .bool false]) (by simp [results, Tryz.results116]) rfl ?_
      rw [HE.out]
      exact ⟨rfl, rfl⟩
end Go.Proofs.YtfaoiajhoifalaaGreatDoor
