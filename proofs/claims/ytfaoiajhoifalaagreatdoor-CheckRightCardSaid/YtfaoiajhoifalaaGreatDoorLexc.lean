/-
  Walks of layer lex: one token.
-/
import Derived.Test.YtfaoiajhoifalaaGreatDoorLexb
import Derived.Test.YtfaoiajhoifalaaGreatDoorLexe
import Derived.Deep.MidRow
namespace Go.Proofs.YtfaoiajhoifalaaGreatDoor
open Go.RowKit
set_option linter.unusedVariables false
set_option linter.unusedSimpArgs false

def tokV (t : Tok) : Value := .agg #[.int .i64 t.k, .int .i64 t.p, .int .i64 t.n, .string (str t.s)]
def scV (x : Sc) : Value := .tuple #[tokV x.1, .int .i64 x.2.1, .int .i64 x.2.2]

theorem results_sc {fn : Func} {ty : TypeId} {b : Nat} {cs : List Value} {d : TypeDesc} (h : fn.results = #[.cell 2 ty, .tmp 3, .tmp 4]) (tmps : Array Value) (P : Program) (w : World)
    (hp : tmps.getD 2 undef = .pointer (some ⟨b, 0, none⟩)) (hc : w.rangeAt b 0 cs) (hu : P.underlying ty = some d) (hd : d.isRow = true) (hi : (P.info? ty).map (·.size) = some cs.length) :
    (results fn tmps).run P w = .ok (.tuple #[.agg cs.toArray, tmps.getD 3 undef, tmps.getD 4 undef]) w := by
  simp only [results, h]
  simp [Sem.run_bind, Result.andThen]
  rw [show tmps[2]?.getD undef = .pointer (some ⟨b, 0, none⟩) from by simpa using hp]
  simp [asAddr, run_loadVar_mid w b 0 ty cs d hc hu hd hi]

theorem tokInfo : (Tryz.prog.info? 92).map (·.size) = some 4 := by kernel_rfl
theorem tokU : ∃ d, Tryz.prog.underlying 92 = some d ∧ d.isRow = true := ⟨_, Tryz.underlying92, rfl⟩

theorem ret_sc {fn : Func} {R : Ending → World → Prop} {a : Act} {w : World} {b : Nat} {t : Tok} {n : Nat} {no : Int} (hf : fn.results = #[.cell 2 92, .tmp 3, .tmp 4]) (hd : a.defers = [])
    (h2 : a.tmps.getD 2 undef = .pointer (some ⟨b, 0, none⟩)) (h3 : a.tmps.getD 3 undef = .int .i64 n) (h4 : a.tmps.getD 4 undef = .int .i64 no)
    (c0 : w.cell? ⟨b, 0, none⟩ = some (.int .i64 t.k)) (c1 : w.cell? ⟨b, 1, none⟩ = some (.int .i64 t.p)) (c2 : w.cell? ⟨b, 2, none⟩ = some (.int .i64 t.n)) (c3 : w.cell? ⟨b, 3, none⟩ = some (.string (str t.s)))
    (hR : R (.returned (scV (t, n, no))) w) : bodyPost Tryz.prog fn R .ret a w := by
  obtain ⟨d, hu, hr⟩ := tokU
  refine bodyPost_ret (v := scV (t, n, no)) ?_ hd hR
  have hc : w.rangeAt b 0 [.int .i64 t.k, .int .i64 t.p, .int .i64 t.n, .string (str t.s)] := by
    intro j v hv
    match j, hv with
    | 0, hv => cases hv; exact c0
    | 1, hv => cases hv; exact c1
    | 2, hv => cases hv; exact c2
    | 3, hv => cases hv; exact c3
    | j + 4, hv => simp at hv
  rw [results_sc hf a.tmps _ w h2 hc hu hr tokInfo, h3, h4]
  rfl

/-- Four cells of a block, written one behind the other. -/
abbrev set4 (w : World) (b : Nat) (t : Tok) : World :=
  (((w.setCell ⟨b, 0, none⟩ (.int .i64 t.k)).setCell ⟨b, 1, none⟩ (.int .i64 t.p)).setCell ⟨b, 2, none⟩ (.int .i64 t.n)).setCell ⟨b, 3, none⟩ (.string (str t.s))

theorem cell_set4 {w : World} {b : Nat} {t : Tok} {cs : Array Value} {T : TypeId} {fr : Nat × Nat} (hb : w.heap[b]? = some (.cells cs T fr)) (hn : cs.size = 4) :
    (set4 w b t).heap[b]? = some (.cells #[.int .i64 t.k, .int .i64 t.p, .int .i64 t.n, .string (str t.s)] T fr) := by
  have e : ((((cs.setIfInBounds 0 (.int .i64 t.k)).setIfInBounds 1 (.int .i64 t.p)).setIfInBounds 2 (.int .i64 t.n)).setIfInBounds 3 (.string (str t.s))) = #[.int .i64 t.k, .int .i64 t.p, .int .i64 t.n, .string (str t.s)] := by
    obtain ⟨l⟩ := cs
    match l, hn with
    | [a, b, c, d], _ => rfl
  rw [← e]
  simp [World.setCell, Array.getElem?_modify, hb]

theorem ret_sc4 {fn : Func} {R : Ending → World → Prop} {a : Act} {w : World} {b : Nat} {t : Tok} {n : Nat} {no : Int} {cs : Array Value} {T : TypeId} {fr : Nat × Nat} (hf : fn.results = #[.cell 2 92, .tmp 3, .tmp 4]) (hd : a.defers = [])
    (h2 : a.tmps.getD 2 undef = .pointer (some ⟨b, 0, none⟩)) (h3 : a.tmps.getD 3 undef = .int .i64 n) (h4 : a.tmps.getD 4 undef = .int .i64 no)
    (hb : w.heap[b]? = some (.cells cs T fr)) (hn : cs.size = 4)
    (hR : R (.returned (scV (t, n, no))) (set4 w b t)) : bodyPost Tryz.prog fn R .ret a (set4 w b t) := by
  have h := cell_set4 (t := t) hb hn
  exact ret_sc hf hd h2 h3 h4 (by rw [cell_of_row _ _ _ _ _ _ h]; rfl) (by rw [cell_of_row _ _ _ _ _ _ h]; rfl) (by rw [cell_of_row _ _ _ _ _ _ h]; rfl) (by rw [cell_of_row _ _ _ _ _ _ h]; rfl) hR

theorem below_set4 {w0 w : World} {B b : Nat} {t : Tok} (h : Below B w0 w) (hb : B ≤ b) : Below B w0 (set4 w b t) :=
  (((h.setCell (p := ⟨b, 0, none⟩) hb _).setCell (p := ⟨b, 1, none⟩) hb _).setCell (p := ⟨b, 2, none⟩) hb _).setCell (p := ⟨b, 3, none⟩) hb _

theorem ret_new {fn : Func} {R : Ending → World → Prop} {a : Act} {w : World} {t : Tok} {n : Nat} {no : Int} {T : TypeId} (hf : fn.results = #[.cell 2 92, .tmp 3, .tmp 4]) (hd : a.defers = [])
    (h2 : a.tmps.getD 2 undef = .pointer (some ⟨w.heap.size, 0, none⟩)) (h3 : a.tmps.getD 3 undef = .int .i64 n) (h4 : a.tmps.getD 4 undef = .int .i64 no)
    (hR : R (.returned (scV (t, n, no))) (w.alloc (.cells #[.int .i64 t.k, .int .i64 t.p, .int .i64 t.n, .string (str t.s)] T))) :
    bodyPost Tryz.prog fn R .ret a (w.alloc (.cells #[.int .i64 t.k, .int .i64 t.p, .int .i64 t.n, .string (str t.s)] T)) := by
  have h := heap_alloc_new w (.cells #[.int .i64 t.k, .int .i64 t.p, .int .i64 t.n, .string (str t.s)] T)
  exact ret_sc hf hd h2 h3 h4 (by rw [cell_of_row _ _ _ _ _ _ h]; rfl) (by rw [cell_of_row _ _ _ _ _ _ h]; rfl) (by rw [cell_of_row _ _ _ _ _ _ h]; rfl) (by rw [cell_of_row _ _ _ _ _ _ h]; rfl) hR

theorem ext_take (s : ByteArray) (k : Nat) : s.extract 0 k = str (s.data.toList.take k) := by
  apply eq_str
  rw [Lib.extract_data]; simp

theorem len_step {f : UInt8 → Bool} {s : ByteArray} {k : Nat} (h : k ≤ len f s.data.toList) (hk : k < s.size) :
    (f s[k] = true → k + 1 ≤ len f s.data.toList) ∧ (f s[k] = false → k = len f s.data.toList) := by
  have key : ∀ (l : List UInt8) (k : Nat), k ≤ len f l → (hk : k < l.length) → (f l[k] = true → k + 1 ≤ len f l) ∧ (f l[k] = false → k = len f l) := by
    intro l
    induction l with
    | nil => intro k _ hk; simp at hk
    | cons c r ih =>
      intro k hle hk
      cases k with
      | zero => simp only [List.getElem_cons_zero, len]; constructor <;> intro h <;> simp [h]
      | succ k =>
        simp only [List.getElem_cons_succ]
        simp only [len] at hle ⊢
        split at hle
        · rename_i hc
          have := ih k (by omega) (by simpa using hk)
          simp only [hc, if_true]
          exact ⟨fun h => by have := this.1 h; omega, fun h => by have := this.2 h; omega⟩
        · omega
  exact key s.data.toList k h (by rw [← Lib.size_eq]; exact hk)

theorem len_full {f : UInt8 → Bool} {s : ByteArray} {k : Nat} (h : k ≤ len f s.data.toList) (hk : ¬ k < s.size) : k = len f s.data.toList := by
  have := len_le f s.data.toList
  rw [← Lib.size_eq] at this
  omega

theorem clone_any (s : ByteArray) (w : World) (hlim : s.size ≤ 281474976710656) :
    Calls Tryz.prog 90 #[.string s] w fun e w' => e = .returned (.string s) ∧ Below w.heap.size w w' := by
  go_enter Tryz.func90, Tryz.ntmps90
  go_wp2_with fail
  refine (Tryz.stringslite_Clone s w hlim).mono ?_
  rintro e w' ⟨rfl, hb⟩
  go_wp2
  go_ret
  exact ⟨rfl, hb⟩

set_option maxHeartbeats 1000000 in
theorem scanName_any (s : ByteArray) (hs : s.size ≤ maxLen) (h0 : 1 ≤ len isN s.data.toList) (w : World) :
    Calls Tryz.prog 105 #[.string s] w fun e w' => e = .returned (scV (scName s.data.toList)) ∧ Below w.heap.size w w' := by
  unfold maxLen at hs
  have hl := len_le isN s.data.toList
  rw [← Lib.size_eq] at hl
  go_enter Tryz.func105, Tryz.ntmps105
  go_wp2
  go_loop [5] (fun v => ∃ k : Nat, k ≤ len isN s.data.toList ∧ v = .int .i64 k) (fun i => s.size - (intOf i).toNat)
  case atStart => exact ⟨1, h0, rfl⟩
  case round =>
    obtain ⟨k, hk, rfl⟩ := hrel
    by_cases hlt : k < s.size
    · have hst := len_step hk hlt
      cases hc : isN s[k]
      · have hke := hst.2 hc
        clear hst hk
        have HK := Lib.hid hke
        clear hke
        by_cases h24 : 24 < k
        · go_wp2_with (go_at_call 140; refine (isInName_any _ _).mono ?_; rw [hc]; clear hc; rintro e w1 ⟨rfl, rfl⟩)
          have e : scName s.data.toList = (tk0, 0, 10) := by rw [scName, ← HK.out, if_pos h24]
          rw [e]
          exact ret_new (t := tk0) (n := 0) (no := 10) rfl rfl rfl rfl rfl ⟨rfl, (Below.refl _ w).alloc (Nat.le_refl _) _⟩
        · go_wp2_with (first
            | (go_at_call 140; refine (isInName_any _ _).mono ?_; rw [hc]; clear hc; rintro e w1 ⟨rfl, rfl⟩)
            | (go_at_call 90; refine (clone_any (s.extract 0 k) _ (by rw [ByteArray.size_extract]; omega)).mono ?_; rintro e w1 ⟨rfl, hb1⟩; obtain ⟨hcl, hfr⟩ := bcell hb1; have hblk := (hb1.block w.heap.size (by simp)).trans (heap_alloc_new w _); have HB := Lib.hid hblk; clear hblk; have HB1 := Lib.hid hb1; clear hb1))
          have e : scName s.data.toList = (⟨1, 0, 0, s.data.toList.take k⟩, k, 0) := by rw [scName, ← HK.out, if_neg h24]
          rw [e, ext_take]
          refine ret_sc4 (t := ⟨1, 0, 0, s.data.toList.take k⟩) (n := k) (no := 0) rfl rfl rfl rfl rfl HB.out rfl ⟨rfl, below_set4 (((Below.refl _ w).alloc (Nat.le_refl _) _).trans (HB1.out.mono (by simp))) (Nat.le_refl _)⟩
      · have hke := hst.1 hc
        clear hst
        go_wp2_with (go_at_call 140; refine (isInName_any _ _).mono ?_; rw [hc]; clear hc; rintro e w1 ⟨rfl, rfl⟩)
        go_round
        case rel => exact ⟨k + 1, by omega, by go_num⟩
        case measure => simp [intOf]; omega
    · have hke := len_full hk hlt
      have hks : k ≤ s.size := by omega
      clear hk
      have HK := Lib.hid hke
      clear hke
      by_cases h24 : 24 < k
      · go_wp2
        have e : scName s.data.toList = (tk0, 0, 10) := by rw [scName, ← HK.out, if_pos h24]
        rw [e]
        exact ret_new (t := tk0) (n := 0) (no := 10) rfl rfl rfl rfl rfl ⟨rfl, (Below.refl _ w).alloc (Nat.le_refl _) _⟩
      · go_wp2_with (first
          | (go_at_call 90; refine (clone_any (s.extract 0 k) _ (by rw [ByteArray.size_extract]; omega)).mono ?_; rintro e w1 ⟨rfl, hb1⟩; obtain ⟨hcl, hfr⟩ := bcell hb1; have hblk := (hb1.block w.heap.size (by simp)).trans (heap_alloc_new w _); have HB := Lib.hid hblk; clear hblk; have HB1 := Lib.hid hb1; clear hb1))
        have e : scName s.data.toList = (⟨1, 0, 0, s.data.toList.take k⟩, k, 0) := by rw [scName, ← HK.out, if_neg h24]
        rw [e, ext_take]
        refine ret_sc4 (t := ⟨1, 0, 0, s.data.toList.take k⟩) (n := k) (no := 0) rfl rfl rfl rfl rfl HB.out rfl ⟨rfl, below_set4 (((Below.refl _ w).alloc (Nat.le_refl _) _).trans (HB1.out.mono (by simp))) (Nat.le_refl _)⟩

/-- The table of signs, as the walk reads it. -/
def SG : Array Value := (sg.map fun z => Value.string (str z)).toArray
theorem SG_at (i : Nat) (h : i < sg.length) : SG[i]? = some (.string (str sg[i])) := by simp [SG, h]
theorem sgInfo : (Tryz.prog.info? 169).map (·.size) = some SG.toList.length := by kernel_rfl
theorem sgU : ∃ d, Tryz.prog.underlying 169 = some d ∧ d.isRow = true := ⟨_, Tryz.underlying169, rfl⟩
theorem sgRange {w : World} (h : Env w) : w.rangeAt gS 0 SG.toList := by
  intro j v hv
  rw [Nat.zero_add, World.var?_cell nS h.sgn j]
  simpa [SG] using hv

theorem hasPre2 (s p : ByteArray) (w : World) :
    Calls Tryz.prog 102 #[.string s, .string p] w fun e w' => e = .returned (.bool (List.isPrefixOf p.data.toList s.data.toList)) ∧ w = w' :=
  (Tryz.strings_HasPrefix _ _ w).mono (by rintro e w' ⟨rfl, rfl⟩; exact ⟨rfl, rfl⟩)

theorem sgIdx (k : Nat) (h : k < sg.length) (w : World) : (Instr.index 169 (.agg SG) (.int .i64 k)).run Tryz.prog w = .ok (.string (str sg[k])) w := by
  have h30 : (k : Int) < 30 := by have : sg.length = 30 := by decide
                                  omega
  have hat := SG_at k h
  have hat' : SG[k]? = some (.string (str sg[k])) := hat
  simp [Instr.index, run_underlying Tryz.underlying169, asIntOf, h30, go_sem, part, Tryz.sizeOf9, Tryz.isAgg9]
  rw [if_pos (by omega), hat]
  rfl

theorem find_drop {α : Type} (p : α → Bool) : ∀ (l : List α) (k : Nat) (h : k < l.length), p l[k] = true → (l.drop k).find? p = some l[k] := by
  intro l k h hp
  have e := List.drop_eq_getElem_cons h
  rw [e, List.find?_cons, hp]

/-- None of the first signs stands there. -/
def SgN (s : ByteArray) (k : Nat) : Prop := (sg.take k).find? (fun z => z.isPrefixOf s.data.toList) = none
theorem SgN.zero (s : ByteArray) : SgN s 0 := rfl
theorem SgN.succ {s : ByteArray} {k : Nat} (h : SgN s k) (hk : k < sg.length) (hp : List.isPrefixOf sg[k] s.data.toList = false) : SgN s (k + 1) := by
  unfold SgN at *
  rw [List.take_succ_eq_append_getElem hk, List.find?_append, h]
  simp [hp]
theorem SgN.none {s : ByteArray} (h : SgN s 30) : scSign s.data.toList = (tk0, 0, 1) := by
  unfold SgN at h
  rw [List.take_of_length_le (by decide)] at h
  simp only [scSign, h]
theorem SgN.some {s : ByteArray} {k : Nat} (h : SgN s k) (hk : k < sg.length) (hp : List.isPrefixOf sg[k] s.data.toList = true) : scSign s.data.toList = (⟨3, 0, 0, sg[k]⟩, sg[k].length, 0) := by
  unfold SgN at h
  have e : sg.find? (fun z => z.isPrefixOf s.data.toList) = Option.some sg[k] := by
    conv => lhs; rw [← List.take_append_drop k sg]
    rw [List.find?_append, h, Option.none_or]
    exact find_drop _ sg k hk hp
  simp only [scSign, e]

set_option maxHeartbeats 1000000 in
set_option maxRecDepth 100000 in
theorem scanSign_any (s : ByteArray) (hs : s.size ≤ maxLen) (w : World) (hE : Env w) :
    Calls Tryz.prog 108 #[.string s] w fun e w' => e = .returned (scV (scSign s.data.toList)) ∧ Below w.heap.size w w' := by
  have hR := sgRange hE
  have hR2 : (w.alloc (.cells #[.int .i64 0, .int .i64 0, .int .i64 0, .string ⟨#[]⟩] 92)).rangeAt gS 0 SG.toList := fun j v hv => (World.cell?_alloc_lt w _ _ hE.szS).trans (hR j v hv)
  obtain ⟨d, hu, hr⟩ := sgU
  have HR2 := Lib.hid hR2
  have HD := Lib.hid (And.intro hu hr)
  clear hR hR2 hu hr
  go_enter Tryz.func108, Tryz.ntmps108
  go_wp2_with (with_reducible refine wpList_load_mid rfl 169 (Operand.global 0) rfl gS 0 rfl SG.toList d HR2.out HD.out.1 HD.out.2 sgInfo ?_)
  go_loop [8] (fun v => ∃ k : Nat, k ≤ 30 ∧ v = .int .i64 k ∧ SgN s k) (fun i => 30 - (intOf i).toNat)
  case atStart => exact ⟨0, by omega, rfl, SgN.zero s⟩
  case round =>
    obtain ⟨k, hk, rfl, hn⟩ := hrel
    by_cases hlt : k < 30
    · have hix := fun W => sgIdx k hlt W
      have hS := fun hp => hn.some hlt hp
      have hN := fun hp => hn.succ hlt hp
      generalize sg[k]'hlt = z at *
      have HS := Lib.hid hS
      have HN := Lib.hid hN
      clear hS hN hn
      cases hp : List.isPrefixOf z s.data.toList
      · have hn2 := HN.out hp
        have HN2 := Lib.hid hn2
        clear hn2
        go_wp2_with (go_at_call 102; refine (hasPre2 s _ _).mono ?_; rw [show (str z).data.toList = z from rfl, hp]; clear hp; rintro e w1 ⟨rfl, rfl⟩)
        go_round
        case rel => exact ⟨k + 1, by omega, by go_num, HN2.out⟩
        case measure => simp [intOf]; omega
      · have e := HS.out hp
        have HE := Lib.hid e
        clear e
        go_wp2_with (go_at_call 102; refine (hasPre2 s _ _).mono ?_; rw [show (str z).data.toList = z from rfl, hp]; clear hp; rintro e w1 ⟨rfl, rfl⟩)
        rw [HE.out]
        exact ret_new (t := ⟨3, 0, 0, z⟩) (n := z.length) (no := 0) rfl rfl rfl (by simp [str_size]) rfl ⟨rfl, (Below.refl _ w).alloc (Nat.le_refl _) _⟩
    · obtain rfl : k = 30 := by omega
      have e := hn.none
      have HE := Lib.hid e
      clear e hn
      go_wp2
      rw [HE.out]
      exact ret_new (t := tk0) (n := 0) (no := 1) rfl rfl rfl rfl rfl ⟨rfl, (Below.refl _ w).alloc (Nat.le_refl _) _⟩
end Go.Proofs.YtfaoiajhoifalaaGreatDoor
