/-
  From a row's condition (the listed package-level variables read as the program's text lays them) to what the walks of layers lex and parse ask; the door's own heap meets it; a slice of tokens that came in.
-/
import Derived.Test.YtlbjjpfhkgagiaaGreatDoorRows
import Derived.Test.YtlbjjpfhkgagiaaGreatDoorPrd
import Derived.Test.YtlbjjpfhkgagiaaGreatDoorLexk
import Derived.ProofKit
import Derived.LaidMore
import Derived.Stop.LaidErr
import Derived.Stop.Joined
import Derived.Deep.Slices
import Derived.SizedLaws
namespace Go.Proofs.YtlbjjpfhkgagiaaGreatDoor
open Go Go.ChangeShapes Go.WideShapes Go.ChangeAt Go.WideMaps Go.WideElems Go.RowKit
set_option linter.unusedVariables false
set_option linter.unusedSimpArgs false

def laidAll : List (String × DataW Unit) := [("math/bits.deBruijn32tab", Rows.laid_math_bits_deBruijn32tab), ("math/bits.deBruijn64tab", Rows.laid_math_bits_deBruijn64tab), ("internal/strconv.uint64pow10", Rows.laid_internal_strconv_uint64pow10), ("strconv.ErrRange", Rows.laid_strconv_ErrRange), ("strconv.ErrSyntax", Rows.laid_strconv_ErrSyntax), ("unicode.White_Space", Rows.laid_unicode_White_Space), ("strings.asciiSpace", Rows.laid_strings_asciiSpace), ("mortise/lex.signs", Rows.laid_mortise_lex_signs), ("mortise/parse.patterns", Rows.laid_mortise_parse_patterns), ("mortise/parse.typeNames", Rows.laid_mortise_parse_typeNames)]

/-- The door's own heap meets the condition. -/
theorem door_met (os : Os) (args : Array Value) : laidMetH Tryz.prog laidAll ((World.doorLaid Tryz.prog 101 os).forCall (fun _ _ => 0) ⟨#[], args, []⟩).memory :=
  laidMetH_of_parts3 (fuel := 8) (laidMet_of_run' 8 (by kernel_rfl) (by kernel_rfl)) (by kernel_rfl) (by kernel_rfl)

theorem star : "*" ++ "errors.errorString" = "*errors.errorString" := by decide
theorem rowErr (u : TypeId) (h : Tryz.prog.typeName? 3 u = some "*errors.errorString") : u = 223 :=
  typeName_ptr_named (nm := "errors.errorString") (by rw [star]; kernel_rfl) (by kernel_rfl) (by decide) u (by rw [star]; exact h)
theorem tyR : (Tryz.prog.globals[gR]?).map (·.type) = some 136 := by kernel_rfl
theorem tyT : (Tryz.prog.globals[gT]?).map (·.type) = some 197 := by kernel_rfl
theorem tyS : (Tryz.prog.globals[gS]?).map (·.type) = some 159 := by kernel_rfl
theorem tyY : (Tryz.prog.globals[gY]?).map (·.type) = some 106 := by kernel_rfl
theorem tyP : (Tryz.prog.globals[gP]?).map (·.type) = some 186 := by kernel_rfl
theorem tyA : (Tryz.prog.globals[gA]?).map (·.type) = some 183 := by kernel_rfl
theorem cE : Tryz.prog.cellsOf 225 = 1 := by kernel_rfl
theorem cStr : Tryz.prog.cellsOf 9 = 1 := by kernel_rfl
theorem cInt : Tryz.prog.cellsOf 3 = 1 := by kernel_rfl
theorem cU64 : Tryz.prog.cellsOf 178 = 1 := by kernel_rfl
theorem cU8 : Tryz.prog.cellsOf 5 = 1 := by kernel_rfl
theorem cT : Tryz.prog.cellsOf 197 = 20 := by kernel_rfl
theorem cA : Tryz.prog.cellsOf 183 = 256 := by kernel_rfl
theorem cS : Tryz.prog.cellsOf 159 = 30 := by kernel_rfl
theorem cY : Tryz.prog.cellsOf 106 = 4 := by kernel_rfl
theorem cP : Tryz.prog.cellsOf 186 = 22 := by kernel_rfl

theorem strs_of_head {W : World} {name : String} {zs : List (List UInt8)} {rest : List (String × DataW Unit)} {g : Nat} {t : TypeId} {n : Nat}
    (hg : Tryz.prog.globalNamed name = some g) (hty : (Tryz.prog.globals[g]?).map (·.type) = some t) (ht : Tryz.prog.underlying t = some (.array n 9)) (hct : Tryz.prog.cellsOf t = n)
    (h : laidMet Tryz.prog ((name, .agg (zs.map fun z => .lit (.string z))) :: rest) W) : W.var? Tryz.prog name = some (zs.map fun z => Value.string (str z)).toArray := by
  obtain ⟨ps, ⟨g', t', cs, fuel, p, q, hg', ht', hvar, hd, _, _⟩, _⟩ := h
  obtain rfl := Option.some.inj (hg.symm.trans hg')
  obtain rfl := Option.some.inj (hty.symm.trans ht')
  have := cells_of_strs (zs := zs) ht Tryz.underlying9 cStr hct hd
  rw [hvar, ← this]
theorem patT_is : (Rows.laid_mortise_parse_patterns : DataW Unit) = .agg (patT.map fun z => .lit (.string z)) := by kernel_rfl
theorem asc_is : (Rows.laid_strings_asciiSpace : DataW Unit) = Lib.tabData .u8 Lib.asciiSpaceTab := by kernel_rfl
theorem env_of_laid {W : World} (h : laidMetH Tryz.prog laidAll W) : EnvW W.heap.size W := by
  rw [MakeChecks.laidMetH_plain _ _ _ (by kernel_rfl)] at h
  have h2 := h.tail.tail
  have h3 := h2.tail
  have h6 := h3.tail.tail.tail
  have h7 := h6.tail
  have h8 := h7.tail
  have h9 := h8.tail
  rw [asc_is] at h6
  rw [patT_is] at h8
  have ht := Lib.tabIs_of_head (k := .u64) (zs := Lib.pow10Tab) nT tyT Tryz.underlying197 Tryz.underlying178 cU64 cT h2
  have ha := Lib.tabIs_of_head (k := .u8) (zs := Lib.asciiSpaceTab) nA tyA Tryz.underlying183 Tryz.underlying5 cU8 cA h6
  obtain ⟨a0, s0, hv0, -, -, -⟩ := laid_sentinel h3 nR tyR Tryz.underlying136 rowErr Tryz.underlying223 Tryz.underlying225 rfl rfl Tryz.underlying9 cE cStr
  have hs := strs_of_head (zs := sg) nS tyS Tryz.underlying159 cS h7
  have hp := strs_of_head (zs := patT) nP tyP Tryz.underlying186 cP h8
  have hy := strs_of_head (zs := tys) nY tyY Tryz.underlying106 cY h9
  exact ⟨⟨ht, ⟨_, _, hv0⟩, hs, lt_of_var nS hs, lt_of_var nT ht, lt_of_var nR hv0⟩, ⟨hy, lt_of_var nY hy⟩, hp, ha, lt_of_var nS hs, lt_of_var nT ht, lt_of_var nR hv0, lt_of_var nY hy, lt_of_var nP hp, lt_of_var nA ha⟩

/-! tokens that came in -/
theorem list4 {α : Type} {l : List α} (h : l.length = 4) : ∃ a b c d, l = [a, b, c, d] := by
  match l, h with
  | [a, b, c, d], _ => exact ⟨a, b, c, d, rfl⟩
theorem tokI : Tryz.prog.cellsOf tE = 4 := by kernel_rfl
set_option maxHeartbeats 1000000 in
/-- A slice of tokens, opened: its cells are tokens, its texts are no longer than what reaches. -/
theorem open_toks {H : Type} {enc : TypeId × Value → H} {W : World} {sp : Nat → Bool} {fuel : Nat} {cs : List Value} {x : DataW H × List MemPlace} (h : DataW.trod enc Tryz.prog W 0 sp true fuel tL cs = some x)
    (hw : ∀ n ∈ x.1.weights Tryz.prog tL, n ≤ reachBytes) (hlt : ∀ p ∈ x.2, p.block < W.heap.size) :
    ∃ (A : Option Addr) (n c : Nat) (toks : List Tok), cs = [.slice A n c] ∧ toks.length = n ∧ n ≤ c ∧ c ≤ maxLen ∧ (A = none → c = 0) ∧ RdT W W.heap.size A toks ∧ ∀ t ∈ toks, t.s.length ≤ reachBytes := by
  rcases Deep.open_slice Tryz.underlying23 h with ⟨rfl, rfl⟩ | ⟨a, len, cap, m, n, D, Pl, rfl, hb, hl, hm, hmm, rfl, hx⟩
  · exact ⟨none, 0, 0, [], rfl, rfl, by omega, by unfold maxLen; omega, fun _ => rfl, .inl rfl, fun t ht => by cases ht⟩
  · have hlm : len ≤ m := by rw [hmm]; split <;> omega
    have each : ∀ i, i < len → ∃ t : Tok, W.cell? (a.add (i * 4)) = some (.int .i64 t.k) ∧ W.cell? (a.add (i * 4 + 1)) = some (.int .i64 t.p) ∧ W.cell? (a.add (i * 4 + 2)) = some (.int .i64 t.n) ∧ W.cell? (a.add (i * 4 + 3)) = some (.string (str t.s)) ∧
        D i = .agg [.lit (.int .i64 t.k), .lit (.int .i64 t.p), .lit (.int .i64 t.n), .lit (.string t.s)] := by
      intro i hi
      obtain ⟨cs', h1, h2⟩ := hx i (by omega)
      rw [tokI] at h1
      obtain ⟨_, hlen, hcell⟩ := World.cells?_some h1
      obtain ⟨xs, k, hk, hxy, _, hxl, hf⟩ := DataW.trod_struct Tryz.underlying61 h2
      have hxl4 : xs.length = 4 := hxl
      obtain ⟨y0, y1, y2, y3, rfl⟩ := list4 hxl4
      obtain ⟨v0, v1, v2, v3, rfl⟩ := list4 hlen
      have g0 := hf 0 _ rfl
      have g1 := hf 1 _ rfl
      have g2 := hf 2 _ rfl
      have g3 := hf 3 _ rfl
      clear hf hxl h2
      simp [cInt, cStr] at g0 g1 g2 g3
      have e0 := hcell 0 (by omega)
      have e1 := hcell 1 (by omega)
      have e2 := hcell 2 (by omega)
      have e3 := hcell 3 (by omega)
      rw [Deep.add_add] at e0 e1 e2 e3
      simp only [Prod.mk.injEq] at hxy
      obtain ⟨z0, f0, rfl, _⟩ := DataW.trod_int Tryz.underlying3 g0
      obtain ⟨z1, f1, rfl, _⟩ := DataW.trod_int Tryz.underlying3 g1
      obtain ⟨z2, f2, rfl, _⟩ := DataW.trod_int Tryz.underlying3 g2
      obtain ⟨z3, f3, rfl, _⟩ := DataW.trod_string Tryz.underlying9 g3
      simp only [List.cons.injEq, and_true] at f0 f1 f2 f3
      subst f0 f1 f2 f3
      exact ⟨⟨z0, z1, z2, z3.data.toList⟩, by simpa using e0, by simpa using e1, by simpa using e2, by simpa using e3, by simpa using hxy.1⟩
    have ih : Inhabited Tok := ⟨tk0⟩
    obtain ⟨q, hq⟩ := Deep.choose_lt (α := Tok) each
    refine ⟨some a, len, cap, (List.range len).map q, rfl, by simp, hl, hm, fun h => (by cases h), ?_, ?_⟩
    · by_cases h0 : len = 0
      · exact .inl (by simp [h0])
      · obtain ⟨g, o, spt⟩ := a
        have hspot : spt = none := by simpa [Addr.add] using World.cell?_spot (hq 0 (by omega)).1
        subst hspot
        refine .inr ⟨g, o, rfl, ?_, ?_⟩
        · have := World.block_lt_of_cell? W _ (hq 0 (by omega)).1
          simpa [Addr.add] using this
        · intro i t ht
          have hi : i < len := by
            have := (List.getElem?_eq_some_iff.1 ht).1
            simpa using this
          simp [hi] at ht
          subst ht
          obtain ⟨c0, c1, c2, c3, -⟩ := hq i hi
          simp only [Addr.add_mid] at c0 c1 c2 c3
          exact ⟨c0, by rw [Nat.add_assoc]; exact c1, by rw [Nat.add_assoc]; exact c2, by rw [Nat.add_assoc]; exact c3⟩
    · intro t ht
      obtain ⟨i, hi, rfl⟩ := List.mem_map.1 ht
      have hi' : i < len := List.mem_range.1 hi
      have hD := (hq i hi').2.2.2.2
      refine hw _ ?_
      simp only [DataW.weights, Tryz.underlying23]
      refine List.mem_cons_of_mem _ (List.mem_append_left _ ?_)
      have key : ∀ (l : List (DataW H)), D i ∈ l → (q i).s.length ∈ DataW.weightsAll Tryz.prog tE l := by
        intro l
        induction l with
        | nil => intro h; cases h
        | cons d l ih =>
          intro h
          simp only [DataW.weightsAll, List.mem_append]
          rcases List.mem_cons.1 h with rfl | h
          · left
            rw [hD]
            simp [DataW.weights, Tryz.underlying61, DataW.weightsEach]
          · exact .inr (ih h)
      exact key _ (List.mem_map.2 ⟨i, List.mem_range.2 hi', rfl⟩)
end Go.Proofs.YtlbjjpfhkgagiaaGreatDoor
