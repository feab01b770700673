/-
  What the statement LexKnown needs: the chapter's texts, zero bytes made and turned into a text.
-/
import Derived.Test.YtpmljgnnfljjpaaDoorLexq
namespace Go.Proofs.YtpmljgnnfljjpaaDoor
open Go.RowKit
set_option linter.unusedVariables false
set_option linter.unusedSimpArgs false

def kt1 : List Tok := [⟨2, 0, 1, [76]⟩, ⟨3, 2, 0, [45]⟩, ⟨2, 3, 0, []⟩, ⟨4, 9, 0, []⟩]
theorem lex_kt1 : lexL [49, 76, 45, 48, 32, 47, 47, 32, 120] = (kt1, 0, 0) := by decide
theorem lex_kt2 : lexL [] = ([⟨4, 0, 0, []⟩], 0, 0) := by decide

def ktT : List (List UInt8) := [[48, 49], [49, 97], [49, 76, 76], [50, 49, 52, 55, 52, 56, 51, 54, 52, 56], [35], [50, 49, 52, 55, 52, 56, 51, 54, 52, 55],
  [57, 50, 50, 51, 51, 55, 50, 48, 51, 54, 56, 53, 52, 55, 55, 53, 56, 48, 55, 76], [57, 50, 50, 51, 51, 55, 50, 48, 51, 54, 56, 53, 52, 55, 55, 53, 56, 48, 56, 76],
  [57, 57, 57, 57, 57, 57, 57, 57, 57, 57, 57, 57, 57, 57, 57, 57, 57, 57, 57, 57],
  [97, 98, 99, 100, 101, 102, 103, 104, 105, 106, 107, 108, 109, 110, 111, 112, 113, 114, 115, 116, 117, 118, 119, 120],
  [97, 98, 99, 100, 101, 102, 103, 104, 105, 106, 107, 108, 109, 110, 111, 112, 113, 114, 115, 116, 117, 118, 119, 120, 121],
  [97, 32, 65], [48, 76], [48, 48, 76], [47, 47], [47], [49, 95], [38, 38, 38], [9]]
def ktD : List (Int × Int) := [(2, 0), (2, 0), (1, 2), (11, 0), (1, 0), (0, 0), (0, 0), (11, 0), (11, 0), (0, 0), (10, 0), (1, 2), (0, 0), (2, 0), (0, 0), (0, 0), (2, 0), (0, 0), (1, 0)]

theorem kt_all : ktT.map (fun l => (lexL l).2) = ktD := by decide +kernel
theorem kt_at (k : Nat) (hk : k < 19) : (lexL (ktT[k]'hk)).2 = ktD[k]'hk := by
  have h := congrArg (fun l => l[k]?) kt_all
  simp only [List.getElem?_map] at h
  rw [List.getElem?_eq_getElem (show k < ktT.length from hk), List.getElem?_eq_getElem (show k < ktD.length from hk)] at h
  exact Option.some.inj h
theorem kt_small : ∀ l ∈ ktT, l.length ≤ 30 := by decide

/-- A text of bytes 0. -/
theorem lex_zero (N : Nat) (h0 : 1 ≤ N) (h1 : N ≤ 1048576) : lexL (List.replicate N 0) = ([], 1, 0) := by
  obtain ⟨m, rfl⟩ : ∃ m, N = m + 1 := ⟨N - 1, by omega⟩
  have hsk : sk false (0 :: List.replicate m (0 : UInt8)) = 0 := by
    rw [sk, if_neg (by decide), if_neg (by simp)]
  have hsc : sc (0 :: List.replicate m (0 : UInt8)) = (tk0, 0, 1) := by
    rw [sc, if_neg (by rw [hd]; decide), if_neg (by rw [hd]; decide), scSign]
    have : sg.find? (fun s => s.isPrefixOf (0 :: List.replicate m (0 : UInt8))) = none := by
      rw [List.find?_eq_none]
      intro x hx
      have : ∀ x ∈ sg, ∃ c r, x = c :: r ∧ c ≠ 0 := by
        intro x hx
        simp only [sg, List.mem_cons, List.not_mem_nil, or_false] at hx
        rcases hx with rfl | rfl | rfl | rfl | rfl | rfl | rfl | rfl | rfl | rfl | rfl | rfl | rfl | rfl | rfl | rfl | rfl | rfl | rfl | rfl | rfl | rfl | rfl | rfl | rfl | rfl | rfl | rfl | rfl | rfl <;> exact ⟨_, _, rfl, by decide⟩
      obtain ⟨c, r, rfl, hc⟩ := this x hx
      simp [List.isPrefixOf, hc]
    rw [this]
  rw [List.replicate_succ, lexL, if_neg (by simp; omega), seqL]
  have hs0 : skAt (0 :: List.replicate m (0 : UInt8)) 0 = 0 := by rw [skAt, List.drop_zero, hsk]
  rw [hs0, seqAt_bad (by simp) (by rw [List.drop_zero, hsc]; decide), List.drop_zero, hsc, res, if_pos (by decide)]
  rfl
theorem lex_long (N : Nat) (h : 1048576 < N) : lexL (List.replicate N 0) = ([], 10, 0) := by
  rw [lexL, if_pos (by rw [List.length_replicate]; exact h)]

theorem zeroInfo : (Tryd.prog.info? tU).map (fun i => (i.zero, i.size, i.bytes)) = some (some (.int .u8 0), 1, 1) := by kernel_rfl

theorem made_at (N j : Nat) (hj : j < N) : (madeCells (Value.int .u8 0).cells (N * 1)).toList[j]? = some (.int .u8 0) := by
  unfold madeCells
  simp [Value.cells, hj, Nat.mod_one]

/-- 'string(make([]byte, N))'. -/
theorem make_zero (N : Nat) (hN : N ≤ 100000000) {ops : Array Oper} {rest : List Oper} {o : Oper} {a : Act} {Q : Exit → Act → World → Prop} (w : World)
    (hg : o.guard = none) (l c : Operand) (hop : o.op = Op.makeSlice 40 l c) (kl kc : IntKind) (L C : Int) (hl : a.eval l = .int kl L) (hc : a.eval c = .int kc C) (hL : L = (N : Int)) (hC : C = (N : Int))
    (hK : ∀ w' zs, Below w.heap.size w w' → zs.data.toList = List.replicate N (0 : UInt8) → zs.size = N → (convert 40 9 (.slice (some ⟨w.heap.size, 0, none⟩) N N)).run Tryd.prog w' = .ok (.string zs) w' → wpList Tryd.prog ops Q rest (a.put o.dst (.slice (some ⟨w.heap.size, 0, none⟩) N N)) w') :
    wpList Tryd.prog ops Q (o :: rest) a w := by
  obtain ⟨i0, hi, hz0, hz1, hz2⟩ := info_parts zeroInfo
  refine wpList_make_full w hg l c _ hop w.heap.size tU i0 (.int .u8 0) 1 Tryd.underlying40 hi hz0 hz1 kl kc L C N hl hc hL hC (by rw [hz2]; omega) (by unfold maxLen; omega) (Nat.le_refl _) ?_
  intro w' hown hgr
  refine hK w' (str (List.replicate N 0)) ((Below.refl _ w).grown hgr (Nat.le_refl _) (fun j e => by cases e)) rfl (by rw [str_size, List.length_replicate]) ?_
  have h := run_convert_bytes_back (P := Tryd.prog) w' 40 9 tU ⟨w.heap.size, 0, none⟩ N (List.replicate N 0) Tryd.underlying40 Tryd.underlying5 Tryd.underlying9 (by
    intro j hj
    have hj2 : j < N := by simpa using hj
    rw [List.getElem_replicate]
    exact hown.cells (g := w.heap.size) rfl j _ (made_at N j hj2))
  rw [List.length_replicate] at h
  exact h

/-- A byte's text. -/
theorem conv_bytes (w : World) (cs : List UInt8) (C : Array Value) (n : Nat) (hn : cs.length = n) (hC : C.toList = cs.map fun c => Value.int .u8 (c.toNat : Int)) :
    (convert 40 9 (.slice (some ⟨w.heap.size, 0, none⟩) n n)).run Tryd.prog (w.alloc (.cells C tU)) = .ok (.string (str cs)) (w.alloc (.cells C tU)) := by
  have h := run_convert_bytes_back (P := Tryd.prog) (w.alloc (.cells C tU)) 40 9 tU ⟨w.heap.size, 0, none⟩ n cs Tryd.underlying40 Tryd.underlying5 Tryd.underlying9 (by
    intro j hj
    rw [Addr.add_mid, Nat.zero_add, (Blk.new w tU C).cell, ← Array.getElem?_toList, hC, List.getElem?_map, List.getElem?_eq_getElem hj]
    rfl)
  rw [hn] at h
  exact h
end Go.Proofs.YtpmljgnnfljjpaaDoor
