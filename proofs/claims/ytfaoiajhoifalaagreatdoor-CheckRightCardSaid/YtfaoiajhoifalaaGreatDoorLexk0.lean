/-
  Lists of tokens in memory.
-/
import Derived.Test.YtfaoiajhoifalaaGreatDoorLexh
import Derived.Deep.Draws
import Derived.Deep.QuietTactic
import Derived.BigQuiet
import Derived.Deep.RegionHeld3
namespace Go.Proofs.YtfaoiajhoifalaaGreatDoor
open Go.RowKit
set_option linter.unusedVariables false
set_option linter.unusedSimpArgs false

/-- The slice's first cells are these tokens; they lie below block B. -/
def RdT (w : World) (B : Nat) (A : Option Addr) (toks : List Tok) : Prop :=
  toks = [] ∨ ∃ g o, A = some ⟨g, o, none⟩ ∧ g < B ∧ ∀ i t, toks[i]? = some t →
    w.cell? ⟨g, o + i * 4, none⟩ = some (.int .i64 t.k) ∧ w.cell? ⟨g, o + i * 4 + 1, none⟩ = some (.int .i64 t.p) ∧ w.cell? ⟨g, o + i * 4 + 2, none⟩ = some (.int .i64 t.n) ∧ w.cell? ⟨g, o + i * 4 + 3, none⟩ = some (.string (str t.s))

theorem RdT.keep {w w' : World} {B : Nat} {A : Option Addr} {toks : List Tok} (h : RdT w B A toks) (hk : ∀ g o, g < B → w'.cell? ⟨g, o, none⟩ = w.cell? ⟨g, o, none⟩) : RdT w' B A toks := by
  rcases h with h | ⟨g, o, e, hg, hc⟩
  · exact .inl h
  · exact .inr ⟨g, o, e, hg, fun i t ht => by obtain ⟨h0, h1, h2, h3⟩ := hc i t ht; exact ⟨(hk _ _ hg).trans h0, (hk _ _ hg).trans h1, (hk _ _ hg).trans h2, (hk _ _ hg).trans h3⟩⟩
theorem RdT.below {w w' : World} {B : Nat} {A : Option Addr} {toks : List Tok} (h : RdT w B A toks) (hb : Below B w w') : RdT w' B A toks := h.keep fun g o hg => hb.cell (p := ⟨g, o, none⟩) hg
theorem RdT.more {w : World} {B B' : Nat} {A : Option Addr} {toks : List Tok} (h : RdT w B A toks) (hB : B ≤ B') : RdT w B' A toks := by
  rcases h with h | ⟨g, o, e, hg, hc⟩
  · exact .inl h
  · exact .inr ⟨g, o, e, by omega, hc⟩
theorem RdT.drewN {w : World} {B : Nat} {A : Option Addr} {toks : List Tok} (h : RdT w B A toks) (n : Nat) : RdT (w.drewN n) B A toks := h
theorem RdT.at_ {w : World} {B : Nat} {A : Option Addr} {toks : List Tok} (h : RdT w B A toks) {i : Nat} (hi : i < toks.length) : ∃ g o, A = some ⟨g, o, none⟩ ∧ g < B ∧
    w.cell? ⟨g, o + i * 4, none⟩ = some (.int .i64 (toks[i]).k) ∧ w.cell? ⟨g, o + i * 4 + 1, none⟩ = some (.int .i64 (toks[i]).p) ∧ w.cell? ⟨g, o + i * 4 + 2, none⟩ = some (.int .i64 (toks[i]).n) ∧ w.cell? ⟨g, o + i * 4 + 3, none⟩ = some (.string (str (toks[i]).s)) := by
  rcases h with rfl | ⟨g, o, e, hg, hc⟩
  · simp at hi
  · exact ⟨g, o, e, hg, hc i _ (List.getElem?_eq_getElem hi)⟩

theorem cellsT_at (toks : List Tok) (i j : Nat) (hj : j < 4) : (cellsT toks)[i * 4 + j]? = (toks[i]?).bind fun t => (cells1 t)[j]? := by
  induction toks generalizing i with
  | nil => simp [cellsT]
  | cons t l ih =>
    have e : cellsT (t :: l) = cells1 t ++ cellsT l := by simp [cellsT]
    rw [e]
    cases i with
    | zero => rw [List.getElem?_append_left (by simp [cells1]; omega)]; simp
    | succ i =>
      rw [List.getElem?_append_right (by simp [cells1]; omega)]
      have : (i + 1) * 4 + j - (cells1 t).length = i * 4 + j := by simp [cells1]; omega
      rw [this, ih]
      simp

theorem RdT.of_own {w : World} {base : Nat} {toks : List Tok} {A : Option Addr} {n c : Nat} (h : w.ownsRow base tE 4 (.slice A n c) n (cellsT toks)) (hn : toks.length = n) : RdT w w.heap.size A toks ∧ n ≤ c ∧ c ≤ maxLen := by
  rcases h.2 with ⟨hv, h0⟩ | ⟨g, cap, cur, hv, _, hh, hnc, hcm, hsz, hcur⟩
  · have : toks = [] := List.eq_nil_of_length_eq_zero (by omega)
    simp only [Value.slice.injEq] at hv
    exact ⟨.inl this, by omega, by unfold maxLen; omega⟩
  · simp only [Value.slice.injEq] at hv
    obtain ⟨rfl, _, rfl⟩ := hv
    refine ⟨.inr ⟨g, 0, rfl, (Array.getElem?_eq_some_iff.1 hh).1, fun i t ht => ?_⟩, hnc, hcm⟩
    have hi : i < toks.length := (List.getElem?_eq_some_iff.1 ht).1
    have key : ∀ j, j < 4 → w.cell? ⟨g, 0 + i * 4 + j, none⟩ = (cells1 t)[j]? := by
      intro j hj
      rw [cell_of_row w g _ cur tE (0, 0) hh]
      have e1 := cellsT_at toks i j hj
      rw [ht] at e1
      simp only [Option.bind_some] at e1
      rw [← e1, ← hcur, List.getElem?_take_of_lt (by omega), Array.getElem?_toList]
      congr 1
      omega
    exact ⟨key 0 (by omega), key 1 (by omega), key 2 (by omega), key 3 (by omega)⟩

/-- 'out = append(out, t)': the block of the new token is laid; out is the call's own. -/
theorem app_law {ops : Array Oper} {rest : List Oper} {op : Oper} {a : Act} {Q : Exit → Act → World → Prop} (w0 W : World) (H : Nat) (hH : W.heap.size = H) (v : Value) (n : Nat) (toks : List Tok) (t : Tok) (s x : Operand)
    (hgd : op.guard = none) (ho : op.op = .call { callee := .builtin .append, args := #[s, x], argTypes := #[tL, tL] }) (hs : a.eval s = v) (hx : a.eval x = .slice (some ⟨H, 0, none⟩) 1 1)
    (hrow : W.ownsRow w0.heap.size tE 4 v n (cellsT toks)) (hb : Below w0.heap.size w0 W) (hn : n ≤ 2000000)
    (h : ∀ v' w1, w1.ownsRow w0.heap.size tE 4 v' (n + 1) (cellsT (toks ++ [t])) → Below w0.heap.size w0 w1 → (W.alloc (.cells #[.int .i64 t.k, .int .i64 t.p, .int .i64 t.n, .string (str t.s)] tE)).grownBy w1 v.ownBlock → (∃ g cap, v' = .slice (some ⟨g, 0, none⟩) (n + 1) cap) → wpList Tryz.prog ops Q rest (a.put op.dst v') w1) :
    wpList Tryz.prog ops Q (op :: rest) a (W.alloc (.cells #[.int .i64 t.k, .int .i64 t.p, .int .i64 t.n, .string (str t.s)] tE)) := by
  subst hH
  obtain ⟨i0, hi, hz0, hz1, hz2⟩ := info_parts infoT
  have hnews : ∀ j u, (cells1 t)[j]? = some u → (W.alloc (.cells #[.int .i64 t.k, .int .i64 t.p, .int .i64 t.n, .string (str t.s)] tE)).cell? ((⟨W.heap.size, 0, none⟩ : Addr).add j) = some u :=
    World.news_of_block (cs := #[.int .i64 t.k, .int .i64 t.p, .int .i64 t.n, .string (str t.s)]) (heap_alloc_new W _)
  have h1c : ∀ u ∈ cells1 t, u.oneCell' = true := by simp [cells1, Value.oneCell']
  refine wpList_append_own _ hgd s x tL ho w0.heap.size tE i0 (.agg #[.int .i64 0, .int .i64 0, .int .i64 0, .string ⟨#[]⟩]) 4 40 Tryz.underlying51 hi hz0 hz1 hz2 rfl (by decide) v n _ hs (hrow.alloc _) ⟨W.heap.size, 0, none⟩ 1 1 (cells1 t) hx rfl hnews h1c (by unfold maxLen; omega) (by omega) (by have := hb.size; simp; omega) ?_
  intro v' w1 hown hgrow _
  refine h v' w1 (by rw [cellsT_snoc]; exact hown) (hb.trans (((Below.refl _ W).alloc hb.size _).grown hgrow (by have := hb.size; simp; omega) (fun j ej => ?_))) hgrow (ownsRow_succ hown)
  rcases hrow.2 with ⟨rfl, _⟩ | ⟨g, cap, cur, rfl, hbg, _, _⟩
  · simp [Value.ownBlock] at ej
  · obtain rfl : g = j := by simpa [Value.ownBlock] using ej
    exact hbg

/-- A slice of tokens in new memory. -/
def OwnPost (w : World) (toks : List Tok) (e : Ending) (w' : World) : Prop :=
  ∃ v, e = .returned v ∧ w'.ownsRow w.heap.size tE 4 v toks.length (cellsT toks) ∧ Below w.heap.size w w'

theorem RdT.take {w : World} {B : Nat} {A : Option Addr} {l m : List Tok} (h : RdT w B A (l ++ m)) : RdT w B A l := by
  rcases h with h | ⟨g, o, e, hg, hc⟩
  · exact .inl (List.append_eq_nil_iff.1 h).1
  · exact .inr ⟨g, o, e, hg, fun i t ht => hc i t (by rw [List.getElem?_append_left (List.getElem?_eq_some_iff.1 ht).1]; exact ht)⟩
theorem RdT.drop {w : World} {B : Nat} {A : Option Addr} {l m : List Tok} (h : RdT w B A (l ++ m)) : RdT w B (A.map (·.add (l.length * 4))) m := by
  rcases h with h | ⟨g, o, rfl, hg, hc⟩
  · exact .inl (List.append_eq_nil_iff.1 h).2
  · refine .inr ⟨g, o + l.length * 4, ?_, hg, fun i t ht => ?_⟩
    · simp only [Option.map_some, Addr.add]
      split <;> simp_all
    · have := hc (l.length + i) t (by rw [List.getElem?_append_right (by omega)]; simpa using ht)
      rw [show o + l.length * 4 + i * 4 = o + (l.length + i) * 4 by omega]
      exact this

theorem grown_trans {a b c : World} {row : Option Nat} (h : a.grownBy b row) (k : b.grownBy c row) : a.grownBy c row :=
  ⟨k.os.trans h.os, k.tape.trans h.tape, k.output.trans h.output, Nat.le_trans h.size k.size, fun i hi hr => (k.block i (Nat.lt_of_lt_of_le hi h.size) hr).trans (h.block i hi hr)⟩

def bareL (l : List Tok) : List Tok := l.map fun t => t.to 0

end Go.Proofs.YtfaoiajhoifalaaGreatDoor
