/-
  The kit's small functions over lists of numbers: SameInts; append of one.
-/
import Derived.Test.YtgcjfbgfoiekmaaIo
namespace Go.Proofs.Ytgcjfbgfoiekmaa
open Go Go.RowKit Go.Maps
set_option linter.unusedVariables false
set_option linter.unusedSimpArgs false

set_option maxHeartbeats 2000000 in
set_option maxRecDepth 100000 in
theorem sameI_any (l : List Int) (va vb : Value) (B B' : Nat) (w : World) (h1 : RdV w B va l) (h2 : RdV w B' vb l) :
    Calls Try.prog 11 #[va, vb] w fun e w' => e = .returned (.bool true) ∧ ∃ d, w' = w.drewN d := by
  obtain ⟨A, c, rfl, hlc, hcm, -⟩ := h1.sl
  obtain ⟨A', c', rfl, hlc', hcm', -⟩ := h2.sl
  obtain ⟨n, hn⟩ : ∃ n, l.length = n := ⟨_, rfl⟩
  rw [hn] at hlc hlc' h1 h2 ⊢
  unfold maxLen at hcm hcm'
  have H1 := Lib.hid h1
  have H2 := Lib.hid h2
  clear h1 h2 hn
  go_enter Try.func11, Try.ntmps11
  go_wp2
  go_loopw [5] (fun v wr => ∃ k : Nat, k ≤ n ∧ v = .int .i64 k ∧ ∃ d, wr = w.drewN d) (fun v _ => n - (intOf v).toNat)
  case atStart => exact ⟨0, by omega, rfl, 0, rfl⟩
  case round =>
    obtain ⟨k, hk, rfl, d, rfl⟩ := hrel
    by_cases hlt : k < n
    · obtain ⟨g, o, x, rfl, hg, hx, hc1⟩ := H1.out.at hlt
      obtain ⟨g', o', x', rfl, hg', hx', hc2⟩ := H2.out.at hlt
      obtain rfl : x = x' := by rw [hx] at hx'; exact Option.some.inj hx'
      clear hx hx'
      go_wp2
      go_quiet (fail)
      go_wp2
      go_roundw
      case rel => exact ⟨k + 1, by omega, by go_num, _, rfl⟩
      case measure => simp [intOf]; omega
    · go_wp2
      go_ret
      exact ⟨rfl, d, rfl⟩

theorem appI {ops : Array Oper} {rest : List Oper} {op : Oper} {a : Act} {Q : Exit → Act → World → Prop}
    (B : Nat) (w0 W : World) (H : Nat) (hH : W.heap.size = H) (v : Value) (n : Nat) (xs : List Value) (x : Int) (s y : Operand)
    (hgd : op.guard = none) (ho : op.op = .call { callee := .builtin .append, args := #[s, y], argTypes := #[26, 26] }) (hs : a.eval s = v) (hy : a.eval y = .slice (some ⟨H, 0, none⟩) 1 1)
    (hrow : W.ownsRow B tI1 1 v n xs) (hb : Below B w0 W) (hB : B ≤ w0.heap.size) (hn : n ≤ 1400000)
    (h : ∀ v' w1, w1.ownsRow B tI1 1 v' (n + 1) (xs ++ [.int .i64 x]) → Below B w0 w1 → (∃ g cap, v' = .slice (some ⟨g, 0, none⟩) (n + 1) cap) → wpList Try.prog ops Q rest (a.put op.dst v') w1) :
    wpList Try.prog ops Q (op :: rest) a (W.alloc (.cells #[.int .i64 x] tI1)) := by
  subst hH
  obtain ⟨i0, hi, hz0, hz1, hz2⟩ := info_parts intInfo
  have hBW : B ≤ W.heap.size := Nat.le_trans hB hb.size
  have hnews : ∀ j u, (#[Value.int .i64 x]).toList[j]? = some u → (W.alloc (.cells #[.int .i64 x] tI1)).cell? ((⟨W.heap.size, 0, none⟩ : Addr).add j) = some u :=
    World.news_of_block (cs := #[.int .i64 x]) (heap_alloc_new W _)
  refine wpList_append_own _ hgd s y 26 ho B tI1 i0 (.int .i64 0) 1 8 Try.underlying26 hi hz0 hz1 hz2 rfl (by omega) v n _ hs (hrow.alloc _) ⟨W.heap.size, 0, none⟩ 1 1 [.int .i64 x] hy (by simp) hnews (by simp [Value.oneCell']) (by unfold maxLen; omega) ?_ (by simp; omega) ?_
  · omega
  · intro v' w1 hown hgrow _
    refine h v' w1 hown (hb.trans (((Below.refl _ W).alloc hBW _).grown hgrow (by simp; omega) (fun j ej => ?_))) (ownsRow_succ hown)
    rcases hrow.2 with ⟨rfl, _⟩ | ⟨g, cap, cur, rfl, hbg, _, _⟩
    · simp [Value.ownBlock] at ej
    · obtain rfl : g = j := by simpa [Value.ownBlock] using ej
      exact hbg

end Go.Proofs.Ytgcjfbgfoiekmaa
