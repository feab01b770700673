/-
  The kit's small functions over lists of numbers: CopyInts.
-/
import Derived.Test.YtgcjfbgfoiekmaaIo2
namespace Go.Proofs.Ytgcjfbgfoiekmaa
open Go Go.RowKit Go.Maps
set_option linter.unusedVariables false
set_option linter.unusedSimpArgs false

set_option maxHeartbeats 2000000 in
set_option maxRecDepth 100000 in
theorem copyI_any (l : List Int) (hl : l.length ≤ 1400000) (va : Value) (w : World) (h1 : RdV w w.heap.size va l) :
    Calls Try.prog 13 #[va] w fun e w' => ∃ v, e = .returned v ∧ w'.ownsRow w.heap.size tI1 1 v l.length (l.map (Value.int .i64)) ∧ Below w.heap.size w w' := by
  obtain ⟨A, c, rfl, hlc, hcm, -⟩ := h1.sl
  obtain ⟨n, hn⟩ : ∃ n, l.length = n := ⟨_, rfl⟩
  rw [hn] at hlc h1 hl ⊢
  unfold maxLen at hcm
  have H1 := Lib.hid h1
  have HN := Lib.hid hn
  clear h1 hn
  go_enter Try.func13, Try.ntmps13
  go_wp2
  go_loopw [3, 4] (fun v3 v wr => ∃ k : Nat, k ≤ n ∧ v = .int .i64 k ∧ wr.ownsRow w.heap.size tI1 1 v3 k ((l.take k).map (Value.int .i64)) ∧ Below w.heap.size w wr) (fun _ v _ => n - (intOf v).toNat)
  case atStart => exact ⟨0, by omega, rfl, World.ownsRow_nil _ _ _ _, Below.refl _ _⟩
  case round =>
    obtain ⟨k, hk, rfl, hrow, hb⟩ := hrel
    by_cases hlt : k < n
    · obtain ⟨g, o, x, rfl, hg, hx, hc1⟩ := H1.out.at hlt
      have hc2 : wr.cell? ⟨g, o + k, none⟩ = some (.int .i64 x) := (hb.cell (p := ⟨g, o + k, none⟩) hg).trans hc1
      have HT : Hid ((l.take (k + 1)).map (Value.int .i64) = (l.take k).map (Value.int .i64) ++ [.int .i64 x]) := Lib.hid (by
        obtain ⟨hkl, rfl⟩ := List.getElem?_eq_some_iff.1 hx
        rw [List.take_succ_eq_append_getElem hkl, List.map_append]
        rfl)
      have hgw : g < wr.heap.size := by have := hb.size; omega
      clear hx hc1
      go_wp2_with (at_builtin; refine appI w.heap.size w wr _ rfl _ k _ x _ _ rfl rfl rfl rfl hrow hb (Nat.le_refl _) (by omega) ?_; intro v' w1 hr1 hb1 hsh)
      go_roundw
      case rel => exact ⟨k + 1, by omega, by go_num, by rw [HT.out]; assumption, by assumption⟩
      case measure => simp [intOf]; omega
    · obtain rfl : k = n := by omega
      have e9 : l.take k = l := by rw [← HN.out, List.take_length]
      rw [e9] at hrow
      go_wp2
      go_ret
      exact ⟨_, rfl, hrow, hb⟩
end Go.Proofs.Ytgcjfbgfoiekmaa
