/-
  Layer dom: walks of the library's functions over lists of numbers: slices.Clone, slices.Reverse, slices.Repeat.
-/
import Derived.Test.YtjmlpbnejcfnhaaDmd
import Derived.Test.YtjmlpbnejcfnhaaShelf
import Derived.Lib.SliceRun
import Derived.Laws.CopyRow
import Derived.Laws.IdiomCopy
namespace Go.Proofs.Ytjmlpbnejcfnhaa
open Go Go.RowKit Go.Maps
set_option linter.unusedVariables false
set_option linter.unusedSimpArgs false

set_option maxHeartbeats 1000000 in
set_option maxRecDepth 100000 in
theorem iclone_any {w : World} {v : Value} {l : List Int} (h : RdV w w.heap.size v l) (h0 : 0 < l.length) (hn : l.length ≤ 1000000) :
    Calls Try.prog 50 #[v] w fun e w' => ∃ v' b, e = .returned v' ∧ w.heap.size ≤ b ∧ RwI w' b v' l ∧ Below w.heap.size w w' := by
  obtain ⟨i0, hi, hz0, hz1, hz2⟩ := info_parts intInfo
  have q22 : ∀ (w : World) (a : Option Addr) (n c n' c' : Nat), (binOp .eql 31 (.slice a n c) (.slice none n' c')).run Try.prog w = .ok (.bool a.isNone) w := fun w a n c n' c' => Lib.run_eql_slice_nil w _ _ a n c n' c' Try.underlying31
  obtain ⟨A, c, rfl, hlc, hcm, hA, hx⟩ := h
  rcases hx with rfl | ⟨b, o, rfl, hg, hc⟩
  · simp at h0
  obtain ⟨n, hn'⟩ : ∃ n, l.length = n := ⟨_, rfl⟩
  rw [hn'] at hn h0 hlc ⊢
  obtain ⟨xs, hxs⟩ : ∃ xs, l.map (Value.int .i64) = xs := ⟨_, rfl⟩
  have hl : xs.length = n * 1 := by rw [← hxs, List.length_map, hn']; omega
  have h1 : ∀ u ∈ xs, u.oneCell' = true := by
    intro u hu
    rw [← hxs] at hu
    obtain ⟨x, -, rfl⟩ := List.mem_map.1 hu
    rfl
  have hcx : ∀ (j : Nat) (u : Value), xs[j]? = some u → b < w.heap.size ∧ w.cell? ⟨b, o + j, none⟩ = some u := by
    intro j u hj
    rw [← hxs, List.getElem?_map] at hj
    rcases hl : l[j]? with _ | x
    · rw [hl] at hj; cases hj
    · rw [hl] at hj
      obtain rfl := Option.some.inj hj
      have : w.cell? ⟨b, o + j * 1 + 0, none⟩ = _ := hc j x hl
      rw [show o + j * 1 + 0 = o + j by omega] at this
      exact ⟨hg, this⟩
  have HC := Lib.hid hcx
  have HX := Lib.hid (And.intro hn' hxs)
  clear hc hg hn' hA hxs hcx
  go_enter Try.func50, Try.ntmps50
  go_wp2_with (at_builtin; refine wpList_append_own _ rfl _ _ 31 rfl w.heap.size 3 i0 _ 1 8 Try.underlying31 hi hz0 hz1 hz2 rfl (by omega) _ _ _ rfl (World.ownsRow_made w #[] 0 (Nat.le_refl _) (Nat.zero_le _) (by simp)) ⟨b, o, none⟩ n c xs rfl ?qc1 ?qc2 ?qc3 ?qc4 ?qc5 ?qc6 ?_)
  case qc1 => exact hl
  case qc2 =>
    intro j u hj
    rw [Addr.add_lit]
    exact (((Below.refl _ w).alloc (Nat.le_refl _) _).cell (p := ⟨b, _, none⟩) (HC.out j u hj).1).trans (HC.out j u hj).2
  case qc3 => exact h1
  case qc4 => rw [Nat.zero_add]; unfold maxLen; omega
  case qc5 => rw [Nat.zero_add]; omega
  case qc6 => simp
  intro v' w1 hown hgrow hnil
  have HF := Lib.hid (And.intro hown (And.intro hgrow hnil))
  clear hown hgrow hnil
  go_wp2_with fail
  go_ret
  obtain ⟨hown, hgrow, hnil⟩ := HF.out
  obtain ⟨g, hg, hrw⟩ := RwI.of_row (l := l) (n := n) (by rw [HX.out.2]; simpa using hown) HX.out.1.symm h0
  exact ⟨v', g, rfl, hg, hrw, ((Below.refl _ w).alloc (Nat.le_refl _) _).grown hgrow (by simp) (by intro k hk; simp [Value.ownBlock] at hk; omega)⟩

/-- k numbers at each end have changed their places. -/
def FlipI (l : List Int) (n k : Nat) (c : List Int) : Prop := c.length = n ∧ ∀ t, t < n → c[t]? = if t < k ∨ n - k ≤ t then l.reverse[t]? else l[t]?
theorem FlipI.start (l : List Int) : FlipI l l.length 0 l := ⟨rfl, fun t ht => by rw [if_neg (by omega)]⟩
theorem FlipI.done {l c : List Int} {n k : Nat} (hn : l.length = n) (h : FlipI l n k c) (hk : n ≤ 2 * k + 1) : c = l.reverse := by
  apply List.ext_getElem?
  intro t
  by_cases ht : t < n
  · rw [h.2 t ht]
    split
    · rfl
    · rw [List.getElem?_reverse (by omega), hn]
      congr 1
      omega
  · rw [List.getElem?_eq_none (by rw [h.1]; omega), List.getElem?_eq_none (by rw [List.length_reverse]; omega)]
theorem FlipI.next {l c : List Int} {n k j : Nat} {p q : Int} (hn : l.length = n) (h : FlipI l n k c) (hj : k + j + 1 = n) (hkj : k < j) (hp : c[k]? = some p) (hq : c[j]? = some q) : FlipI l n (k + 1) ((c.set k q).set j p) := by
  refine ⟨by simpa using h.1, fun t ht => ?_⟩
  have hcl := h.1
  have hk1 := h.2 k (by omega)
  have hj1 := h.2 j (by omega)
  rw [if_neg (by omega), hp] at hk1
  rw [if_neg (by omega), hq] at hj1
  rw [List.getElem?_set]
  split
  · rename_i e
    subst e
    rw [if_pos (by simp; omega), if_pos (by omega), List.getElem?_reverse (by omega), hn, show n - 1 - j = k by omega, hk1]
  · rw [List.getElem?_set]
    split
    · rename_i e
      subst e
      rw [if_pos (by omega), if_pos (by omega), List.getElem?_reverse (by omega), hn, show n - 1 - k = j by omega, hj1]
    · rw [h.2 t ht]
      by_cases hc : t < k ∨ n - k ≤ t
      · rw [if_pos hc, if_pos (by omega)]
      · rw [if_neg hc, if_neg (by omega)]
/-- Only block b may have turned. -/
abbrev Oby (b : Nat) (w w' : World) : Prop := Fr w.heap.size (fun k => k = b) w w'
set_option maxHeartbeats 4000000 in
set_option maxRecDepth 100000 in
theorem ireverse_any {l : List Int} {b : Nat} {v : Value} {w : World} (hb : RwI w b v l) (hn2 : l.length ≤ 1000000) :
    Calls Try.prog 48 #[v] w fun e w' => e = .returned (.tuple #[]) ∧ RwI w' b v l.reverse ∧ Oby b w w' := by
  obtain ⟨cap, rfl, hlc, hcm⟩ := hb.sl
  obtain ⟨n, hn⟩ : ∃ n, l.length = n := ⟨_, rfl⟩
  have hbl := hb.lt
  unfold maxLen at hcm
  rw [hn] at hb hn2 hlc ⊢
  have HN := Lib.hid hn
  have HB := Lib.hid hb
  clear hn hb
  go_enter Try.func48, Try.ntmps48
  go_wp2_with fail
  go_loopw [2, 3] (fun x y wr => ∃ (k : Nat) (c : List Int), (k = 0 ∨ 2 * k ≤ n) ∧ x = .int .i64 k ∧ y = .int .i64 ((n : Int) - 1 - k) ∧ FlipI l n k c ∧ RwI wr b (.slice (some ⟨b, 0, none⟩) n cap) c ∧ Oby b w wr) (fun x _ _ => n - (intOf x).toNat)
  case atStart => exact ⟨0, l, by omega, rfl, by simp, by have := FlipI.start l; rwa [HN.out] at this, HB.out, Fr.refl _⟩
  case round =>
    obtain ⟨k, c, hk, rfl, rfl, hF, hZ, hO⟩ := hrel
    have HF := Lib.hid hF
    have HZ := Lib.hid hZ
    have HO := Lib.hid hO
    clear hF hZ hO
    by_cases hlt : (k : Int) < (n : Int) - 1 - k
    · obtain ⟨j, hj⟩ : ∃ j : Nat, (n : Int) - 1 - k = j := ⟨n - 1 - k, by omega⟩
      have hjn : k + j + 1 = n := by omega
      have hkj : k < j := by omega
      rw [hj]
      rw [hj] at hlt
      have hck : k < c.length := by rw [HF.out.1]; omega
      have hcj : j < c.length := by rw [HF.out.1]; omega
      have hp := List.getElem?_eq_getElem hck
      have hq := List.getElem?_eq_getElem hcj
      generalize c[k] = p at hp
      generalize c[j] = q at hq
      have p0 := HZ.out.cell hp
      have q0 := HZ.out.cell hq
      have pf0 := HZ.out.frozen k
      have qf0 := HZ.out.frozen j
      have pl := HZ.out.lt
      have HU := Lib.hid (And.intro hp hq)
      have hjn2 : j < n := by omega
      have hkn2 : k < n := by omega
      have hne : k ≠ j := by omega
      have HJ := Lib.hid hj
      have HJN := Lib.hid (And.intro hjn hkj)
      clear hck hcj hp hq hjn hj
      go_wp2_with fail
      go_region
      all_goals
        obtain ⟨hp, hq⟩ := HU.out
        have hZ2 := (HZ.out.set (i := k) (by rw [HF.out.1]; exact hkn2) q).set (i := j) (by rw [List.length_set, HF.out.1]; exact hjn2) p
        have hO2 : Oby b w ((wr.setCell ⟨b, k, none⟩ (.int .i64 q)).setCell ⟨b, j, none⟩ (.int .i64 p)) := (HO.out.trans (Fr.set (p := ⟨b, k, none⟩) (.inl rfl))).trans (Fr.set (p := ⟨b, j, none⟩) (.inl rfl))
        have hF2 := HF.out.next HN.out HJN.out.1 HJN.out.2 hp hq
        have HX2 := Lib.hid (And.intro hZ2 (And.intro hO2 hF2))
        clear hp hq hZ2 hO2 hF2
        go_wp2_with fail
        go_roundw
        case rel => exact ⟨k + 1, (c.set k q).set j p, by have := HJN.out; omega, by go_num, by have := HJ.out; congr 1; omega, HX2.out.2.2, HX2.out.1, ⟨HX2.out.2.1.os, HX2.out.2.1.tape, HX2.out.2.1.output, HX2.out.2.1.size, HX2.out.2.1.block⟩⟩
        case measure => simp [intOf]; omega
    · have hd : decide ((k : Int) < (n : Int) - 1 - k) = false := by simpa using hlt
      have hfin := HF.out.done HN.out (by omega)
      have HD := Lib.hid hfin
      clear hfin
      go_wp2_with fail
      go_end0
      exact ⟨rfl, by rw [← HD.out]; exact HZ.out, HO.out⟩
end Go.Proofs.Ytjmlpbnejcfnhaa
