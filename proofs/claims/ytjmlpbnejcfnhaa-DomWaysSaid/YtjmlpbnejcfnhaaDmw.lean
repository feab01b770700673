/-
  Layer dom: walk of redirect.
-/
import Derived.Test.YtjmlpbnejcfnhaaDmv
namespace Go.Proofs.Ytjmlpbnejcfnhaa
open Go Go.RowKit Go.Maps
set_option linter.unusedVariables false
set_option linter.unusedSimpArgs false

theorem RwE.fr {w w' : World} {b R : Nat} {v : Value} {l : List Eb} {S : Nat → Prop} (h : RwE w b v l) (hf : Fr R S w w') (hb : b < R) (hs : ¬ S b) : RwE w' b v l := h.keep (hf.block b hb hs)
theorem RwE.drewN {w : World} {b : Nat} {v : Value} {l : List Eb} (h : RwE w b v l) (d : Nat) : RwE (w.drewN d) b v l := h
theorem RwE.one {w : World} {b : Nat} {v : Value} {l : List Eb} (h : RwE w b v l) {i j : Nat} {e e' : Eb} (hi : l[i]? = some e) (hj : j < 4) {x : Int} (hc : ((endC e).set j (.int .i64 x)) = endC e') : RwE (w.setCell ⟨b, i * 4 + j, none⟩ (.int .i64 x)) b v (l.set i e') := by
  obtain ⟨cap, ex, h1, h2, h3, h⟩ := h
  refine ⟨cap, ex, by rw [List.length_set]; exact h1, by rw [List.length_set]; exact h2, h3, ?_⟩
  have hk := h.set_ (i * 4 + j) (.int .i64 x)
  rw [List.setIfInBounds_toArray] at hk
  have hil : i < l.length := (List.getElem?_eq_some_iff.1 hi).1
  have hl := endsC_len l
  have hl2 := endsC_len (l.set i e')
  rw [List.length_set] at hl2
  have e1 : (endsC l ++ ex).set (i * 4 + j) (.int .i64 x) = endsC (l.set i e') ++ ex := by
    rw [List.set_append_left _ _ (by omega)]
    congr 1
    apply List.ext_getElem?
    intro n
    by_cases hn : n < l.length * 4
    · have hq : n / 4 < l.length := by omega
      have hdm : n / 4 * 4 + n % 4 = n := by omega
      by_cases hqi : n / 4 = i
      · have g2 := endsC_at (l.set i e') i (n % 4) e' (by rw [List.getElem?_set_self hil]) (by omega)
        have g1 := endsC_at l i (n % 4) e hi (by omega)
        have hin : i * 4 + n % 4 = n := by omega
        rw [hin] at g1 g2
        rw [g2, ← hc]
        by_cases hnj : n % 4 = j
        · have en : i * 4 + j = n := by omega
          rw [en, List.getElem?_set_self (by omega), hnj, List.getElem?_set_self (by simp [endC]; omega)]
        · rw [List.getElem?_set_ne (by omega), List.getElem?_set_ne (by omega), g1]
      · obtain ⟨y, hy⟩ : ∃ y, l[n / 4]? = some y := ⟨_, List.getElem?_eq_getElem hq⟩
        have g1 := endsC_at l (n / 4) (n % 4) y hy (by omega)
        have g2 := endsC_at (l.set i e') (n / 4) (n % 4) y (by rw [List.getElem?_set_ne (fun e => hqi e.symm)]; exact hy) (by omega)
        rw [hdm] at g1 g2
        rw [g2, List.getElem?_set_ne (by omega), g1]
    · rw [List.getElem?_eq_none (by rw [List.length_set]; omega), List.getElem?_eq_none (by omega)]
  rw [e1] at hk
  exact hk
def red1 (e : Eb) (old nw : Int) : Eb := ⟨e.k, e.a, if e.to = old then nw else e.to, e.el⟩
abbrev tPi : TypeId := 81
set_option maxHeartbeats 4000000 in
set_option maxRecDepth 100000 in
theorem redirect_any {w : World} {es : List Eb} {b : Nat} {ev : Value} (h : RwE w b ev es) {i : Nat} {e : Eb} (hi : es[i]? = some e) (old nw : Int) :
    Calls Try.prog 28 #[.pointer (some ⟨b, i * 4, none⟩), .int .i64 old, .int .i64 nw] w fun r w' => r = .returned (.tuple #[]) ∧ RwE w' b ev (es.set i (redir e old nw)) ∧ Fr w.heap.size (fun j => j = b) w w' := by
  have HE := Lib.hid (And.intro h hi)
  clear h hi
  go_enter Try.func28, Try.ntmps28
  go_upto_region 0 with (fail)
  go_region
  obtain ⟨H, hH⟩ : ∃ x, x = w.heap.size := ⟨_, rfl⟩
  obtain ⟨W1, hW1⟩ : ∃ x, x = (w.alloc (.cells #[.pointer (some ⟨b, i * 4 + 2, none⟩), .pointer (some ⟨b, i * 4 + 3, none⟩)] tPi)).drew := ⟨_, rfl⟩
  rw [← hW1, ← hH]
  have hl1 : Blk W1 H tPi #[.pointer (some ⟨b, i * 4 + 2, none⟩), .pointer (some ⟨b, i * 4 + 3, none⟩)] := by rw [hW1, hH]; exact Blk.new w tPi _
  have hb1 : Below w.heap.size w W1 := by rw [hW1]; exact ((Below.refl _ w).alloc (Nat.le_refl _) _).trans (below_drewN _ _ 1)
  have hil : i < es.length := (List.getElem?_eq_some_iff.1 HE.out.2).1
  have hbH : b < H := by rw [hH]; exact HE.out.1.lt
  have hr1 : RwE W1 b ev (es.set i e) := by
    have h9 : es.set i e = es := by
      apply List.ext_getElem?
      intro j
      by_cases e1 : i = j
      · subst e1; rw [List.getElem?_set_self hil, HE.out.2]
      · rw [List.getElem?_set_ne e1]
    rw [h9]
    exact HE.out.1.on hb1
  have HS := Lib.hid (And.intro hr1 (And.intro (Fr.of (S := fun j => j = b) hb1 (Nat.le_refl _)) hl1))
  have HHH := Lib.hid hH
  clear hr1 hb1 hl1 hW1 hH
  go_wp2_with fail
  go_loopw [16] (fun v wr => ∃ (m : Nat) (ex : Eb), ((m = 0 ∧ ex = e) ∨ (m = 1 ∧ ex = red1 e old nw) ∨ (m = 2 ∧ ex = redir e old nw)) ∧ v = .int .i64 (m : Nat) ∧ RwE wr b ev (es.set i ex) ∧ Fr w.heap.size (fun j => j = b) w wr ∧ Blk wr H tPi #[.pointer (some ⟨b, i * 4 + 2, none⟩), .pointer (some ⟨b, i * 4 + 3, none⟩)]) (fun v _ => 2 - (intOf v).toNat)
  case atStart => exact ⟨0, e, by simp, rfl, HS.out.1, HS.out.2.1, HS.out.2.2⟩
  case round =>
    obtain ⟨m, ex, hm, rfl, hrw, hfr, hlo⟩ := hrel
    obtain ⟨wo, hwo⟩ : ∃ x, x = wr := ⟨_, rfl⟩
    subst hwo
    rcases hm with ⟨rfl, hex⟩ | ⟨rfl, hex⟩ | ⟨rfl, hex⟩ <;> rw [hex] at hrw
    · -- round 0
      have hrw' := hrw
      obtain ⟨c0, c1, c2, c3⟩ := hrw.cells (i := i) (e := e) (by rw [List.getElem?_set_self hil])
      have fz := hrw.frozen (i * 4 + 2)
      have le := hrw.lt
      have p0 : wo.cell? ⟨H, 0, none⟩ = some (.pointer (some ⟨b, i * 4 + 2, none⟩)) := hlo.cell 0
      have lH := hlo.lt
      by_cases hq : e.to = old
      · have hst : RwE (wo.setCell ⟨b, i * 4 + 2, none⟩ (.int .i64 nw)) b ev (es.set i (red1 e old nw)) := by
          have h9 := hrw.one (i := i) (j := 2) (e := e) (e' := (red1 e old nw)) (by rw [List.getElem?_set_self hil]) (by omega) (x := nw) (by unfold red1; rw [if_pos hq]; rfl)
          rw [List.set_set] at h9
          exact h9
        have hfr9 : Fr w.heap.size (fun j => j = b) w (wo.setCell ⟨b, i * 4 + 2, none⟩ (.int .i64 nw)) := hfr.trans (Fr.set (p := ⟨b, i * 4 + 2, none⟩) (.inl rfl))
        have hlo9 := hlo.far (p := ⟨b, i * 4 + 2, none⟩) (by show H ≠ b; omega) (.int .i64 nw)
        have H9 := Lib.hid (And.intro hst (And.intro hfr9 hlo9))
        clear hst hfr9 hlo9 hrw hrw' hfr hlo
        go_wp2_with fail
        go_roundw
        case rel => exact ⟨1, (red1 e old nw), by simp, rfl, H9.out.1, H9.out.2.1, H9.out.2.2⟩
        case measure => simp [intOf]
      · have hst : RwE wo b ev (es.set i (red1 e old nw)) := by
          have h9 : (red1 e old nw) = e := by unfold red1; rw [if_neg hq]
          rw [h9]
          exact hrw
        have H9 := Lib.hid (And.intro hst (And.intro hfr hlo))
        clear hst hrw hrw' hfr hlo
        go_wp2_with fail
        go_roundw
        case rel => exact ⟨1, (red1 e old nw), by simp, rfl, H9.out.1, H9.out.2.1, H9.out.2.2⟩
        case measure => simp [intOf]
    · -- round 1
      have hrw' := hrw
      obtain ⟨c0, c1, c2, c3⟩ := hrw.cells (i := i) (e := (red1 e old nw)) (by rw [List.getElem?_set_self hil])
      have c3e : wo.cell? ⟨b, i * 4 + 3, none⟩ = some (.int .i64 e.el) := c3
      clear c0 c1 c2 c3
      have fz := hrw.frozen (i * 4 + 3)
      have le := hrw.lt
      have p0 : wo.cell? ⟨H, 1, none⟩ = some (.pointer (some ⟨b, i * 4 + 3, none⟩)) := hlo.cell 1
      have lH := hlo.lt
      by_cases hq : e.el = old
      · have hst : RwE (wo.setCell ⟨b, i * 4 + 3, none⟩ (.int .i64 nw)) b ev (es.set i (redir e old nw)) := by
          have h9 := hrw.one (i := i) (j := 3) (e := (red1 e old nw)) (e' := (redir e old nw)) (by rw [List.getElem?_set_self hil]) (by omega) (x := nw) (by unfold redir red1; rw [if_pos hq]; rfl)
          rw [List.set_set] at h9
          exact h9
        have hfr9 : Fr w.heap.size (fun j => j = b) w (wo.setCell ⟨b, i * 4 + 3, none⟩ (.int .i64 nw)) := hfr.trans (Fr.set (p := ⟨b, i * 4 + 3, none⟩) (.inl rfl))
        have hlo9 := hlo.far (p := ⟨b, i * 4 + 3, none⟩) (by show H ≠ b; omega) (.int .i64 nw)
        have H9 := Lib.hid (And.intro hst (And.intro hfr9 hlo9))
        clear hst hfr9 hlo9 hrw hrw' hfr hlo
        go_wp2_with fail
        go_roundw
        case rel => exact ⟨2, (redir e old nw), by simp, rfl, H9.out.1, H9.out.2.1, H9.out.2.2⟩
        case measure => simp [intOf]
      · have hst : RwE wo b ev (es.set i (redir e old nw)) := by
          have h9 : (redir e old nw) = (red1 e old nw) := by unfold redir red1; rw [if_neg hq]
          rw [h9]
          exact hrw
        have H9 := Lib.hid (And.intro hst (And.intro hfr hlo))
        clear hst hrw hrw' hfr hlo
        go_wp2_with fail
        go_roundw
        case rel => exact ⟨2, (redir e old nw), by simp, rfl, H9.out.1, H9.out.2.1, H9.out.2.2⟩
        case measure => simp [intOf]
    · have H9 := Lib.hid (And.intro hrw hfr)
      clear hrw hfr hlo
      go_wp2_with fail
      go_end0
      exact ⟨rfl, H9.out.1, H9.out.2⟩
end Go.Proofs.Ytjmlpbnejcfnhaa
