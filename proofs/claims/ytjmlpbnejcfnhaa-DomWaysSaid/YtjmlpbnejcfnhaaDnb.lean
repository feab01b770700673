/-
  Layer dom: the law's functions on rows that are written out.
-/
import Derived.Test.YtjmlpbnejcfnhaaDna
import Derived.Test.YtjmlpbnejcfnhaaIo2
namespace Go.Proofs.Ytjmlpbnejcfnhaa
open Go Go.RowKit Go.Maps
set_option linter.unusedVariables false
set_option linter.unusedSimpArgs false

theorem rwE_lit {w : World} {b : Nat} {es : List Eb} {cs : Array Value} (h : Blk w b tEn' cs) (hc : cs = (endsC es).toArray) (hn : es.length ≤ 1000) : RwE w b (.slice (some ⟨b, 0, none⟩) es.length es.length) es := by
  subst hc
  exact ⟨es.length, [], rfl, by simp, by unfold maxLen; omega, by rw [List.append_nil]; exact h⟩
abbrev cdA (rv bv : Value) : Array Value := #[.string ⟨#[109, 97, 105, 110]⟩, .int .i64 1, .int .i64 0, rv, bv]
theorem endsL (w : World) (es : List Eb) (n : Nat) (cs : Array Value) (hn : es.length = n) (hm : n ≤ 400) (hw : ∀ e ∈ es, e.w) (hc : cs = (endsC es).toArray) :
    Calls Try.prog 9 #[.slice (some ⟨w.heap.size, 0, none⟩) n n] (w.alloc (.cells cs tEn')) fun r w' => ∃ rA rn rc bA bc, r = .returned (.agg (cdA (.slice rA rn rc) (.slice bA n bc))) ∧ BaR w' (.slice rA rn rc) (.slice bA n bc) es ∧ Below w.heap.size w w' := by
  subst hn
  refine (ends_any (rwE_lit (Blk.new w tEn' cs) hc (by omega)) hm hw).mono ?_
  rintro r w' ⟨rv, bv, rfl, hB, hb⟩
  obtain ⟨A, c, e, _⟩ := hB.r
  obtain ⟨base, ho⟩ := hB.b
  obtain ⟨A2, c2, e2⟩ := own_form5 ho
  exact ⟨A, _, c, A2, c2, by rw [e, e2]; rfl, by rw [← e, ← e2]; exact hB, ((Below.refl _ w).alloc (Nat.le_refl _) _).trans (hb.mono (by simp))⟩
theorem splitS (w : World) (es es' : List Eb) (os : List Nat) (most : Int) (n : Nat) {rv bv : Value} (h : BaR w rv bv es) (h0 : es ≠ []) (hm : es.length ≤ 400) (hok : endsOk es = true) (hS : splitM most es = some (es', os)) (hn : es'.length = n) :
    Calls Try.prog 13 #[.agg (cdA rv bv), .int .i64 most] w fun r w' => ∃ rA rn rc bA bc, r = .returned (.tuple #[.agg (cdA (.slice rA rn rc) (.slice bA n bc)), .int .i64 0]) ∧ BaR w' (.slice rA rn rc) (.slice bA n bc) es' ∧ Below w.heap.size w w' := by
  subst hn
  refine (split_any h h0 hm hok most).mono ?_
  rintro r w' ⟨⟨rv', bv', rfl, hB⟩, hb⟩
  rw [hS]
  have hB := hB _ hS
  obtain ⟨A, c, e, _⟩ := hB.r
  obtain ⟨base, ho⟩ := hB.b
  obtain ⟨A2, c2, e2⟩ := own_form5 ho
  exact ⟨A, _, c, A2, c2, by rw [e, e2]; rfl, by rw [← e, ← e2]; exact hB, hb⟩
theorem splitN (w : World) (es : List Eb) (most : Int) {rv bv : Value} (h : BaR w rv bv es) (h0 : es ≠ []) (hm : es.length ≤ 400) (hok : endsOk es = true) (hS : splitM most es = none) :
    Calls Try.prog 13 #[.agg (cdA rv bv), .int .i64 most] w fun r w' => r = .returned (.tuple #[.agg cdz, .int .i64 13]) ∧ Below w.heap.size w w' := by
  refine (split_any h h0 hm hok most).mono ?_
  rintro r w' ⟨⟨rv', bv', rfl, hB⟩, hb⟩
  rw [hS]
  exact ⟨rfl, hb⟩
theorem orderL (w : World) (es : List Eb) (l : List Nat) {rv bv : Value} (h : BaR w rv bv es) (h0 : es ≠ []) (hm : es.length ≤ 400) (hok : endsOk es = true) (hl : (walkM (es.map tosN)).ord = l) :
    Calls Try.prog 17 #[.agg (cdA rv bv)] w fun r w' => ∃ A n c, r = .returned (.slice A n c) ∧ RdV w' w'.heap.size (.slice A n c) (nz l) ∧ Below w.heap.size w w' := by
  refine (order_any (h.cd h0 hm hok)).mono ?_
  rintro r w' ⟨v, rfl, hv, hb⟩
  rw [tosC_bare, hl] at hv
  obtain ⟨A, c, e, _⟩ := hv.sl
  exact ⟨A, _, c, by rw [e], by rw [← e]; exact hv, hb⟩
theorem domL (w : World) (es : List Eb) (l : List Int) {rv bv : Value} (h : BaR w rv bv es) (h0 : es ≠ []) (hm : es.length ≤ 400) (hok : endsOk es = true) (hl : domsM (es.map tosN) (walkM (es.map tosN)) = l) :
    Calls Try.prog 18 #[.agg (cdA rv bv)] w fun r w' => ∃ A n c, r = .returned (.slice A n c) ∧ RdV w' w'.heap.size (.slice A n c) l ∧ Below w.heap.size w w' := by
  refine (dom_any (h.cd h0 hm hok)).mono ?_
  rintro r w' ⟨v, rfl, hv, hb⟩
  rw [tosC_bare, hl] at hv
  obtain ⟨A, c, e, _⟩ := hv.sl
  exact ⟨A, _, c, by rw [e], by rw [← e]; exact hv, hb⟩
theorem redL (w : World) (es : List Eb) (b : Bool) {rv bv : Value} (h : BaR w rv bv es) (h0 : es ≠ []) (hm : es.length ≤ 400) (hok : endsOk es = true) (hl : (graphM es).wrong.isNone = b) :
    Calls Try.prog 16 #[.agg (cdA rv bv)] w fun r w' => r = .returned (.bool b) ∧ Below w.heap.size w w' := by
  refine (reducible_any (h.cd h0 hm hok)).mono ?_
  rintro r w' ⟨rfl, hb⟩
  rw [tosC_bare, ← graphM_eq, hl]
  exact ⟨rfl, hb⟩
def esK1 : List Eb := [⟨2, 0, 1, 2⟩, ⟨1, 0, 2, 0⟩, ⟨2, 0, 1, 3⟩, ⟨3, 0, 0, 0⟩]
def esK2 : List Eb := [⟨2, 0, 1, 2⟩, ⟨1, 0, 2, 0⟩, ⟨2, 0, 4, 3⟩, ⟨3, 0, 0, 0⟩, ⟨1, 0, 2, 0⟩]
theorem esK1_w : ∀ e ∈ esK1, e.w := by
  intro e he
  simp only [esK1, List.mem_cons, List.not_mem_nil, or_false] at he
  rcases he with rfl | rfl | rfl | rfl <;> exact ⟨rfl, rfl, rfl, rfl⟩
theorem esK1_ok : endsOk esK1 = true := by decide +kernel
theorem esK2_ok : endsOk esK2 = true := by decide +kernel
theorem esK1_split : splitM 9 esK1 = some (esK2, [0, 1, 2, 3, 1]) := by decide +kernel
theorem esK1_ord : (walkM (esK1.map tosN)).ord = [0, 1, 2, 3] := by decide +kernel
theorem esK1_dom : domsM (esK1.map tosN) (walkM (esK1.map tosN)) = [0, 0, 0, 2] := by decide +kernel
theorem esK1_red : (graphM esK1).wrong.isNone = false := by decide +kernel
theorem esK2_red : (graphM esK2).wrong.isNone = true := by decide +kernel
end Go.Proofs.Ytjmlpbnejcfnhaa
