/-
  Layer dom: walks of the law's makers of ends and of functions; rows of blocks without instructions.
-/
import Derived.Test.YtjmlpbnejcfnhaaDmt
import Derived.Test.YtjmlpbnejcfnhaaCna
namespace Go.Proofs.Ytjmlpbnejcfnhaa
open Go Go.RowKit Go.Maps
set_option linter.unusedVariables false
set_option linter.unusedSimpArgs false

theorem enInf : (Try.prog.info? tEn').map (·.size) = some 4 := by kernel_rfl
theorem cdInf : (Try.prog.info? 34).map (·.size) = some 5 := by kernel_rfl
abbrev tCd : TypeId := 34
set_option maxRecDepth 100000 in
theorem last_any (w : World) : Calls Try.prog 12 #[] w fun e w' => e = .returned (.agg (ebA ⟨3, 0, 0, 0⟩)) ∧ Below w.heap.size w w' := by
  go_enter Try.func12, Try.ntmps12
  go_wp2_with fail
  refine bodyPost_ret (results_cell_row rfl _ _ w.heap.size tEn' _ (0, 0) _ rfl (Blk.new w tEn' _) Try.underlying37 rfl enInf) rfl ⟨rfl, (Below.refl _ _).alloc (Nat.le_refl _) _⟩
set_option maxRecDepth 100000 in
theorem jump_any (a : Int) (w : World) : Calls Try.prog 10 #[.int .i64 a] w fun e w' => e = .returned (.agg (ebA ⟨1, 0, a, 0⟩)) ∧ Below w.heap.size w w' := by
  go_enter Try.func10, Try.ntmps10
  go_wp2_with fail
  refine bodyPost_ret (results_cell_row rfl _ _ w.heap.size tEn' _ (0, 0) _ rfl (Blk.new w tEn' _) Try.underlying37 rfl enInf) rfl ⟨rfl, (Below.refl _ _).alloc (Nat.le_refl _) _⟩
set_option maxRecDepth 100000 in
theorem branch_any (a b : Int) (w : World) : Calls Try.prog 11 #[.int .i64 a, .int .i64 b] w fun e w' => e = .returned (.agg (ebA ⟨2, 0, a, b⟩)) ∧ Below w.heap.size w w' := by
  go_enter Try.func11, Try.ntmps11
  go_wp2_with fail
  refine bodyPost_ret (results_cell_row rfl _ _ w.heap.size tEn' _ (0, 0) _ rfl (Blk.new w tEn' _) Try.underlying37 rfl enInf) rfl ⟨rfl, (Below.refl _ _).alloc (Nat.le_refl _) _⟩

/-! blocks without instructions -/
def bareC (es : List Eb) : List Value := es.flatMap fun e => .slice none 0 0 :: endC e
def bareB (es : List Eb) : List Blo := es.map fun e => ⟨[], e⟩
theorem bareC_len (es : List Eb) : (bareC es).length = es.length * 5 := by
  induction es with
  | nil => rfl
  | cons e l ih => rw [bareC, List.flatMap_cons, List.length_append, ← bareC, ih, List.length_cons]; simp [endC]; omega
theorem bareC_snoc (es : List Eb) (e : Eb) : bareC (es ++ [e]) = bareC es ++ [.slice none 0 0, .int .i64 e.k, .int .i64 e.a, .int .i64 e.to, .int .i64 e.el] := by simp [bareC, endC]
theorem bareC_at (l : List Eb) (i j : Nat) (e : Eb) (h : l[i]? = some e) (hj : j < 5) : (bareC l)[i * 5 + j]? = (Value.slice none 0 0 :: endC e)[j]? := by
  induction l generalizing i with
  | nil => simp at h
  | cons a l ih =>
    have ea : bareC (a :: l) = (.slice none 0 0 :: endC a) ++ bareC l := by simp [bareC]
    rw [ea]
    cases i with
    | zero => simp at h; subst h; rw [Nat.zero_mul, Nat.zero_add, List.getElem?_append_left (by simp [endC]; omega)]
    | succ i =>
      simp at h
      rw [List.getElem?_append_right (by simp [endC]; omega), show (i + 1) * 5 + j - (Value.slice none 0 0 :: endC a).length = i * 5 + j by simp [endC]; omega]
      exact ih i h
theorem bareB_es (es : List Eb) : esB (bareB es) = es := by unfold esB bareB; rw [List.map_map]; exact List.map_id _
theorem bareB_len (es : List Eb) : (bareB es).length = es.length := by unfold bareB; rw [List.length_map]
theorem isB_bare {w : World} {base : Nat} {v : Value} {es : List Eb} (hw : ∀ e ∈ es, e.w) (h : w.ownsRow base tBlo 5 v es.length (bareC es)) : IsB w w.heap.size v (bareB es) := by
  obtain ⟨h0, ⟨rfl, hn⟩ | ⟨g, cap, cur, rfl, hb, hg, hnc, hcm, hsz, hcur⟩⟩ := h
  · have : es = [] := List.length_eq_zero_iff.1 hn
    subst this
    exact ⟨none, 0, rfl, Nat.le_refl _, by simp, fun _ => rfl, .inl rfl⟩
  · refine ⟨_, cap, by rw [bareB_len], by rw [bareB_len]; exact hnc, hcm, fun h => (by cases h), .inr ⟨g, 0, rfl, (Array.getElem?_eq_some_iff.1 hg).1, fun i x hi => ?_⟩⟩
    unfold bareB at hi
    rw [List.getElem?_map] at hi
    rcases hx : es[i]? with _ | e
    · rw [hx] at hi; cases hi
    · rw [hx] at hi
      obtain rfl := Option.some.inj hi
      refine ⟨hw e (List.mem_of_getElem? hx), .slice none 0 0, ⟨none, 0, rfl, Nat.le_refl _, by simp, fun _ => rfl, .inl rfl⟩, fun j y hj => ?_⟩
      show w.cell? ⟨g, 0 + i * 5 + j, none⟩ = some y
      have hj5 : j < 5 := by have := (List.getElem?_eq_some_iff.1 hj).1; simpa [bloC] using this
      have hil : i < es.length := (List.getElem?_eq_some_iff.1 hx).1
      rw [cell_of_row w g _ cur tBlo (0, 0) hg, show 0 + i * 5 + j = i * 5 + j by omega]
      have e1 : (cur.toList.take (es.length * 5))[i * 5 + j]? = (bareC es)[i * 5 + j]? := by rw [hcur]
      rw [List.getElem?_take_of_lt (by omega), Array.getElem?_toList, bareC_at es i j e hx hj5] at e1
      rw [e1]
      exact hj
theorem news5 {w : World} {b : Nat} {v0 v1 v2 v3 v4 : Value} (h : Blk w b tBlo #[v0, v1, v2, v3, v4]) : ∀ j u, [v0, v1, v2, v3, v4][j]? = some u → w.cell? ((⟨b, 0, none⟩ : Addr).add j) = some u := World.news_of_block (cs := #[v0, v1, v2, v3, v4]) h
/-- A function of the law: main, an Int, one register. -/
def dcod (es : List Eb) : Cod := ⟨[109, 97, 105, 110], 1, 0, [1], bareB es⟩
/-- It in memory. -/
structure BaR (w : World) (rv bv : Value) (es : List Eb) : Prop where
  r0 : ∃ b, RwI w b rv [1]
  b : ∃ base, w.ownsRow base tBlo 5 bv es.length (bareC es)
  w : ∀ e ∈ es, e.w
theorem BaR.r {w : World} {rv bv : Value} {es : List Eb} (h : BaR w rv bv es) : RdV w w.heap.size rv [1] := by obtain ⟨b, hb⟩ := h.r0; exact hb.rd
theorem own_on {w w' : World} {base sz n : Nat} {t : TypeId} {v : Value} {xs : List Value} (h : w.ownsRow base t sz v n xs) (hb : Below w.heap.size w w') : w'.ownsRow base t sz v n xs := by
  obtain ⟨h1, h2⟩ := h
  refine ⟨h1, ?_⟩
  rcases h2 with h2 | ⟨g, cap, cur, hv, hbs, hh, r⟩
  · exact .inl h2
  · exact .inr ⟨g, cap, cur, hv, hbs, (hb.block g (Array.getElem?_eq_some_iff.1 hh).1).trans hh, r⟩
theorem BaR.on {w w' : World} {rv bv : Value} {es : List Eb} (h : BaR w rv bv es) (hb : Below w.heap.size w w') : BaR w' rv bv es := by
  obtain ⟨base, hb2⟩ := h.b
  obtain ⟨b, hr⟩ := h.r0
  exact ⟨⟨b, hr.on hb⟩, ⟨base, own_on hb2 hb⟩, h.w⟩
theorem BaR.cd {w : World} {rv bv : Value} {es : List Eb} (h : BaR w rv bv es) (h0 : es ≠ []) (hm : es.length ≤ 400) (hok : endsOk es = true) : CdD w (dcod es) rv bv := by
  obtain ⟨base, hb⟩ := h.b
  refine ⟨isB_bare h.w hb, ?_, ?_, ?_, ?_⟩
  · obtain ⟨A, c, e, _⟩ := h.r; exact ⟨A, _, c, e⟩
  · intro e; apply h0; unfold dcod bareB at e; exact List.map_eq_nil_iff.1 e
  · show (bareB es).length ≤ 400; rw [bareB_len]; exact hm
  · show endsOk (esB (bareB es)) = true; rw [bareB_es]; exact hok
theorem tosC_bare (es : List Eb) : tosC (dcod es) = es.map tosN := by unfold tosC dcod; simp only [bareB_es]
end Go.Proofs.Ytjmlpbnejcfnhaa
