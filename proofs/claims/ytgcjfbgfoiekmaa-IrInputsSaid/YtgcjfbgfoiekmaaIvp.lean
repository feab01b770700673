/-
  Layer ir: walks of element, read.
-/
import Derived.Test.YtgcjfbgfoiekmaaIvo
namespace Go.Proofs.Ytgcjfbgfoiekmaa
open Go Go.RowKit Go.Maps
set_option linter.unusedVariables false
set_option linter.unusedSimpArgs false

def elV (a i : Int) : Value := .agg #[.int .i64 a, .int .i64 i]
theorem elInfo : (Try.prog.info? tEl).map (·.size) = some 2 := by kernel_rfl
set_option maxHeartbeats 400000 in
/-- An element that is not there. -/
theorem element_er {X : Mc} {k : Int} {w : World} {s : Mst} {ov : Value} (h : McV X k w s ov) (a i : Int) (ha : inR X.m.g a = true) (hi : i < 0 ∨ (gAt X.m a).sz ≤ i) :
    Calls Try.prog 59 #[mcp X, .int .i64 a, .int .i64 i] w fun e w' => e = PanE 2 3 ∧ Below w.heap.size w w' := by
  obtain ⟨A, c, hb, -, -, -⟩ := h.iv
  obtain ⟨j, rfl, hlt⟩ := inR_nat ha
  obtain ⟨g, o, gc, hgv, hg, hlc, hcm, -, hx⟩ := h.mod.g.at hlt
  have hgw : g < w.heap.size := by have := h.bb; have := h.lt; omega
  have y0 : w.cell? ⟨g, o + j * 4 + 2, none⟩ = some (.int .i64 X.m.g[j].sz) := hx 2 _ rfl
  have c0 : w.cell? ⟨X.b, 0, none⟩ = some (.slice (some ⟨g, o, none⟩) X.m.g.length gc) := by rw [← hgv]; exact hb.cell 0
  have hl := hb.lt
  rw [gAt_lt hlt] at hi
  generalize X.m.g[j].sz = n at *
  have hlt' : (j : Int) < X.m.g.length := by omega
  have hb1 : Below w.heap.size w (w.alloc (.cells #[.int .i64 0, .int .i64 0] tEl)) := (Below.refl _ _).alloc (Nat.le_refl _) _
  have c0' : (w.alloc (.cells #[.int .i64 0, .int .i64 0] tEl)).cell? ⟨X.b, 0, none⟩ = _ := (hb1.cell (p := ⟨X.b, 0, none⟩) hl).trans c0
  have y0' : (w.alloc (.cells #[.int .i64 0, .int .i64 0] tEl)).cell? ⟨g, o + j * 4 + 2, none⟩ = _ := (hb1.cell (p := ⟨g, o + j * 4 + 2, none⟩) hgw).trans y0
  have hs : (w.alloc (.cells #[.int .i64 0, .int .i64 0] tEl)).heap.size = w.heap.size + 1 := by simp
  have HB1 := Lib.hid hb1
  unfold mcp
  clear h hb ha hgv hx hb1 c0 y0
  go_enter Try.func59, Try.ntmps59
  go_upto_region 1 with (fail)
  generalize w.alloc (.cells #[.int .i64 0, .int .i64 0] tEl) = W at *
  have hl' : X.b < W.heap.size := by omega
  have hg' : g < W.heap.size := by omega
  by_cases h0 : i < 0
  · have d0 : decide (i < 0) = true := by simpa using h0
    clear hi
    go_wp2_with fail
    refine (trap_any 3 _).mono ?_
    rintro e w2 ⟨rfl, rfl⟩
    unfold PanE
    go_wp2_with fail
    exact pan_end rfl ⟨rfl, HB1.out⟩
  · have d0 : decide (i < 0) = false := by simpa using h0
    have d1 : decide (n ≤ i) = true := by simp; omega
    clear hi
    go_wp2_with fail
    refine (trap_any 3 _).mono ?_
    rintro e w2 ⟨rfl, rfl⟩
    unfold PanE
    go_wp2_with fail
    exact pan_end rfl ⟨rfl, HB1.out⟩
set_option maxHeartbeats 400000 in
/-- An element that is there. -/
theorem element_ok {X : Mc} {k : Int} {w : World} {s : Mst} {ov : Value} (h : McV X k w s ov) (a i : Int) (ha : inR X.m.g a = true) (hi : ¬ (i < 0 ∨ (gAt X.m a).sz ≤ i)) :
    Calls Try.prog 59 #[mcp X, .int .i64 a, .int .i64 i] w fun e w' => e = .returned (elV a i) ∧ Below w.heap.size w w' := by
  obtain ⟨A, c, hb, -, -, -⟩ := h.iv
  obtain ⟨j, rfl, hlt⟩ := inR_nat ha
  obtain ⟨g, o, gc, hgv, hg, hlc, hcm, -, hx⟩ := h.mod.g.at hlt
  have hgw : g < w.heap.size := by have := h.bb; have := h.lt; omega
  have y0 : w.cell? ⟨g, o + j * 4 + 2, none⟩ = some (.int .i64 X.m.g[j].sz) := hx 2 _ rfl
  have c0 : w.cell? ⟨X.b, 0, none⟩ = some (.slice (some ⟨g, o, none⟩) X.m.g.length gc) := by rw [← hgv]; exact hb.cell 0
  have hl := hb.lt
  rw [gAt_lt hlt] at hi
  generalize X.m.g[j].sz = n at *
  have hlt' : (j : Int) < X.m.g.length := by omega
  have hb1 : Below w.heap.size w (w.alloc (.cells #[.int .i64 0, .int .i64 0] tEl)) := (Below.refl _ _).alloc (Nat.le_refl _) _
  have c0' : (w.alloc (.cells #[.int .i64 0, .int .i64 0] tEl)).cell? ⟨X.b, 0, none⟩ = _ := (hb1.cell (p := ⟨X.b, 0, none⟩) hl).trans c0
  have y0' : (w.alloc (.cells #[.int .i64 0, .int .i64 0] tEl)).cell? ⟨g, o + j * 4 + 2, none⟩ = _ := (hb1.cell (p := ⟨g, o + j * 4 + 2, none⟩) hgw).trans y0
  have hs : (w.alloc (.cells #[.int .i64 0, .int .i64 0] tEl)).heap.size = w.heap.size + 1 := by simp
  have bN := Blk.new w tEl #[.int .i64 0, .int .i64 0]
  have HB1 := Lib.hid hb1
  unfold mcp
  clear h hb ha hgv hx hb1 c0 y0
  go_enter Try.func59, Try.ntmps59
  go_upto_region 1 with (fail)
  obtain ⟨H, hH⟩ : ∃ H, w.heap.size = H := ⟨_, rfl⟩
  generalize w.alloc (.cells #[.int .i64 0, .int .i64 0] tEl) = W at *
  have hl' : X.b < W.heap.size := by omega
  have hg' : g < W.heap.size := by omega
  have d0 : decide (i < 0) = false := by simp; omega
  have d1 : decide (n ≤ i) = false := by simp; omega
  clear hi
  rw [hH] at bN ⊢
  have b2 : Blk ((W.setCell ⟨H, 0, none⟩ (.int .i64 j)).setCell ⟨H, 1, none⟩ (.int .i64 i)) H tEl #[.int .i64 j, .int .i64 i] := (bN.set_ 0 _).set_ 1 _
  have hb2 : Below H w ((W.setCell ⟨H, 0, none⟩ (.int .i64 j)).setCell ⟨H, 1, none⟩ (.int .i64 i)) := by
    have := HB1.out
    rw [hH] at this
    exact (this.setCell (p := ⟨H, 0, none⟩) (Nat.le_refl _) _).setCell (p := ⟨H, 1, none⟩) (Nat.le_refl _) _
  have n0 := bN.cell 0
  have n1 := bN.cell 1
  have nf0 := bN.frozen 0
  have nf1 := bN.frozen 1
  have nl := bN.lt
  simp only [List.getElem?_toArray, List.getElem?_cons_zero, List.getElem?_cons_succ] at n0 n1
  have B2 := Lib.hid (And.intro b2 hb2)
  clear b2 hb2 bN
  go_wp2_with fail
  exact bodyPost_ret (v := elV j i) (results_cell_row rfl _ _ H tEl _ (0, 0) _ rfl B2.out.1 Try.underlying103 rfl elInfo) rfl ⟨rfl, by rw [hH]; exact B2.out.2⟩

theorem McV.setIn {X : Mc} {k : Int} {w : World} {s : Mst} {ov : Value} (h : McV X k w s ov) {v : Value} {inp' : List Int} (hv : IsI w X.base v inp') :
    McV X k (w.setCell ⟨X.b, 3, none⟩ v) { s with inp := inp' } ov ∧ Km X w ov (w.setCell ⟨X.b, 3, none⟩ v) ov := by
  obtain ⟨iv, hb, hi⟩ := h.blk
  have hB : Below X.base w (w.setCell ⟨X.b, 3, none⟩ v) := (Below.refl _ _).setCell (p := ⟨X.b, 3, none⟩) h.bb.1 _
  obtain ⟨n, D, hmp, he, hn⟩ := h.mp
  have hne := h.ne
  refine ⟨⟨⟨v, hb.set_ 3 v, hv.below hB⟩, h.mod.below hB, rowKeep h.out fun i hi => Below.heap_setCell _ _ _ _ (h.own i hi).2.2.1, h.sc.far (by exact fun e => hne.1 e.symm) v, h.scl, h.scw, ⟨n, D, mapKeep hmp (Below.heap_setCell _ _ _ _ (fun e => hne.2.1 e.symm)), he, hn⟩, h.elw, h.bb, h.ne, h.nos, h.bnd, h.cap, h.st, h.ca⟩, ?_⟩
  exact ⟨rfl, rfl, rfl, by simp, fun i hi h1 _ _ _ => Below.heap_setCell _ _ _ _ h1, .inl rfl⟩
set_option maxHeartbeats 400000 in
theorem read_any {X : Mc} {k : Int} {w : World} {s : Mst} {ov : Value} (h : McV X k w s ov) :
    Calls Try.prog 61 #[crp X] w (RnP X k w ov (fun l => .int .i64 (l.getD 0 0)) (.ok [s.inp.getD 0 0] { s with inp := s.inp.tail })) := by
  obtain ⟨A, c, hb, hii, hlc, hcm⟩ := h.iv
  have c2 : w.cell? ⟨X.b, 3, none⟩ = some (.slice A s.inp.length c) := hb.cell 3
  have f2 := hb.frozen 3
  have hl := hb.lt
  unfold maxLen at hcm
  unfold crp
  cases hin : s.inp with
  | nil =>
    have e : ({ s with inp := ([] : List Int).tail } : Mst) = s := by cases s; simp only at hin; subst hin; rfl
    rw [e]
    rw [hin] at c2
    have c2' : w.cell? ⟨X.b, 3, none⟩ = some (.slice A 0 c) := c2
    have H1 := Lib.hid h
    clear h hb hii hlc e hin c2 f2
    go_enter Try.func61, Try.ntmps61
    go_wp2
    go_ret
    exact ⟨rfl, _, H1.out, .refl _ _ _⟩
  | cons x l =>
    rw [hin] at hii hlc c2
    obtain ⟨g, o, c', hv, hg, -, -, hx, -⟩ := hii.at (k := 0) (by simp)
    simp only [Value.slice.injEq, true_and] at hv
    obtain ⟨rfl, rfl⟩ := hv
    have x0 : w.cell? ⟨g, o, none⟩ = some (.int .i64 x) := by simpa using hx
    have hgw : g < w.heap.size := by have := h.bb; have := h.lt; omega
    simp only [List.length_cons] at c2 hlc
    obtain ⟨n, hn⟩ : ∃ n, l.length = n := ⟨_, rfl⟩
    by_cases hc1 : c = 1
    · subst hc1
      obtain rfl : l = [] := by cases l with | nil => rfl | cons _ _ => simp at hlc
      have h1 := h.setIn (v := .slice (some ⟨g, o, none⟩) 0 0) (inp' := []) ⟨_, 0, rfl, Nat.le_refl _, by simp, fun h => (by cases h), .inl rfl⟩
      have H1 := Lib.hid h1
      have c2' : w.cell? ⟨X.b, 3, none⟩ = some (.slice (some ⟨g, o, none⟩) 1 1) := c2
      clear h hb hii hlc hin c2 hx h1 hn
      go_enter Try.func61, Try.ntmps61
      go_wp2
      go_ret
      exact ⟨rfl, _, H1.out.1, H1.out.2⟩
    · obtain ⟨c', rfl⟩ : ∃ c', c = c' + 2 := ⟨c - 2, by omega⟩
      have hii2 : IsI w X.base (.slice (some ⟨g, o + 1, none⟩) l.length (c' + 1)) l := by
        obtain ⟨A2, c2, hv2, -, -, -, h9⟩ := hii
        simp only [Value.slice.injEq] at hv2
        obtain ⟨rfl, -, rfl⟩ := hv2
        rcases h9 with h9 | ⟨g2, o2, e2, -, hx2⟩
        · cases h9
        · cases e2
          refine ⟨_, c' + 1, rfl, by omega, by unfold maxLen; omega, fun h => (by cases h), .inr ⟨g, o + 1, rfl, hg, fun i y hi => ?_⟩⟩
          have := hx2 (i + 1) y (by simpa using hi)
          simpa [Nat.add_assoc, Nat.add_comm 1 i] using this
      have h1 := h.setIn hii2
      rw [hn] at h1 c2 hlc
      have H1 := Lib.hid h1
      have c2' : w.cell? ⟨X.b, 3, none⟩ = some (.slice (some ⟨g, o, none⟩) (n + 1) (c' + 2)) := c2
      clear h hb hii hii2 hlc hin c2 hx h1 hn hc1
      go_enter Try.func61, Try.ntmps61
      go_wp2
      go_ret
      exact ⟨rfl, _, H1.out.1, H1.out.2⟩
end Go.Proofs.Ytgcjfbgfoiekmaa
