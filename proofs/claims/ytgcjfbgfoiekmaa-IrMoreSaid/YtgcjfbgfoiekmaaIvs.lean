/-
  Layer ir: an instruction is run: binary operations, conversions, stores into scalars, output.
-/
import Derived.Test.YtgcjfbgfoiekmaaIvr
import Derived.Deep.RegionHeld2
namespace Go.Proofs.Ytgcjfbgfoiekmaa
open Go Go.RowKit Go.Maps
set_option linter.unusedVariables false
set_option linter.unusedSimpArgs false

section
variable {X : Mc} {w : World} {s : Mst} {ov : Value} {rb : Nat} {r : List Int} {i : Ins} {av : Value} {g p : Nat}
set_option maxHeartbeats 1000000 in
set_option maxRecDepth 100000 in
theorem do4_any (h : McV X 1 w s ov) (hr : RgV X w rb r ov) (hi : InA w X.base g p i av) (hop : i.op = 4) (ha : inR r i.a = true) :
    Calls Try.prog 44 #[mcp X, rgs rb r.length, .pointer (some ⟨g, p, none⟩)] w (RnP X 0 w ov en1 (doM X.m r i s)) := by
  have e : doM X.m r i s = .ok [wr i.ty (at0 r i.a)] s := by unfold doM; rw [if_neg (by omega), if_neg (by omega), if_neg (by omega), if_pos hop]
  rw [e]
  have c0 : w.cell? ⟨g, p, none⟩ = some (.int .i64 4) := by rw [← hop]; exact hi.2.2 0 _ rfl
  have c1 : w.cell? ⟨g, p + 1, none⟩ = some (.int .i64 i.ty) := hi.2.2 1 _ rfl
  have c3 : w.cell? ⟨g, p + 3, none⟩ = some (.int .i64 i.a) := hi.2.2 3 _ rfl
  have hg := World.block_lt_of_cell? w _ c0
  simp only at hg
  obtain ⟨k, hk, hlt⟩ := inR_nat ha
  obtain ⟨x0, hlt', -⟩ := hr.cell hlt
  have hrl := hr.blk.lt
  rw [hk] at c3 ⊢
  have H1 := Lib.hid (h.less (k' := 0) (by omega))
  have HW : Hid (∀ W, Below w.heap.size w W → Calls Try.prog 54 #[.int .i64 i.ty, .int .i64 (at0 r (k : Int))] W fun e w' => e = .returned (.int .i64 (wr i.ty (at0 r (k : Int)))) ∧ Below w.heap.size w w') := Lib.hid fun W hW => (wrap_any _ _ W hi.1.ty).mono fun e w' h => ⟨h.1, hW.trans (h.2.mono hW.size)⟩
  generalize at0 r (k : Int) = v at *
  generalize wr i.ty v = res at *
  generalize i.ty = ty at *
  generalize r.length = rn at *
  have HS : Hid (∀ Wx, Below w.heap.size w Wx → Wx.cell? ⟨g, p + 1, none⟩ = some (.int .i64 ty) ∧ Wx.cell? ⟨g, p + 3, none⟩ = some (.int .i64 k) ∧ Wx.cell? ⟨rb, k, none⟩ = some (.int .i64 v) ∧ g < Wx.heap.size ∧ rb < Wx.heap.size) := Lib.hid fun Wx h => by
    have hz := h.size
    exact ⟨(h.cell (p := ⟨g, p + 1, none⟩) hg).trans c1, (h.cell (p := ⟨g, p + 3, none⟩) hg).trans c3, (h.cell (p := ⟨rb, k, none⟩) hrl).trans x0, by omega, by omega⟩
  have J0 : Below w.heap.size w w := Below.refl _ _
  clear h hi hop e ha hk hr
  unfold mcp rgs
  go_enter Try.func44, Try.ntmps44
  go_wp2_with fail
  go_region_held3 (fun Wx => Wx.cell? ⟨g, p + 1, none⟩ = some (.int .i64 ty) ∧ Wx.cell? ⟨g, p + 3, none⟩ = some (.int .i64 k) ∧ Wx.cell? ⟨rb, k, none⟩ = some (.int .i64 v) ∧ g < Wx.heap.size ∧ rb < Wx.heap.size)
    (first | exact ⟨c1, c3, x0, hg, hrl⟩ | exact HS.out _ J1)
    (first
      | (go_at_call 54; (with_reducible refine Calls.mono (HW.out _ (by first | exact J0.drew | exact J0)) ?_); rintro e v1 ⟨rfl, J1⟩))
  all_goals
    have HJ := Lib.hid J1
    clear J0 J1
    go_wp2_with fail
    go_ret
    exact ⟨rfl, _, H1.out.below HJ.out, .of HJ.out⟩
set_option maxHeartbeats 1000000 in
set_option maxRecDepth 100000 in
theorem do3_any (h : McV X 1 w s ov) (hr : RgV X w rb r ov) (hi : InA w X.base g p i av) (hop : i.op = 3) (ha : inR r i.a = true) (hb : inR r i.b = true) :
    Calls Try.prog 44 #[mcp X, rgs rb r.length, .pointer (some ⟨g, p, none⟩)] w (RnP X 0 w ov en1 (doM X.m r i s)) := by
  have c0 : w.cell? ⟨g, p, none⟩ = some (.int .i64 3) := by rw [← hop]; exact hi.2.2 0 _ rfl
  have c1 : w.cell? ⟨g, p + 1, none⟩ = some (.int .i64 i.ty) := hi.2.2 1 _ rfl
  have c3 : w.cell? ⟨g, p + 3, none⟩ = some (.int .i64 i.a) := hi.2.2 3 _ rfl
  have c4 : w.cell? ⟨g, p + 4, none⟩ = some (.int .i64 i.b) := hi.2.2 4 _ rfl
  have c6 : w.cell? ⟨g, p + 6, none⟩ = some (.string (str i.s)) := hi.2.2 6 _ rfl
  have hg := World.block_lt_of_cell? w _ c0
  simp only at hg
  obtain ⟨k, hk, hlt⟩ := inR_nat ha
  obtain ⟨x0, hlt', hw0⟩ := hr.cell hlt
  obtain ⟨k2, hk2, hlt2⟩ := inR_nat hb
  obtain ⟨x2, hlt2', hw2⟩ := hr.cell hlt2
  have hrl := hr.blk.lt
  have H1 := Lib.hid (h.less (k' := 0) (by omega))
  have e : doM X.m r i s = if (bn i.ty i.s (at0 r i.a) (at0 r i.b)).2 ≠ 0 then .er 2 (bn i.ty i.s (at0 r i.a) (at0 r i.b)).2 s else .ok [(bn i.ty i.s (at0 r i.a) (at0 r i.b)).1] s := by unfold doM; rw [if_neg (by omega), if_neg (by omega), if_pos hop]
  rw [e]
  rw [hk] at c3 ⊢
  rw [hk2] at c4 ⊢
  have HO : Hid (∀ W, Below w.heap.size w W → Calls Try.prog 58 #[.int .i64 i.ty, .string (str i.s), .int .i64 (at0 r (k : Int)), .int .i64 (at0 r (k2 : Int))] W fun e w' => e = (if (bn i.ty i.s (at0 r (k : Int)) (at0 r (k2 : Int))).2 ≠ 0 then PanE 2 (bn i.ty i.s (at0 r (k : Int)) (at0 r (k2 : Int))).2 else .returned (.int .i64 (bn i.ty i.s (at0 r (k : Int)) (at0 r (k2 : Int))).1)) ∧ Below w.heap.size w w') := Lib.hid fun W hW => (operate_any i.ty _ _ i.s W hw0 hw2).mono fun e w' h => ⟨h.1, hW.trans (h.2.mono hW.size)⟩
  generalize at0 r (k : Int) = v at *
  generalize at0 r (k2 : Int) = v2 at *
  generalize r.length = rn at *
  obtain ⟨x, y, hxy⟩ : ∃ x y, bn i.ty i.s v v2 = (x, y) := ⟨_, _, rfl⟩
  rw [hxy] at HO ⊢
  simp only at HO ⊢
  generalize i.ty = ty at *
  generalize i.s = ss at *
  have HS : Hid (∀ Wx, Below w.heap.size w Wx → Wx.cell? ⟨g, p + 1, none⟩ = some (.int .i64 ty) ∧ Wx.cell? ⟨g, p + 6, none⟩ = some (.string (str ss)) ∧ Wx.cell? ⟨g, p + 4, none⟩ = some (.int .i64 k2) ∧ Wx.cell? ⟨g, p + 3, none⟩ = some (.int .i64 k) ∧ Wx.cell? ⟨rb, k, none⟩ = some (.int .i64 v) ∧ Wx.cell? ⟨rb, k2, none⟩ = some (.int .i64 v2) ∧ g < Wx.heap.size ∧ rb < Wx.heap.size) := Lib.hid fun Wx h => by
    have hz := h.size
    exact ⟨(h.cell (p := ⟨g, p + 1, none⟩) hg).trans c1, (h.cell (p := ⟨g, p + 6, none⟩) hg).trans c6, (h.cell (p := ⟨g, p + 4, none⟩) hg).trans c4, (h.cell (p := ⟨g, p + 3, none⟩) hg).trans c3, (h.cell (p := ⟨rb, k, none⟩) hrl).trans x0, (h.cell (p := ⟨rb, k2, none⟩) hrl).trans x2, by omega, by omega⟩
  have J0 : Below w.heap.size w w := Below.refl _ _
  obtain ⟨M, hM⟩ : ∃ M, (if y ≠ 0 then Rn.er 2 y s else .ok [x] s) = M := ⟨_, rfl⟩
  have HM := Lib.hid hM
  rw [hM]
  have HO2 : Hid (∀ W, Below w.heap.size w W → Calls Try.prog 58 #[.int .i64 ty, .string (str ss), .int .i64 v, .int .i64 v2] W fun e w' => (M = .er 2 y s ∧ e = PanE 2 y ∧ Below w.heap.size w w') ∨ (M = .ok [x] s ∧ e = .returned (.int .i64 x) ∧ Below w.heap.size w w')) := Lib.hid fun W hW => (HO.out W hW).mono fun e w' h => by
    rw [← HM.out]
    by_cases hy : y = 0
    · rw [if_neg (by simpa using hy)] at h ⊢
      exact .inr ⟨rfl, h⟩
    · rw [if_pos hy] at h ⊢
      exact .inl ⟨rfl, h⟩
  clear h hi hop e ha hb hk hk2 hr hxy hw0 hw2 hM HM HO
  unfold mcp rgs
  go_enter Try.func44, Try.ntmps44
  go_wp2_with fail
  go_region_held2 (fun Wx => Wx.cell? ⟨g, p + 1, none⟩ = some (.int .i64 ty) ∧ Wx.cell? ⟨g, p + 6, none⟩ = some (.string (str ss)) ∧ Wx.cell? ⟨g, p + 4, none⟩ = some (.int .i64 k2) ∧ Wx.cell? ⟨g, p + 3, none⟩ = some (.int .i64 k) ∧ Wx.cell? ⟨rb, k, none⟩ = some (.int .i64 v) ∧ Wx.cell? ⟨rb, k2, none⟩ = some (.int .i64 v2) ∧ g < Wx.heap.size ∧ rb < Wx.heap.size)
    (first | exact ⟨c1, c6, c4, c3, x0, x2, hg, hrl⟩ | exact HS.out _ J1)
    (first
      | (go_at_call 58; (with_reducible refine Calls.mono (HO2.out _ (by first | exact J0.drew | exact J0)) ?_); intro e v1 hR; rcases hR with ⟨hm, rfl, J1⟩ | ⟨hm, rfl, J1⟩; (refine pan_end rfl ?_; rw [hm]; exact ⟨rfl, _, H1.out.below J1, .of J1⟩); have HM := Lib.hid hm; clear hm))
  all_goals
    have HJ := Lib.hid J1
    clear J0 J1
    go_wp2_with fail
    go_ret
    rw [HM.out]
    exact ⟨rfl, _, H1.out.below HJ.out, .of HJ.out⟩
theorem McV.setSc {k : Int} (h : McV X k w s ov) {j : Nat} {x : Int} (hx : iw x) :
    McV X k (w.setCell ⟨X.sb, j, none⟩ (.int .i64 x)) { s with sc := s.sc.set j x } ov ∧ Km X w ov (w.setCell ⟨X.sb, j, none⟩ (.int .i64 x)) ov := by
  obtain ⟨iv, hb, hi⟩ := h.blk
  have hB : Below X.base w (w.setCell ⟨X.sb, j, none⟩ (.int .i64 x)) := (Below.refl _ _).setCell (p := ⟨X.sb, j, none⟩) h.bb.2.1 _
  obtain ⟨n, D, hmp, he, hn⟩ := h.mp
  have hne := h.ne
  have hsc : Blk (w.setCell ⟨X.sb, j, none⟩ (.int .i64 x)) X.sb tI1 (intC (s.sc.set j x)) := by
    have := (show Blk w X.sb tI1 (intC s.sc) from h.sc).set_ j (.int .i64 x)
    rw [intC_set] at this
    exact this
  refine ⟨⟨⟨iv, hb.far (p := ⟨X.sb, j, none⟩) hne.1 _, hi.below hB⟩, h.mod.below hB, rowKeep h.out fun i hi => Below.heap_setCell _ _ _ _ (h.own i hi).2.2.2.1, hsc, by simpa using h.scl, ?_, ⟨n, D, mapKeep hmp (Below.heap_setCell _ _ _ _ (fun e => hne.2.2 e.symm)), he, hn⟩, h.elw, h.bb, h.ne, h.nos, h.bnd, h.cap, h.st, h.ca⟩, ?_⟩
  · intro y hy
    rcases List.mem_or_eq_of_mem_set hy with h9 | rfl
    · exact h.scw _ h9
    · exact hx
  · exact ⟨rfl, rfl, rfl, by simp, fun i hi _ h1 _ _ => Below.heap_setCell _ _ _ _ h1, .inl rfl⟩
set_option maxHeartbeats 1000000 in
set_option maxRecDepth 100000 in
theorem do8_any (h : McV X 1 w s ov) (hr : RgV X w rb r ov) (hi : InA w X.base g p i av) (hop : i.op = 8) (ha : inR r i.a = true) (hb : inR X.m.g i.n = true) :
    Calls Try.prog 44 #[mcp X, rgs rb r.length, .pointer (some ⟨g, p, none⟩)] w (RnP X 0 w ov en1 (doM X.m r i s)) := by
  have e : doM X.m r i s = .ok [0] { s with sc := s.sc.set i.n.toNat (at0 r i.a) } := by unfold doM; rw [if_neg (by omega), if_neg (by omega), if_neg (by omega), if_neg (by omega), if_neg (by omega), if_neg (by omega), if_neg (by omega), if_pos hop]
  rw [e]
  have c0 : w.cell? ⟨g, p, none⟩ = some (.int .i64 8) := by rw [← hop]; exact hi.2.2 0 _ rfl
  have c3 : w.cell? ⟨g, p + 3, none⟩ = some (.int .i64 i.a) := hi.2.2 3 _ rfl
  have c5 : w.cell? ⟨g, p + 5, none⟩ = some (.int .i64 i.n) := hi.2.2 5 _ rfl
  have hg := World.block_lt_of_cell? w _ c0
  simp only at hg
  obtain ⟨k, hk, hlt⟩ := inR_nat ha
  obtain ⟨x0, hlt', hw0⟩ := hr.cell hlt
  have hrl := hr.blk.lt
  obtain ⟨k2, hk2, hlt2⟩ := inR_nat hb
  obtain ⟨A, c, hbk, -, -, -⟩ := h.iv
  have m5 : w.cell? ⟨X.b, 6, none⟩ = some (.slice (some ⟨X.sb, 0, none⟩) X.m.g.length X.m.g.length) := hbk.cell 6
  have ml := hbk.lt
  have hlt2' : (k2 : Int) < X.m.g.length := by omega
  have hls : k2 < s.sc.length := by rw [h.scl]; exact hlt2
  have y0 : w.cell? ⟨X.sb, k2, none⟩ = some (.int .i64 (at0 s.sc k2)) := by
    rw [at0_lt hls]
    have := h.sc.cell k2
    simpa [List.getElem?_eq_getElem hls] using this
  have yf := h.sc.frozen k2
  have sl := h.sc.lt
  rw [hk] at c3 ⊢
  rw [hk2] at c5 ⊢
  have H1 := Lib.hid ((h.less (k' := 0) (by omega)).setSc (j := k2) hw0)
  simp only [Int.toNat_natCast]
  generalize at0 r (k : Int) = v at *
  generalize at0 s.sc (k2 : Int) = v0 at *
  generalize X.m.g.length = gn at *
  generalize r.length = rn at *
  clear h hi hop e ha hk hk2 hb hbk hls hr hw0
  unfold mcp rgs
  go_enter Try.func44, Try.ntmps44
  go_wp2_with fail
  go_region
  all_goals
    go_wp2_with fail
    go_ret
    exact ⟨rfl, _, H1.out.1.below (bd1 _), H1.out.2.trans (.of (bd1 _))⟩
theorem McV.push (h : McV X 1 w s ov) {x : Int} {w1 w2 : World} {g' cap : Nat} (h1 : Below w.heap.size w w1) (hs : w1.heap.size = w.heap.size + 1) (hown : w2.ownsRow X.base tI1 1 (.slice (some ⟨g', 0, none⟩) (s.out.length + 1) cap) (s.out.length + 1) (s.out.map (Value.int .i64) ++ [.int .i64 x]))
    (hg : w1.grownBy w2 ov.ownBlock) (hgl : ov.ownBlock = some g' ∨ g' = w1.heap.size) :
    McV X 0 (w2.setCell ⟨X.b, 2, none⟩ (.slice (some ⟨g', 0, none⟩) (s.out.length + 1) cap)) { s with out := s.out ++ [x] } (.slice (some ⟨g', 0, none⟩) (s.out.length + 1) cap) ∧ Km X w ov (w2.setCell ⟨X.b, 2, none⟩ (.slice (some ⟨g', 0, none⟩) (s.out.length + 1) cap)) (.slice (some ⟨g', 0, none⟩) (s.out.length + 1) cap) := by
  obtain ⟨iv, hb, hi⟩ := h.blk
  obtain ⟨n, D, hmp, he, hn⟩ := h.mp
  have hbb := h.bb
  have hne := h.ne
  have hbl := hb.lt
  have hsl := h.sc.lt
  have hml := hmp.lt
  have hsz := hg.size
  have hgx : X.base ≤ g' ∧ g' ≠ X.b ∧ g' ≠ X.sb ∧ g' ≠ X.mb := by
    rcases hgl with e | e
    · have := h.own g' e; exact ⟨this.1, this.2.2⟩
    · refine ⟨by omega, by omega, by omega, by omega⟩
  have old : ∀ i, i < w.heap.size → some i ≠ ov.ownBlock → w2.heap[i]? = w.heap[i]? := fun i hi hne => (hg.block i (by omega) hne).trans (h1.block i hi)
  have hB2 : Below X.base w w2 := ⟨hg.os.trans h1.os, hg.tape.trans h1.tape, hg.output.trans h1.output, by omega, fun i hi => old i (by omega) (fun e => by have := (h.own i e.symm).1; omega)⟩
  have hB : Below X.base w (w2.setCell ⟨X.b, 2, none⟩ (.slice (some ⟨g', 0, none⟩) (s.out.length + 1) cap)) := hB2.setCell (p := ⟨X.b, 2, none⟩) hbb.1 _
  have hb2 : Blk w2 X.b tMc (mcA X iv ov s.st s.calls) := (old X.b hbl (fun e => (h.own _ e.symm).2.2.1 rfl)).trans hb
  have hs2 : Blk w2 X.sb tI1 (s.sc.map (Value.int .i64)).toArray := (old X.sb hsl (fun e => (h.own _ e.symm).2.2.2.1 rfl)).trans h.sc
  have hbnd := h.bnd
  refine ⟨⟨⟨iv, hb2.set_ 2 _, hi.below hB⟩, h.mod.below hB, ?_, hs2.far (p := ⟨X.b, 2, none⟩) hne.1.symm _, h.scl, h.scw, ⟨n, D, mapKeep hmp ((Below.heap_setCell _ _ _ _ (fun e => hne.2.1 e.symm)).trans (old _ hml (fun e => (h.own _ e.symm).2.2.2.2 rfl))), he, by simp only; omega⟩, h.elw, h.bb, h.ne, ?_, by simp only [List.length_append, List.length_singleton]; omega, h.cap, h.st, h.ca⟩, ?_⟩
  · simp only [List.length_append, List.length_singleton, List.map_append, List.map_cons, List.map_nil]
    exact rowKeep hown fun i hi => Below.heap_setCell _ _ _ _ (by simp [Value.ownBlock] at hi; subst hi; exact hgx.2.1)
  · simp [Value.ownBlock]; exact hgx.2.2.1
  · refine ⟨hg.os.trans h1.os, hg.tape.trans h1.tape, hg.output.trans h1.output, by simp; omega, fun i hi h1' h2' h3' h4' => (Below.heap_setCell _ _ _ _ h1').trans (old i hi h4'), ?_⟩
    rcases hgl with e | e
    · exact .inl (by rw [e]; rfl)
    · exact .inr ⟨g', rfl, by omega⟩
set_option maxHeartbeats 1000000 in
set_option maxRecDepth 100000 in
/-- A number is output. -/
theorem write_any (h : McV X 1 w s ov) (hst : 0 ≤ s.st) (v : Int) :
    Calls Try.prog 62 #[crp X, .int .i64 v] w fun e w' => e = .returned (.tuple #[]) ∧ ∃ ov', McV X 0 w' { s with out := s.out ++ [v] } ov' ∧ Km X w ov w' ov' := by
  obtain ⟨oA, oc, rfl⟩ : ∃ A cp, ov = .slice A s.out.length cp := by
    rcases h.out.2 with ⟨hv, h0⟩ | ⟨g, cap, cur, hv, _⟩
    · exact ⟨none, 0, by rw [hv, h0]⟩
    · exact ⟨_, _, hv⟩
  obtain ⟨A, c, hbk, -, -, -⟩ := h.iv
  have m2 : w.cell? ⟨X.b, 2, none⟩ = some (.slice oA s.out.length oc) := hbk.cell 2
  have mf := hbk.frozen 2
  have ml := hbk.lt
  have hbv : some X.b ≠ (Value.slice oA s.out.length oc).ownBlock := fun e => (h.own _ e.symm).2.2.1 rfl
  have hrow : (w.alloc (.cells #[.int .i64 v] tI1)).ownsRow X.base tI1 1 (.slice oA s.out.length oc) s.out.length (s.out.map (Value.int .i64)) := h.out.alloc _
  have hnews : ∀ j u, [Value.int .i64 v][j]? = some u → (w.alloc (.cells #[.int .i64 v] tI1)).cell? ((⟨w.heap.size, 0, none⟩ : Addr).add j) = some u := World.news_of_block (cs := #[.int .i64 v]) (Blk.new w tI1 #[.int .i64 v])
  have hb1 : Below w.heap.size w (w.alloc (.cells #[.int .i64 v] tI1)) := (Below.refl _ _).alloc (Nat.le_refl _) _
  have HW := Lib.hid (And.intro hrow (And.intro hnews (And.intro hb1 hbv)))
  have hbs : X.base ≤ w.heap.size := by have := h.bb; omega
  have hmx : s.out.length ≤ 1000000000000 := by have := h.bnd; have := h.cap; omega
  have H1 := Lib.hid h
  obtain ⟨ib, hib, hbz0, hbz1, hbz2⟩ := info_parts intInfo
  clear h hbk hrow hnews hb1 hbv
  unfold crp
  go_enter Try.func62, Try.ntmps62
  refine wp_region_list ?_
  iterate 7
    refine wpList_plain rfl fun K hK => ?_
    go_simp
    refine hK _ _ ?_
    clear hK K
  at_builtin
  refine wpList_append_lies _ rfl (.tmp 8) (.tmp 10) 26 rfl X.base tI1 ib _ 1 8 Try.underlying26 hib hbz0 hbz1 hbz2 rfl (by decide) _ s.out.length (s.out.map (Value.int .i64)) rfl HW.out.1 ⟨w.heap.size, 0, none⟩ 1 1 [.int .i64 v] rfl rfl HW.out.2.1 (by simp [Value.oneCell']) (by decide) (by unfold maxLen; omega) (by omega) (by simp; omega) (w.heap.size + 1) (by simp) ?_
  intro g1 cap w2 hown hgrow hgl hlt2
  have q3 := (hgrow.cell_far ⟨X.b, 2, none⟩ (by simp; omega) HW.out.2.2.2).trans ((World.cell?_alloc_past _ _ _ ml).trans m2)
  have r3 := (hgrow.frozen_far ⟨X.b, 2, none⟩ (by simp; omega) HW.out.2.2.2).trans ((World.frozen?_alloc_past _ _ _ ml).trans mf)
  have q1 := H1.out.push (x := v) HW.out.2.2.1 (by simp) hown hgrow (by rcases hgl with e | e; exact .inl e; exact .inr (by rw [e]; simp))
  have l1 : X.b < w2.heap.size := by have := hgrow.size; simp at this; omega
  have HQ := Lib.hid q1
  clear q1 hown hgrow
  go_wp2_with fail
  go_end0
  exact ⟨rfl, _, HQ.out.1, HQ.out.2⟩
set_option maxHeartbeats 1000000 in
set_option maxRecDepth 100000 in
theorem do11_any (h : McV X 1 w s ov) (hst : 0 ≤ s.st) (hr : RgV X w rb r ov) (hi : InA w X.base g p i av) (hop : i.op = 11) (ha : inR r i.a = true) :
    Calls Try.prog 44 #[mcp X, rgs rb r.length, .pointer (some ⟨g, p, none⟩)] w (RnP X 0 w ov en1 (doM X.m r i s)) := by
  have e : doM X.m r i s = .ok [0] { s with out := s.out ++ [at0 r i.a] } := by unfold doM; rw [if_neg (by omega), if_neg (by omega), if_neg (by omega), if_neg (by omega), if_neg (by omega), if_neg (by omega), if_neg (by omega), if_neg (by omega), if_neg (by omega), if_pos hop]
  rw [e]
  have c0 : w.cell? ⟨g, p, none⟩ = some (.int .i64 11) := by rw [← hop]; exact hi.2.2 0 _ rfl
  have c3 : w.cell? ⟨g, p + 3, none⟩ = some (.int .i64 i.a) := hi.2.2 3 _ rfl
  have hg := World.block_lt_of_cell? w _ c0
  simp only at hg
  obtain ⟨k, hk, hlt⟩ := inR_nat ha
  obtain ⟨x0, hlt', hw0⟩ := hr.cell hlt
  have hrl := hr.blk.lt
  have ml := h.lt
  rw [hk] at c3 ⊢
  generalize hs' : ({ s with out := s.out ++ [at0 r (k : Int)] } : Mst) = s' at *
  have HWR : Hid (∀ W, Below w.heap.size w W → Calls Try.prog 62 #[.pointer (some ⟨X.b, 2, none⟩), .int .i64 (at0 r (k : Int))] W fun e w' => e = .returned (.tuple #[]) ∧ ∃ ov', McV X 0 w' s' ov' ∧ Km X w ov w' ov') := Lib.hid fun W hW => (write_any (h.below hW) hst (at0 r (k : Int))).mono fun e w' ⟨h1, ov', h2, h3⟩ => ⟨h1, ov', by rw [← hs']; exact h2, (Km.of hW).trans h3⟩
  have HG : Hid (X.base ≤ X.b ∧ g < X.base ∧ X.base ≤ X.sb ∧ X.base ≤ X.mb ∧ (∀ g', ov.ownBlock = some g' → X.base ≤ g') ∧ (rb ≠ X.b ∧ rb ≠ X.sb ∧ rb ≠ X.mb) ∧ some rb ≠ ov.ownBlock) := Lib.hid ⟨h.bb.1, hi.2.1, h.bb.2.1, h.bb.2.2, fun g' e => (h.own g' e).1, hr.ne, hr.nov⟩
  generalize at0 r (k : Int) = v at *
  generalize r.length = rn at *
  have HS : Hid (∀ Wx : World, w.heap.size ≤ Wx.heap.size → Wx.heap[g]? = w.heap[g]? → Wx.heap[rb]? = w.heap[rb]? → Wx.cell? ⟨g, p + 3, none⟩ = some (.int .i64 k) ∧ Wx.cell? ⟨rb, k, none⟩ = some (.int .i64 v) ∧ g < Wx.heap.size ∧ rb < Wx.heap.size) := Lib.hid fun Wx hz h1 h2 =>
    ⟨(show Wx.cell? ⟨g, p + 3, none⟩ = w.cell? ⟨g, p + 3, none⟩ from World.cell?_of_block (w := w) h1).trans c3, (show Wx.cell? ⟨rb, k, none⟩ = w.cell? ⟨rb, k, none⟩ from World.cell?_of_block (w := w) h2).trans x0, by omega, by omega⟩
  have J0 : Below w.heap.size w w := Below.refl _ _
  clear h hi hop e ha hk hr hw0 hs'
  unfold mcp rgs
  go_enter Try.func44, Try.ntmps44
  go_wp2_with fail
  go_region_held2 (fun Wx => Wx.cell? ⟨g, p + 3, none⟩ = some (.int .i64 k) ∧ Wx.cell? ⟨rb, k, none⟩ = some (.int .i64 v) ∧ g < Wx.heap.size ∧ rb < Wx.heap.size)
    (first | exact ⟨c3, x0, hg, hrl⟩ | exact HS.out _ K9.1 K9.2.1 K9.2.2)
    (first
      | (go_at_call 62; (with_reducible refine Calls.mono (HWR.out _ (by first | exact J0.drew | exact J0)) ?_); rintro e v1 ⟨rfl, ov1, h1, k1⟩; have HQ := Lib.hid (And.intro h1 k1); have K9 : w.heap.size ≤ v1.heap.size ∧ v1.heap[g]? = w.heap[g]? ∧ v1.heap[rb]? = w.heap[rb]? := ⟨HQ.out.2.size, HQ.out.2.block g hg (by have := HG.out; omega) (by have := HG.out; omega) (by have := HG.out; omega) (fun e => by have := HG.out.2.2.2.2.1 g e.symm; have := HG.out; omega), HQ.out.2.block rb hrl HG.out.2.2.2.2.2.1.1 HG.out.2.2.2.2.2.1.2.1 HG.out.2.2.2.2.2.1.2.2 HG.out.2.2.2.2.2.2⟩; clear h1 k1))
  all_goals
    go_wp2_with fail
    go_ret
    exact ⟨rfl, _, HQ.out.1, HQ.out.2⟩
end
end Go.Proofs.Ytgcjfbgfoiekmaa
