/-
  Layer dom: the visit's closure: two rows grow by one.
-/
import Derived.Test.YtjmlpbnejcfnhaaDmi
import Derived.Deep.RegionLaw
import Derived.Deep.DeepCutAuto
namespace Go.Proofs.Ytjmlpbnejcfnhaa
open Go Go.RowKit Go.Maps
set_option linter.unusedVariables false
set_option linter.unusedSimpArgs false

theorem news1 {w : World} {b : Nat} {x : Int} (h : Blk w b tI1 #[.int .i64 x]) : ∀ j u, [Value.int .i64 x][j]? = some u → w.cell? ((⟨b, 0, none⟩ : Addr).add j) = some u := World.news_of_block (cs := #[.int .i64 x]) h
theorem blk_grown {w w' : World} {b : Nat} {t : TypeId} {cs : Array Value} {r : Option Nat} (h : Blk w b t cs) (hg : w.grownBy w' r) (hne : r ≠ some b) : Blk w' b t cs := (hg.block b h.lt fun e => hne e.symm).trans h
/-- How much a visit may still hold. -/
structure WkB (N C : Nat) (k : Wk) : Prop where
  b : k.blk.length + k.un ≤ N
  p : k.par.length = k.blk.length
  o : k.ord.length + k.un ≤ C
  n : k.num.length = N
theorem getD_neg {k : Wk} {a : Nat} (h : k.num.getD a 0 < 0) : ∃ y, k.num[a]? = some y ∧ y < 0 := by
  rw [List.getD_eq_getElem?_getD] at h
  rcases e : k.num[a]? with _ | y
  · rw [e] at h; simp at h
  · rw [e] at h; exact ⟨y, rfl, h⟩
theorem WkB.begun {N C : Nat} {k : Wk} (h : WkB N (C + 1) k) {a p : Nat} (ha : k.num.getD a 0 < 0) : WkB N C (k.begun a p) := by
  obtain ⟨y, hy, hy0⟩ := getD_neg ha
  have := k.un_begun_lt (p := p) hy hy0
  have h1 := h.b
  have h3 := h.o
  exact ⟨by simp only [Wk.begun, List.length_append, List.length_singleton] at this ⊢; omega, by simp [Wk.begun, h.p], by simp only [Wk.begun] at this ⊢; omega, by simp [Wk.begun, h.n]⟩
theorem WkB.done {N C : Nat} {k : Wk} (h : WkB N C k) (a : Nat) : WkB N (C + 1) (k.done a) :=
  ⟨h.b, h.p, by have := h.o; simp only [Wk.done, List.length_append, List.length_singleton, Wk.un] at this ⊢; omega, h.n⟩
theorem visW_b {T : List (List Nat)} {N : Nat} (F : Nat) : ∀ (C a p : Nat) (k : Wk), WkB N C k → k.num.getD a 0 < 0 → WkB N C (visW T F a p k) := by
  induction F with
  | zero => exact fun _ _ _ _ h _ => h
  | succ F ih =>
    intro C a p k h ha
    obtain ⟨y, hy, hy0⟩ := getD_neg ha
    have hun : 0 < k.un := List.countP_pos_iff.2 ⟨y, List.mem_of_getElem? hy, by simpa using hy0⟩
    obtain ⟨C, rfl⟩ : ∃ D, C = D + 1 := ⟨C - 1, by have := h.o; omega⟩
    unfold visW
    refine (foldl_mem (WkB N C) _ _ (fun s t _ hs => ?_) _ (h.begun ha)).done a
    split
    · exact ih C t _ s hs (by assumption)
    · exact hs
/-- One round of the visit's loop. -/
def vst (T : List (List Nat)) (F n : Nat) (s : Wk) (t : Nat) : Wk := if s.num.getD t 0 < 0 then visW T F t n s else s
theorem visW_eq (T : List (List Nat)) (F a p : Nat) (k : Wk) : visW T (F + 1) a p k = ((T.getD a []).foldl (vst T F k.blk.length) (k.begun a p)).done a := rfl
/-- Within the region: the rows as they are by now, the walk's box as it was. -/
structure St2 (X : VX) (W1 W : World) (c0 c1 c2 c3 c4 b p o : Value) (bl pl ol : List Nat) (n m : Nat) : Prop where
  r : Ro3 W X.hi b p o bl pl ol
  f : X.Fr W1 W
  x : Blk W X.wb tWk #[c0, c1, c2, c3, c4]
  v : Blk W X.vb tVi #[.func (.func 47) #[] #[.pointer (some ⟨X.wb, 0, none⟩), .pointer (some ⟨X.vb, 0, none⟩)]]
  nb : W.heap[X.nb]? = W1.heap[X.nb]?
  wh : X.wb < X.hi ∧ X.nb < X.hi
  hs : X.hi ≤ W.heap.size
  ln : n = bl.length
  lm : m = pl.length
section
variable {X : VX} {W1 W w2 : World} {c0 c1 c2 c3 c4 b p o : Value} {bl pl ol : List Nat} {n m : Nat}
theorem St2.alloc (h : St2 X W1 W c0 c1 c2 c3 c4 b p o bl pl ol n m) (x : Obj) : St2 X W1 (W.alloc x) c0 c1 c2 c3 c4 b p o bl pl ol n m :=
  ⟨h.r.alloc x, h.f.trans (Fr.alloc h.hs), h.x.alloc x, h.v.alloc x, (((Below.refl W.heap.size W).alloc (Nat.le_refl _) x).block X.nb (by have := h.hs; have := h.wh; omega)).trans h.nb, h.wh, by have := h.hs; simp; omega, h.ln, h.lm⟩
theorem St2.drew (h : St2 X W1 W c0 c1 c2 c3 c4 b p o bl pl ol n m) : St2 X W1 W.drew c0 c1 c2 c3 c4 b p o bl pl ol n m :=
  ⟨h.r.drewN 1, h.f.trans (Fr.drewN 1), h.x, h.v, h.nb, h.wh, h.hs, h.ln, h.lm⟩
theorem St2.app4 (h : St2 X W1 W c0 c1 c2 c3 c4 b p o bl pl ol n m) {x g cap : Nat} (hr : w2.ownsRow X.hi tI1 1 (.slice (some ⟨g, 0, none⟩) (n + 1) cap) (n + 1) (ints bl ++ [.int .i64 (x : Int)])) (hg : W.grownBy w2 b.ownBlock) (hat : b.ownBlock = some g ∨ g = W.heap.size) :
    St2 X W1 w2 c0 c1 c2 c3 c4 (.slice (some ⟨g, 0, none⟩) (n + 1) cap) p o (bl ++ [x]) pl ol (n + 1) m :=
  ⟨h.r.appB h.ln hr hg hat, h.f.trans (Fr.grown hg h.hs fun k hk => .inr (own_lt h.r.b hk).2), blk_grown h.x hg (fun e => by have := (own_lt h.r.b e).2; have := h.wh; omega), blk_grown h.v hg (fun e => h.v.not_row (by decide) h.r.b e.symm), (hg.block X.nb (by have := h.hs; have := h.wh; omega) (fun e => by have := (own_lt h.r.b e.symm).2; have := h.wh; omega)).trans h.nb, h.wh, Nat.le_trans h.hs hg.size, by rw [List.length_append, h.ln]; rfl, h.lm⟩
theorem St2.app9 (h : St2 X W1 W c0 c1 c2 c3 c4 b p o bl pl ol n m) {x g cap : Nat} (hr : w2.ownsRow X.hi tI1 1 (.slice (some ⟨g, 0, none⟩) (m + 1) cap) (m + 1) (ints pl ++ [.int .i64 (x : Int)])) (hg : W.grownBy w2 p.ownBlock) (hat : p.ownBlock = some g ∨ g = W.heap.size) :
    St2 X W1 w2 c0 c1 c2 c3 c4 b (.slice (some ⟨g, 0, none⟩) (m + 1) cap) o bl (pl ++ [x]) ol n (m + 1) :=
  ⟨h.r.appP h.lm hr hg hat, h.f.trans (Fr.grown hg h.hs fun k hk => .inr (own_lt h.r.p hk).2), blk_grown h.x hg (fun e => by have := (own_lt h.r.p e).2; have := h.wh; omega), blk_grown h.v hg (fun e => h.v.not_row (by decide) h.r.p e.symm), (hg.block X.nb (by have := h.hs; have := h.wh; omega) (fun e => by have := (own_lt h.r.p e.symm).2; have := h.wh; omega)).trans h.nb, h.wh, Nat.le_trans h.hs hg.size, h.ln, by rw [List.length_append, h.lm]; rfl⟩
theorem St2.cs (h : St2 X W1 W c0 c1 c2 c3 c4 b p o bl pl ol n m) : W.cell? ⟨X.wb, 2, none⟩ = some c2 ∧ W.cell? ⟨X.wb, 3, none⟩ = some c3 ∧ W.frozen? ⟨X.wb, 2, none⟩ = false ∧ W.frozen? ⟨X.wb, 3, none⟩ = false ∧ X.wb < W.heap.size :=
  ⟨h.x.cell 2, h.x.cell 3, h.x.frozen 2, h.x.frozen 3, h.x.lt⟩
end
set_option maxHeartbeats 8000000 in
set_option maxRecDepth 100000 in
theorem visit_any {X : VX} (hX : X.ok) {N : Nat} (hT : RowsOk N X.T) (hN : N ≤ 400) (F : Nat) (IH : ∀ (F' : Nat), F' < F → ∀ (C at_ par : Nat) (k : Wk) (w : World), WkV X w k → k.num.getD at_ 0 < 0 → k.un ≤ F' → WkB N C k → C ≤ 1000 → at_ < N → par ≤ 400 →
      Calls Try.prog 47 #[.int .i64 at_, .int .i64 par, .pointer (some ⟨X.wb, 0, none⟩), .pointer (some ⟨X.vb, 0, none⟩)] w fun e w' => e = .returned (.tuple #[]) ∧ WkV X w' (visW X.T F' at_ par k) ∧ X.Fr w w')
    (C at_ par : Nat) (k : Wk) (w : World) (h : WkV X w k) (ha : k.num.getD at_ 0 < 0) (hu : k.un ≤ F) (hB : WkB N (C + 1) k) (hC : C ≤ 999) (haN : at_ < N) (hp : par ≤ 400) :
    Calls Try.prog 47 #[.int .i64 at_, .int .i64 par, .pointer (some ⟨X.wb, 0, none⟩), .pointer (some ⟨X.vb, 0, none⟩)] w fun e w' => e = .returned (.tuple #[]) ∧ WkV X w' (visW X.T F at_ par k) ∧ X.Fr w w' := by
  obtain ⟨y, hy, hy0⟩ := getD_neg ha
  have hun : 0 < k.un := List.countP_pos_iff.2 ⟨y, List.mem_of_getElem? hy, by simpa using hy0⟩
  obtain ⟨F, rfl⟩ : ∃ D, F = D + 1 := ⟨F - 1, by omega⟩
  obtain ⟨nv, bv, pv, ov, hw, hn, hr⟩ := h.x
  obtain ⟨ncap, rfl, hnl, hnm⟩ := hn.sl
  have hnc := hn.cell hy
  have hnf := hn.frozen at_
  have hnl := hn.lt
  have c1 : w.cell? ⟨X.wb, 1, none⟩ = some (.slice (some ⟨X.nb, 0, none⟩) k.num.length ncap) := hw.cell 1
  have c2 : w.cell? ⟨X.wb, 2, none⟩ = some bv := hw.cell 2
  have c3 : w.cell? ⟨X.wb, 3, none⟩ = some pv := hw.cell 3
  have hwl := hw.lt
  obtain ⟨bA, bc, rfl⟩ : ∃ A c, bv = .slice A k.blk.length c := by
    rcases hr.b.2 with ⟨rfl, e⟩ | ⟨g, cap, cur, rfl, _⟩
    · exact ⟨_, _, by rw [e]⟩
    · exact ⟨_, _, rfl⟩
  obtain ⟨pA, pc, rfl⟩ : ∃ A c, pv = .slice A k.blk.length c := by
    rw [← hB.p]
    rcases hr.p.2 with ⟨rfl, e⟩ | ⟨g, cap, cur, rfl, _⟩
    · exact ⟨_, _, by rw [e]⟩
    · exact ⟨_, _, rfl⟩
  have hane : X.nb ≠ X.wb := hX.ne.2.2
  obtain ⟨N', hN'⟩ : ∃ x, k.num.length = x := ⟨_, rfl⟩
  have hNN : N' = N := by rw [← hN', hB.n]
  rw [hN'] at c1
  subst hNN
  obtain ⟨bl, hbl⟩ : ∃ x, k.blk.length = x := ⟨_, rfl⟩
  rw [hbl] at c2 c3
  have hblN : bl ≤ 400 := by have := hB.b; omega
  have HH := Lib.hid (And.intro h (And.intro hw (And.intro hn hr)))
  have HA := Lib.hid (And.intro ha (And.intro hy (And.intro hy0 (And.intro hu (And.intro hB hN')))))
  have HI := Lib.hid IH
  have HBL := Lib.hid hbl
  clear h hw hn hr ha hy hu hB hN' IH hbl hun hnm
  go_enter Try.func47, Try.ntmps47
  go_upto_region 2 with (fail)
  have hset := HH.out.2.2.1.set (i := at_) (by rw [HA.out.2.2.2.2.2]; exact haN) (bl : Int)
  have hfs : X.Fr w (w.setCell ⟨X.nb, at_, none⟩ (.int .i64 (bl : Int))) := Fr.set (p := ⟨X.nb, at_, none⟩) (.inl (.inl rfl))
  have hnh : X.nb < X.hi := by have := hX.nb; have := hX.lh; omega
  have hwh : X.wb < X.hi := by have := hX.wb; have := hX.lh; omega
  have hro := HH.out.2.2.2.far (q := ⟨X.nb, at_, none⟩) hnh (.int .i64 (bl : Int))
  have hbw : Blk (w.setCell ⟨X.nb, at_, none⟩ (.int .i64 (bl : Int))) X.wb tWk _ := HH.out.2.1.far (p := ⟨X.nb, at_, none⟩) (Ne.symm hane) _
  have htos : TosV (w.setCell ⟨X.nb, at_, none⟩ (.int .i64 (bl : Int))) X.lo X.hi X.tb X.vals X.T := HH.out.1.t.fr hfs (Nat.le_refl _) (by have := hX.nb; have := hX.wb; intro k hk; omega) (by have := hX.tb; have := hX.lh; omega) (by have := hX.ne; omega)
  have hbv : Blk (w.setCell ⟨X.nb, at_, none⟩ (.int .i64 (bl : Int))) X.vb tVi _ := HH.out.1.v.far (p := ⟨X.nb, at_, none⟩) (by have := hX.vb; show X.vb ≠ X.nb; omega) _
  rw [HA.out.2.2.2.2.2, HBL.out] at hbw
  generalize w.setCell ⟨X.nb, at_, none⟩ (.int .i64 (bl : Int)) = W1 at *
  have hhs : X.hi < W1.heap.size := by have := hbv.lt; have := hX.vb; omega
  have HW := Lib.hid (And.intro hset (And.intro hfs (And.intro hro (And.intro hbw (And.intro htos hbv)))))
  have hst : St2 X W1 W1 _ _ _ _ _ _ _ _ _ _ _ bl bl := ⟨hro, Fr.refl _, hbw, hbv, rfl, ⟨hwh, hnh⟩, Nat.le_of_lt hhs, HBL.out.symm, by rw [HA.out.2.2.2.2.1.p]; exact HBL.out.symm⟩
  have HNE : Hid ((Value.slice bA bl bc).ownBlock ≠ some W1.heap.size ∧ (Value.slice bA bl bc).ownBlock ≠ some (W1.heap.size + 1)) := Lib.hid ⟨fun e => by have := (own_lt hro.b (by rw [HBL.out]; exact e)).1; omega, fun e => by have := (own_lt hro.b (by rw [HBL.out]; exact e)).1; omega⟩
  have hx1 := Blk.new W1 tI1 #[.int .i64 (at_ : Int)]
  have hy1 := Blk.new W1 tI1 #[.int .i64 (par : Int)]
  have hxy := Blk.new (W1.alloc (.cells #[.int .i64 (at_ : Int)] tI1)) tI1 #[.int .i64 (par : Int)]
  have hyx := Blk.new (W1.alloc (.cells #[.int .i64 (par : Int)] tI1)) tI1 #[.int .i64 (at_ : Int)]
  rw [size1] at hxy hyx
  simp only [HBL.out] at hst
  have FA := Lib.hid (And.intro (hst.alloc (.cells #[.int .i64 (at_ : Int)] tI1)).drew (And.intro (show Blk (W1.alloc (.cells #[.int .i64 (at_ : Int)] tI1)).drew W1.heap.size tI1 _ from hx1) trivial))
  have FB := Lib.hid (And.intro ((hst.alloc (.cells #[.int .i64 (at_ : Int)] tI1)).alloc (.cells #[.int .i64 (par : Int)] tI1)).drew (And.intro (show Blk ((W1.alloc (.cells #[.int .i64 (at_ : Int)] tI1)).alloc (.cells #[.int .i64 (par : Int)] tI1)).drew W1.heap.size tI1 _ from hx1.alloc _) (show Blk ((W1.alloc (.cells #[.int .i64 (at_ : Int)] tI1)).alloc (.cells #[.int .i64 (par : Int)] tI1)).drew (W1.heap.size + 1) tI1 _ from hxy)))
  have FC := Lib.hid (And.intro ((hst.alloc (.cells #[.int .i64 (par : Int)] tI1)).alloc (.cells #[.int .i64 (at_ : Int)] tI1)).drew (And.intro (show Blk ((W1.alloc (.cells #[.int .i64 (par : Int)] tI1)).alloc (.cells #[.int .i64 (at_ : Int)] tI1)).drew (W1.heap.size + 1) tI1 _ from hyx) (show Blk ((W1.alloc (.cells #[.int .i64 (par : Int)] tI1)).alloc (.cells #[.int .i64 (at_ : Int)] tI1)).drew W1.heap.size tI1 _ from hy1.alloc _)))
  have HROW : Hid (∀ {W : World}, W.ownsRow X.hi tI1 1 (.slice bA bl bc) k.blk.length (ints k.blk) → W.ownsRow X.hi tI1 1 (.slice bA bl bc) bl (ints k.blk)) := Lib.hid fun h => by rw [HBL.out] at h; exact h
  have HROP : Hid (∀ {W : World}, W.ownsRow X.hi tI1 1 (.slice pA bl pc) k.par.length (ints k.par) → W.ownsRow X.hi tI1 1 (.slice pA bl pc) bl (ints k.par)) := Lib.hid fun h => by rw [HA.out.2.2.2.2.1.p, HBL.out] at h; exact h
  obtain ⟨i0, hi, hz0, hz1, hz2⟩ := info_parts intInfo
  have k2 : W1.cell? ⟨X.wb, 2, none⟩ = some (.slice bA bl bc) := hbw.cell 2
  have k3 : W1.cell? ⟨X.wb, 3, none⟩ = some (.slice pA bl pc) := hbw.cell 3
  have kf2 := hbw.frozen 2
  have kf3 := hbw.frozen 3
  have kl := hbw.lt
  clear hset hfs hro htos hbv hnc hnf hnl c1 hnh c2 c3 hwl hx1 hy1 hxy hyx hst hbw
  go_cut [] (fun wx => ∃ bv' pv', Blk wx X.wb tWk #[.slice (some ⟨X.tb, 0, none⟩) X.T.length X.T.length, .slice (some ⟨X.nb, 0, none⟩) N' ncap, bv', pv', ov] ∧ Ro3 wx X.hi bv' pv' ov (k.blk ++ [at_]) (k.par ++ [par]) k.ord ∧ X.Fr W1 wx ∧ RwI wx X.nb (.slice (some ⟨X.nb, 0, none⟩) N' ncap) (k.num.set at_ (bl : Int)) ∧ TosV wx X.lo X.hi X.tb X.vals X.T ∧ Blk wx X.vb tVi #[.func (.func 47) #[] #[.pointer (some ⟨X.wb, 0, none⟩), .pointer (some ⟨X.vb, 0, none⟩)]])
  case first =>
    go_region_law (first
      | (refine step_append_lies _ rfl (.tmp 18) (.tmp 20) 31 rfl X.hi tI1 i0 _ 1 8 Try.underlying31 hi hz0 hz1 hz2 rfl (by decide) (.slice bA bl bc) bl (ints k.blk) (by simp [Act.eval, Act.put]) (HROW.out FA.out.1.r.b) ⟨W1.heap.size, 0, none⟩ 1 1 [.int .i64 (at_ : Int)] (by simp [Act.eval, Act.put]) rfl (news1 FA.out.2.1) (by simp [Value.oneCell']) (by decide) (by unfold maxLen; omega) (by omega) FA.out.1.hs _ rfl ?_; intro g1 cap1 w2 hown hgrow hgl hlt2; have HG := Lib.hid (FA.out.1.app4 hown hgrow hgl); clear hown hgrow hgl; obtain ⟨q2, q3, f2, f3, l2⟩ := HG.out.cs)
      | (refine step_append_lies _ rfl (.tmp 18) (.tmp 20) 31 rfl X.hi tI1 i0 _ 1 8 Try.underlying31 hi hz0 hz1 hz2 rfl (by decide) (.slice bA bl bc) bl (ints k.blk) (by simp [Act.eval, Act.put]) (HROW.out FB.out.1.r.b) ⟨W1.heap.size, 0, none⟩ 1 1 [.int .i64 (at_ : Int)] (by simp [Act.eval, Act.put]) rfl (news1 FB.out.2.1) (by simp [Value.oneCell']) (by decide) (by unfold maxLen; omega) (by omega) FB.out.1.hs _ rfl ?_; intro g1 cap1 w2 hown hgrow hgl hlt2; have HG := Lib.hid (FB.out.1.app4 hown hgrow hgl); have HY := Lib.hid (blk_grown FB.out.2.2 hgrow (fun e => HNE.out.2 e)); clear hown hgrow hgl; obtain ⟨q2, q3, f2, f3, l2⟩ := HG.out.cs)
      | (refine step_append_lies _ rfl (.tmp 18) (.tmp 20) 31 rfl X.hi tI1 i0 _ 1 8 Try.underlying31 hi hz0 hz1 hz2 rfl (by decide) (.slice bA bl bc) bl (ints k.blk) (by simp [Act.eval, Act.put]) (HROW.out FC.out.1.r.b) ⟨W1.heap.size + 1, 0, none⟩ 1 1 [.int .i64 (at_ : Int)] (by simp [Act.eval, Act.put]) rfl (news1 FC.out.2.1) (by simp [Value.oneCell']) (by decide) (by unfold maxLen; omega) (by omega) FC.out.1.hs _ rfl ?_; intro g1 cap1 w2 hown hgrow hgl hlt2; have HG := Lib.hid (FC.out.1.app4 hown hgrow hgl); have HY := Lib.hid (blk_grown FC.out.2.2 hgrow (fun e => HNE.out.1 e)); clear hown hgrow hgl; obtain ⟨q2, q3, f2, f3, l2⟩ := HG.out.cs)
      | (refine step_append_lies _ rfl (.tmp 23) (.tmp 25) 31 rfl X.hi tI1 i0 _ 1 8 Try.underlying31 hi hz0 hz1 hz2 rfl (by decide) (.slice pA bl pc) bl (ints k.par) (by simp [Act.eval, Act.put]) (HROP.out (HG.out.alloc (.cells #[.int .i64 (par : Int)] tI1)).r.p) ⟨w2.heap.size, 0, none⟩ 1 1 [.int .i64 (par : Int)] (by simp [Act.eval, Act.put]) rfl (news1 (Blk.new w2 tI1 #[.int .i64 (par : Int)])) (by simp [Value.oneCell']) (by decide) (by unfold maxLen; omega) (by omega) (HG.out.alloc (.cells #[.int .i64 (par : Int)] tI1)).hs _ rfl ?_; intro g2 cap2 w3 hown hgrow hgl hlt3; have HG3 := Lib.hid ((HG.out.alloc (.cells #[.int .i64 (par : Int)] tI1)).app9 hown hgrow hgl); clear hown hgrow hgl; obtain ⟨q2, q3, f2, f3, l2⟩ := HG3.out.cs)
      | (refine step_append_lies _ rfl (.tmp 23) (.tmp 25) 31 rfl X.hi tI1 i0 _ 1 8 Try.underlying31 hi hz0 hz1 hz2 rfl (by decide) (.slice pA bl pc) bl (ints k.par) (by simp [Act.eval, Act.put]) (HROP.out (HG.out).r.p) ⟨W1.heap.size + 1, 0, none⟩ 1 1 [.int .i64 (par : Int)] (by simp [Act.eval, Act.put]) rfl (news1 HY.out) (by simp [Value.oneCell']) (by decide) (by unfold maxLen; omega) (by omega) (HG.out).hs _ rfl ?_; intro g2 cap2 w3 hown hgrow hgl hlt3; have HG3 := Lib.hid ((HG.out).app9 hown hgrow hgl); clear hown hgrow hgl; obtain ⟨q2, q3, f2, f3, l2⟩ := HG3.out.cs)
      | (refine step_append_lies _ rfl (.tmp 23) (.tmp 25) 31 rfl X.hi tI1 i0 _ 1 8 Try.underlying31 hi hz0 hz1 hz2 rfl (by decide) (.slice pA bl pc) bl (ints k.par) (by simp [Act.eval, Act.put]) (HROP.out (HG.out).r.p) ⟨W1.heap.size, 0, none⟩ 1 1 [.int .i64 (par : Int)] (by simp [Act.eval, Act.put]) rfl (news1 HY.out) (by simp [Value.oneCell']) (by decide) (by unfold maxLen; omega) (by omega) (HG.out).hs _ rfl ?_; intro g2 cap2 w3 hown hgrow hgl hlt3; have HG3 := Lib.hid ((HG.out).app9 hown hgrow hgl); clear hown hgrow hgl; obtain ⟨q2, q3, f2, f3, l2⟩ := HG3.out.cs))
    all_goals
      go_wp2_with fail
      go_meet
      have hG := HG3.out
      have hb2 : Blk ((w3.setCell ⟨X.wb, 2, none⟩ (.slice (some ⟨g1, 0, none⟩) (bl + 1) cap1)).setCell ⟨X.wb, 3, none⟩ (.slice (some ⟨g2, 0, none⟩) (bl + 1) cap2)) X.wb tWk #[.slice (some ⟨X.tb, 0, none⟩) X.T.length X.T.length, .slice (some ⟨X.nb, 0, none⟩) N' ncap, .slice (some ⟨g1, 0, none⟩) (bl + 1) cap1, .slice (some ⟨g2, 0, none⟩) (bl + 1) cap2, ov] := (hG.x.set_ 2 _).set_ 3 _
      have hf2 : X.Fr W1 ((w3.setCell ⟨X.wb, 2, none⟩ (.slice (some ⟨g1, 0, none⟩) (bl + 1) cap1)).setCell ⟨X.wb, 3, none⟩ (.slice (some ⟨g2, 0, none⟩) (bl + 1) cap2)) := (hG.f.trans (Fr.set (p := ⟨X.wb, 2, none⟩) (.inl (.inr rfl)))).trans (Fr.set (p := ⟨X.wb, 3, none⟩) (.inl (.inr rfl)))
      refine ⟨_, _, hb2, (hG.r.far (q := ⟨X.wb, 2, none⟩) hwh _).far (q := ⟨X.wb, 3, none⟩) hwh _, hf2, ?_, ?_, ?_⟩
      · have h9 := ((HW.out.1.keep hG.nb).far (p := ⟨X.wb, 2, none⟩) hane (.slice (some ⟨g1, 0, none⟩) (bl + 1) cap1)).far (p := ⟨X.wb, 3, none⟩) hane (.slice (some ⟨g2, 0, none⟩) (bl + 1) cap2)
        rw [HA.out.2.2.2.2.2] at h9
        exact h9
      · exact HW.out.2.2.2.2.1.fr hf2 (Nat.le_refl _) (by have := hX.nb; have := hX.wb; intro k hk; omega) (by have := hX.tb; have := hX.lh; omega) (by have := hX.ne; omega)
      · exact (hG.v.far (p := ⟨X.wb, 2, none⟩) (by have := hX.vb; show X.vb ≠ X.wb; omega) _).far (p := ⟨X.wb, 3, none⟩) (by have := hX.vb; show X.vb ≠ X.wb; omega) _
  case rest =>
    obtain ⟨bv', pv', hb', hr', hf', hn', ht', hv'⟩ := hcut
    have hk : WkV X wc (k.begun at_ par) := ⟨⟨.slice (some ⟨X.nb, 0, none⟩) N' ncap, bv', pv', ov, hb', by rw [show (k.begun at_ par).num = k.num.set at_ (bl : Int) by rw [← HBL.out]; rfl]; exact hn', hr'⟩, ht', hv'⟩
    have hTN : at_ < X.T.length := by rw [hT.1]; exact haN
    obtain ⟨rv, hvals, hrc, hrd⟩ := ht'.at hTN
    obtain ⟨rA, rc, rfl, hrl, hrm⟩ := hrd.sl
    have d0 : wc.cell? ⟨X.wb, 0, none⟩ = some (.slice (some ⟨X.tb, 0, none⟩) X.T.length X.T.length) := hb'.cell 0
    have dl := hb'.lt
    have dtl := ht'.blk.lt
    obtain ⟨TN, hTNe⟩ : ∃ x, X.T.length = x := ⟨_, rfl⟩
    rw [hTNe] at d0 hTN
    obtain ⟨L, hL⟩ : ∃ L, X.T.getD at_ [] = L := ⟨_, rfl⟩
    rw [hL] at hrc hrd hrl hvals
    rw [show (nz L).length = L.length by simp [nz]] at hrc hrl hvals
    obtain ⟨ln, hln⟩ : ∃ x, L.length = x := ⟨_, rfl⟩
    rw [hln] at hrc hrl hvals
    unfold maxLen at hrm
    obtain ⟨R, hR⟩ : ∃ R, L.foldl (vst X.T F bl) (k.begun at_ par) = R := ⟨_, rfl⟩
    have hB2 : WkB N' C (k.begun at_ par) := HA.out.2.2.2.2.1.begun HA.out.1
    have hu2 : (k.begun at_ par).un ≤ F := by have := k.un_begun_lt (p := par) HA.out.2.1 HA.out.2.2.1; have := HA.out.2.2.2.1; omega
    have HK := Lib.hid (And.intro hk (And.intro hB2 (And.intro hu2 hR)))
    have HL := Lib.hid (And.intro hL (And.intro hln (And.intro hvals hTNe)))
    have HF' := Lib.hid (HW.out.2.1.trans hf')
    clear hb' hr' hf' hn' ht' hv' hk hvals hrd hL hln hR hB2 hu2 hTNe HW HNE FA FB FC HROW HROP k2 k3 kf2 kf3 kl hi hz0 hz1 hz2
    go_wp2_with fail
    go_loopw [35] (fun v wr => ∃ (m : Nat) (s : Wk), m ≤ ln ∧ v = .int .i64 m ∧ WkV X wr s ∧ X.Fr wc wr ∧ WkB N' C s ∧ s.un ≤ F ∧ (L.drop m).foldl (vst X.T F bl) s = R) (fun v _ => ln - (intOf v).toNat)
    case atStart => exact ⟨0, _, by omega, rfl, HK.out.1, Fr.refl _, HK.out.2.1, HK.out.2.2.1, HK.out.2.2.2⟩
    case round =>
      obtain ⟨m, s, hm, rfl, hs, hfr, hBs, hus, hfold⟩ := hrel
      obtain ⟨nv', bv', pv', ov', hw', hn', hr'⟩ := hs.x
      obtain ⟨ncap', rfl, hnl', hnm'⟩ := hn'.sl
      have e1 : wr.cell? ⟨X.wb, 1, none⟩ = some (.slice (some ⟨X.nb, 0, none⟩) s.num.length ncap') := hw'.cell 1
      rw [hBs.n] at e1
      have el := hw'.lt
      by_cases hml : m < ln
      · have hm2 : m < L.length := by rw [HL.out.2.1]; exact hml
        have hx9 := List.getElem?_eq_getElem hm2
        rw [← List.getElem_cons_drop hm2, List.foldl_cons] at hfold
        have hxN : L[m] < N' := hT.get (a := at_) (by rw [HL.out.1]; exact List.getElem_mem hm2)
        generalize L[m] = x at *
        have hrow : RdI wr X.lo X.hi (.slice rA ln rc) (nz L) := by
          have h1 := hs.t.row at_ _ (X.T.getD at_ []) HL.out.2.2.1 (by rw [List.getD_eq_getElem?_getD, List.getElem?_eq_getElem (by rw [HL.out.2.2.2]; exact hTN)]; rfl)
          rw [HL.out.1] at h1
          exact h1
        have hx0 : (nz L)[m]? = some (x : Int) := by unfold nz; rw [List.getElem?_map, hx9]; rfl
        obtain ⟨g2, o2, c2, hv2, -, hg2, hc2⟩ := hrow.at hx0
        simp only [Value.slice.injEq] at hv2
        obtain ⟨rfl, -, -⟩ := hv2
        have hnx : x < s.num.length := by rw [hBs.n]; exact hxN
        have hy2 := List.getElem?_eq_getElem hnx
        have hgy : s.num.getD x 0 = s.num[x] := by rw [List.getD_eq_getElem?_getD, hy2]; rfl
        generalize s.num[x] = y2 at *
        have e2 := hn'.cell hy2
        have e2l := hn'.lt
        have hg2l : g2 < wr.heap.size := World.block_lt_of_cell? wr _ hc2
        have e3 : wr.cell? ⟨X.vb, 0, none⟩ = some (.func (.func 47) #[] #[.pointer (some ⟨X.wb, 0, none⟩), .pointer (some ⟨X.vb, 0, none⟩)]) := hs.v.cell 0
        have e3l := hs.v.lt
        have HS := Lib.hid (And.intro hs (And.intro hfr (And.intro hBs (And.intro hus (And.intro hfold hgy)))))
        clear hs hfr hBs hus hfold hrow hx0 hx9 hy2 hw' hn' hr' hnx hgy hnm' hnl'
        by_cases hneg : y2 < 0
        · have HC := Lib.hid (HI.out F (by omega) C x bl s wr HS.out.1 (by rw [HS.out.2.2.2.2.2]; exact hneg) HS.out.2.2.2.1 HS.out.2.2.1 (by omega) hxN (by omega))
          go_wp2_with fail
          refine HC.out.mono ?_
          rintro e w5 ⟨rfl, hk5, hf5⟩
          have hfd := HS.out.2.2.2.2.1
          unfold vst at hfd
          rw [if_pos (by rw [HS.out.2.2.2.2.2]; exact hneg)] at hfd
          have HN := Lib.hid (And.intro hk5 (And.intro (HS.out.2.1.trans hf5) (And.intro (visW_b (T := X.T) F C x bl s HS.out.2.2.1 (by rw [HS.out.2.2.2.2.2]; exact hneg)) (And.intro (Nat.le_trans (visW_un X.T F x bl s) HS.out.2.2.2.1) hfd))))
          clear hk5 hf5 hfd HC
          go_wp2_with fail
          go_roundw
          case rel => exact ⟨m + 1, _, by omega, by go_num, HN.out.1, HN.out.2.1, HN.out.2.2.1, HN.out.2.2.2.1, HN.out.2.2.2.2⟩
          case measure => simp [intOf]; omega
        · have hneg' : decide (y2 < 0) = false := by simpa using hneg
          have hfd := HS.out.2.2.2.2.1
          unfold vst at hfd
          rw [if_neg (by rw [HS.out.2.2.2.2.2]; exact hneg)] at hfd
          have HFD := Lib.hid hfd
          clear hfd hneg
          go_wp2_with fail
          go_roundw
          case rel => exact ⟨m + 1, s, by omega, by go_num, HS.out.1, HS.out.2.1, HS.out.2.2.1, HS.out.2.2.2.1, HFD.out⟩
          case measure => simp [intOf]; omega
      · obtain rfl : m = ln := by omega
        rw [← HL.out.2.1, List.drop_length, List.foldl_nil] at hfold
        subst hfold
        have e4 : wr.cell? ⟨X.wb, 4, none⟩ = some ov' := hw'.cell 4
        have e4f := hw'.frozen 4
        have hhr : X.hi < wr.heap.size := by have := hs.v.lt; have := hX.vb; omega
        have hnh : X.nb < X.hi := by have := hX.nb; have := hX.lh; omega
        obtain ⟨on, hon⟩ : ∃ x, s.ord.length = x := ⟨_, rfl⟩
        have hro := hr'
        have honN : on ≤ 1000 := by have := hBs.o; omega
        obtain ⟨i0, hi, hz0, hz1, hz2⟩ := info_parts intInfo
        have hro2 := hro.alloc (.cells #[.int .i64 (at_ : Int)] tI1)
        have hrow : (wr.alloc (.cells #[.int .i64 (at_ : Int)] tI1)).ownsRow X.hi tI1 1 ov' on (ints s.ord) := by have := hro2.o; rw [hon] at this; exact this
        have hnew := Blk.new wr tI1 #[.int .i64 (at_ : Int)]
        have hHI : X.hi ≤ (wr.alloc (.cells #[.int .i64 (at_ : Int)] tI1)).heap.size := by simp; omega
        have HW9 := Lib.hid (And.intro hrow (And.intro hnew (And.intro hHI (And.intro hro2 hon))))
        have HS := Lib.hid (And.intro hs (And.intro hfr (And.intro hBs (And.intro hus (And.intro hw' hn')))))
        clear hs hfr hBs hus hw' hn' hr' hro hro2 hrow hnew hHI hnl' hnm'
        go_upto_region 9 with (fail)
        refine wp_region_list ?_
        iterate 4
          refine wpList_plain rfl fun K hK => ?_
          go_simp
          refine hK _ _ ?_
          clear hK K
        at_builtin
        refine wpList_append_lies _ rfl (.tmp 51) (.tmp 53) 31 rfl X.hi tI1 i0 _ 1 8 Try.underlying31 hi hz0 hz1 hz2 rfl (by decide) ov' on (ints s.ord) rfl HW9.out.1 ⟨wr.heap.size, 0, none⟩ 1 1 [.int .i64 (at_ : Int)] rfl rfl (news1 HW9.out.2.1) (by simp [Value.oneCell']) (by decide) (by unfold maxLen; omega) (by omega) HW9.out.2.2.1 _ rfl ?_
        intro g3 cap3 w3 hown hgrow hgl hlt3
        have HG := Lib.hid (And.intro hown (And.intro hgrow hgl))
        clear hown hgrow hgl
        have q4 := (HG.out.2.1.cell_far ⟨X.wb, 4, none⟩ (by simp; omega) (fun e => by have h9 : X.hi ≤ X.wb := (own_lt HW9.out.1 e.symm).2; omega)).trans ((World.cell?_alloc_past _ _ _ el).trans e4)
        have l4 : X.wb < w3.heap.size := by have := HG.out.2.1.size; simp at this; omega
        have f4 : w3.frozen? ⟨X.wb, 4, none⟩ = false := by
          have h9 := blk_grown (HS.out.2.2.2.2.1.alloc (.cells #[.int .i64 (at_ : Int)] tI1)) HG.out.2.1 (fun e => by have h9 : X.hi ≤ X.wb := (own_lt HW9.out.1 e).2; omega)
          exact h9.frozen 4
        go_wp2_with fail
        have hhi2 : X.hi ≤ wr.heap.size := by omega
        have hfg : X.Fr wr w3 := (Fr.alloc hhi2).trans (Fr.grown HG.out.2.1 HW9.out.2.2.1 fun j hj => .inr (own_lt HW9.out.1 hj).2)
        have hft : X.Fr wr (w3.setCell ⟨X.wb, 4, none⟩ (.slice (some ⟨g3, 0, none⟩) (on + 1) cap3)) := hfg.trans (Fr.set (p := ⟨X.wb, 4, none⟩) (.inl (.inr rfl)))
        have hx9 := blk_grown (HS.out.2.2.2.2.1.alloc (.cells #[.int .i64 (at_ : Int)] tI1)) HG.out.2.1 (fun e => by have h9 : X.hi ≤ X.wb := (own_lt HW9.out.1 e).2; omega)
        have hv9 := blk_grown (HS.out.1.v.alloc (.cells #[.int .i64 (at_ : Int)] tI1)) HG.out.2.1 (fun e => (HS.out.1.v.alloc (.cells #[.int .i64 (at_ : Int)] tI1)).not_row (by decide) HW9.out.1 e.symm)
        have hn9 : RwI w3 X.nb _ _ := (HS.out.2.2.2.2.2.alloc (.cells #[.int .i64 (at_ : Int)] tI1)).keep (HG.out.2.1.block X.nb (by simp; omega) (fun e => by have h9 : X.hi ≤ X.nb := (own_lt HW9.out.1 e.symm).2; omega))
        have hr9 := HW9.out.2.2.2.1.appO HW9.out.2.2.2.2.symm HG.out.1 HG.out.2.1 HG.out.2.2
        have hb9 : Blk (w3.setCell ⟨X.wb, 4, none⟩ (.slice (some ⟨g3, 0, none⟩) (on + 1) cap3)) X.wb tWk #[.slice (some ⟨X.tb, 0, none⟩) X.T.length X.T.length, .slice (some ⟨X.nb, 0, none⟩) s.num.length ncap', bv', pv', .slice (some ⟨g3, 0, none⟩) (on + 1) cap3] := hx9.set_ 4 _
        have hwk : WkV X (w3.setCell ⟨X.wb, 4, none⟩ (.slice (some ⟨g3, 0, none⟩) (on + 1) cap3)) (s.done at_) := by
          refine ⟨⟨_, _, _, _, hb9, hn9.far (p := ⟨X.wb, 4, none⟩) hane _, hr9.far (q := ⟨X.wb, 4, none⟩) hwh _⟩, ?_, ?_⟩
          · exact HS.out.1.t.fr hft (Nat.le_refl _) (by have := hX.nb; have := hX.wb; intro k hk; omega) (by have := hX.tb; have := hX.lh; omega) (by have := hX.ne; omega)
          · exact hv9.far (p := ⟨X.wb, 4, none⟩) (by have := hX.vb; show X.vb ≠ X.wb; omega) _
        have hR9 : visW X.T (F + 1) at_ par k = s.done at_ := by
          rw [visW_eq, HL.out.1, HBL.out, HK.out.2.2.2]
        have HE := Lib.hid (And.intro hwk (And.intro hR9 ((HF'.out.trans HS.out.2.1).trans hft)))
        clear hfg hft hx9 hv9 hn9 hr9 hb9 hwk hR9
        go_end0
        exact ⟨rfl, by rw [HE.out.2.1]; exact HE.out.1, HE.out.2.2⟩
/-- A visit, with whatever fuel is enough. -/
theorem visit_all {X : VX} (hX : X.ok) {N : Nat} (hT : RowsOk N X.T) (hN : N ≤ 400) (F : Nat) : ∀ (C at_ par : Nat) (k : Wk) (w : World), WkV X w k → k.num.getD at_ 0 < 0 → k.un ≤ F → WkB N C k → C ≤ 1000 → at_ < N → par ≤ 400 →
      Calls Try.prog 47 #[.int .i64 at_, .int .i64 par, .pointer (some ⟨X.wb, 0, none⟩), .pointer (some ⟨X.vb, 0, none⟩)] w fun e w' => e = .returned (.tuple #[]) ∧ WkV X w' (visW X.T F at_ par k) ∧ X.Fr w w' := by
  induction F using Nat.strongRecOn with
  | ind F ih =>
    intro C at_ par k w h ha hu hB hC haN hp
    obtain ⟨y, hy, hy0⟩ := getD_neg ha
    have hun : 0 < k.un := List.countP_pos_iff.2 ⟨y, List.mem_of_getElem? hy, by simpa using hy0⟩
    obtain ⟨C, rfl⟩ : ∃ D, C = D + 1 := ⟨C - 1, by have := hB.o; omega⟩
    exact visit_any hX hT hN F ih C at_ par k w h ha hu hB (by omega) haN hp
end Go.Proofs.Ytjmlpbnejcfnhaa
