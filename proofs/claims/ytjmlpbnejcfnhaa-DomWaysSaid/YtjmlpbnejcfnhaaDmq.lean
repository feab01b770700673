/-
  Layer dom: walk of newGraph.
-/
import Derived.Test.YtjmlpbnejcfnhaaDmo
import Derived.Test.YtjmlpbnejcfnhaaDmp
import Derived.Deep.MidRow
import Derived.Laws.Tables
namespace Go.Proofs.Ytjmlpbnejcfnhaa
open Go Go.RowKit Go.Maps
set_option linter.unusedVariables false
set_option linter.unusedSimpArgs false

abbrev tGr : TypeId := 65
abbrev nil7 : Array Value := #[.slice none 0 0, .slice none 0 0, .slice none 0 0, .slice none 0 0, .slice none 0 0, .slice none 0 0, .slice none 0 0]
theorem grInf : (Try.prog.info? tGr).map (·.size) = some 7 := by kernel_rfl
/-- A graph that has been made, as it is read. -/
structure GrP (w : World) (lo hi tb : Nat) (vals : List Value) (nv bv pv ov lv dv : Value) (T : List (List Nat)) (k : Wk) : Prop where
  p : WkP w lo hi tb vals nv bv pv ov T k
  l : RdV w w.heap.size lv (nz (placesM T.length k.ord))
  d : RdV w w.heap.size dv (domsM T k)
theorem GrP.on {w w' : World} {lo hi tb : Nat} {vals : List Value} {nv bv pv ov lv dv : Value} {T : List (List Nat)} {k : Wk} (h : GrP w lo hi tb vals nv bv pv ov lv dv T k) (hb : Below w.heap.size w w') : GrP w' lo hi tb vals nv bv pv ov lv dv T k :=
  ⟨h.p.on hb, h.l.on hb, h.d.on hb⟩
structure GrO (w : World) (a : Array Value) (T : List (List Nat)) (k : Wk) : Prop where
  x : ∃ lo hi tb vals nv bv pv ov lv dv, a = #[.slice (some ⟨tb, 0, none⟩) T.length T.length, nv, bv, pv, ov, lv, dv] ∧ GrP w lo hi tb vals nv bv pv ov lv dv T k
theorem GrO.on {w w' : World} {a : Array Value} {T : List (List Nat)} {k : Wk} (h : GrO w a T k) (hb : Below w.heap.size w w') : GrO w' a T k := by
  obtain ⟨lo, hi, tb, vals, nv, bv, pv, ov, lv, dv, h1, h2⟩ := h.x
  exact ⟨lo, hi, tb, vals, nv, bv, pv, ov, lv, dv, h1, h2.on hb⟩
/-- What a finished visit of a function of at most 400 blocks is. -/
theorem bound_len (N : Nat) : ∀ l : List Nat, l.Nodup → (∀ x ∈ l, x < N) → l.length ≤ N := by
  induction N with
  | zero =>
    intro l _ h
    cases l with
    | nil => simp
    | cons a l => exact absurd (h a (.head _)) (by omega)
  | succ N ih =>
    intro l hn h
    by_cases hm : N ∈ l
    · have h1 := ih (l.erase N) (hn.erase N) fun x hx => by
        have h2 := (hn.mem_erase_iff).1 hx
        have := h x h2.2
        have := h2.1
        omega
      rw [List.length_erase_of_mem hm] at h1
      omega
    · have := ih l hn fun x hx => by
        have := h x hx
        have : x ≠ N := by rintro rfl; exact hm hx
        omega
      omega
theorem Wk.Ok.blk_len {N : Nat} {k : Wk} (h : k.Ok N) : k.blk.length ≤ N := by
  refine bound_len N _ ?_ fun x hx => by
    obtain ⟨i, hi⟩ := List.getElem?_of_mem hx
    exact (h.b i x hi).1
  rw [List.nodup_iff_pairwise_ne, List.pairwise_iff_getElem]
  intro i j hi hj hlt e
  have := h.inj (List.getElem?_eq_getElem hi) (by rw [List.getElem?_eq_getElem hj, ← e])
  omega
theorem tosN_two (e : Eb) : (tosN e).length ≤ 2 := by
  unfold tosN tosM
  rw [List.length_map]
  split
  · simp
  · split
    · split <;> simp
    · simp
theorem walk_wkc {es : List Eb} (h0 : 0 < es.length) (hm : es.length ≤ 400) (hok : endsOk es = true) : WkC (es.map tosN) (walkM (es.map tosN)) := by
  have hf := walk_fin (tosN_ok hok) h0
  have hl := hf.ok.blk_len
  refine ⟨by rw [List.length_map]; exact hf.ok, by omega, by rw [List.length_map]; exact hm, hf.closed, fun b => ?_⟩
  rw [List.getD_eq_getElem?_getD, List.getElem?_map]
  rcases es[b]? with _ | e
  · simp
  · exact tosN_two e
theorem walk_nr {es : List Eb} (h0 : 0 < es.length) (hok : endsOk es = true) : NrOk (walkM (es.map tosN)).blk.length (walkM (es.map tosN)).par := by
  have hf := walk_fin (tosN_ok hok) h0
  refine ⟨hf.ok.par, getD_some hf.pz, fun i hi hl => ?_⟩
  have hq : (walkM (es.map tosN)).par[i]? = some ((walkM (es.map tosN)).par.getD i 0) := by rw [List.getD_eq_getElem?_getD, List.getElem?_eq_getElem (by rw [hf.ok.par]; exact hl)]; rfl
  exact hf.tr.p i _ hi hq
theorem WkO.of {w : World} {tv nv bv pv ov : Value} {T : List (List Nat)} {k : Wk} (h : WkO w #[tv, nv, bv, pv, ov] T k) : ∃ lo hi tb vals, tv = .slice (some ⟨tb, 0, none⟩) T.length T.length ∧ WkP w lo hi tb vals nv bv pv ov T k := by
  obtain ⟨lo, hi, tb, vals, nv', bv', pv', ov', e, hp⟩ := h.parts
  simp only [Array.mk.injEq, List.cons.injEq, and_true] at e
  obtain ⟨rfl, rfl, rfl, rfl, rfl⟩ := e
  exact ⟨lo, hi, tb, vals, rfl, hp⟩
theorem blk_range {W : World} {b : Nat} {t : TypeId} {arr : Array Value} {cs : List Value} (h : Blk W b t arr) (hp : ∀ (j : Nat) v, cs[j]? = some v → arr[j]? = some v) : W.rangeAt b 0 cs := fun j v hv => by
  rw [Nat.zero_add, h.cell j]
  exact hp j v hv
set_option maxHeartbeats 8000000 in
set_option maxRecDepth 100000 in
theorem newGraph_any {w : World} {es : List Eb} {eb : Nat} {ev : Value} (he : RwE w eb ev es) (h0 : 0 < es.length) (hm : es.length ≤ 400) (hok : endsOk es = true) :
    Calls Try.prog 25 #[ev] w fun e w' => ∃ a, e = .returned (.agg a) ∧ GrO w' a (es.map tosN) (walkM (es.map tosN)) ∧ Below w.heap.size w w' := by
  have hfin := walk_fin (tosN_ok hok) h0
  have hwc := walk_wkc h0 hm hok
  have hnr := walk_nr h0 hok
  have hTl : (es.map tosN).length = es.length := by simp
  have HNW : Hid (∀ W, Below w.heap.size w W → Calls Try.prog 34 #[ev] W fun e w' => ∃ a, e = .returned (.agg a) ∧ WkF W w' a (es.map tosN) (walkM (es.map tosN)) ∧ Below W.heap.size W w') := Lib.hid fun W hW => newWalk_any (he.on hW) h0 hm hok
  obtain ⟨cap, rfl, hlc, hcm⟩ := he.sl
  obtain ⟨T, hT⟩ : ∃ T, es.map tosN = T := ⟨_, rfl⟩
  obtain ⟨k, hk⟩ : ∃ k, walkM T = k := ⟨_, rfl⟩
  obtain ⟨N, hN⟩ : ∃ N, es.length = N := ⟨_, rfl⟩
  rw [hT, hk] at HNW hwc hfin hnr
  rw [hT] at hTl
  rw [hN] at HNW hTl h0 hm hlc hfin ⊢
  rw [hT, hk]
  have hmk := fun W => make_all N (by omega) W
  obtain ⟨w1, hw1⟩ : ∃ x, x = w.alloc (.cells nil7 tGr) := ⟨_, rfl⟩
  have hb1 : Below w.heap.size w w1 := by rw [hw1]; exact (Below.refl _ w).alloc (Nat.le_refl _) _
  have hz1 : w1.heap.size = w.heap.size + 1 := by rw [hw1]; simp
  have hr1 : Blk w1 w.heap.size tGr nil7 := by rw [hw1]; exact Blk.new w tGr nil7
  have H1 := Lib.hid (And.intro hb1 (And.intro hz1 hr1))
  have HW := Lib.hid (And.intro hfin (And.intro hwc (And.intro hnr (And.intro hTl he))))
  have HW1 := Lib.hid hw1
  clear he hfin hwc hnr hTl hb1 hz1 hr1 hok hT hk hN hw1
  go_enter Try.func25, Try.ntmps25
  go_upto_region 1 with (fail)
  go_cut [3] (fun s3 wx => ∃ gb pb tb nv bv pv ov X1 X2, s3 = .pointer (some ⟨gb, 0, none⟩) ∧ Blk wx gb tGr #[.slice (some ⟨tb, 0, none⟩) N N, nv, bv, pv, ov, .slice (some ⟨pb, 0, none⟩) N N, .slice none 0 0] ∧ RwI wx pb (.slice (some ⟨pb, 0, none⟩) N N) (List.replicate N 0) ∧ (∀ W : World, (∀ g, X1 ≤ g → g < X2 → W.heap[g]? = wx.heap[g]?) → X2 ≤ W.heap.size → WkO W #[.slice (some ⟨tb, 0, none⟩) N N, nv, bv, pv, ov] T k) ∧ (w1.heap.size ≤ gb ∧ w1.heap.size ≤ pb ∧ gb ≠ pb ∧ (gb < X1 ∨ X2 ≤ gb) ∧ (pb < X1 ∨ X2 ≤ pb) ∧ X2 ≤ wx.heap.size ∧ w1.heap.size ≤ X1) ∧ Below w1.heap.size w1 wx)
  case first =>
    rw [← HW1.out]
    refine wp_region_held_drew (S := fun Wx => Below w1.heap.size w1 Wx) (by kernel_rfl) (below_drewN _ _ 1) (fun hHeld => ?_)
    obtain ⟨q0, hq0⟩ : ∃ x, x = w1.drew := ⟨_, rfl⟩
    rw [← hq0] at hHeld ⊢
    have hJ := hHeld
    clear hq0
    refine tQ 0 hHeld ?_
    refine tQ 2 hHeld ?_
    refine tQ 3 hHeld ?_
    try simp only [Act.put, List.setIfInBounds_toArray, List.set_cons_zero, List.set_cons_succ]
    refine threeL (i := 1) (j := 4) (k := 6) rfl rfl rfl (by kernel_rfl) (fun K hK => ?_) (fun K hK => ?_) (fun K hK => ?_)
    · go_simp
      refine Calls.mono (HNW.out q0 (H1.out.1.trans (hJ.mono (by rw [H1.out.2.1]; omega)))) ?_
      rintro e q1 ⟨a, rfl, hwf, hb⟩
      obtain ⟨lo, hi, tb, vs, nv, bv, pv, ov, rfl, hp0⟩ := hwf.o.parts
      simp only [HW.out.2.2.2.1] at hwf ⊢
      have hcl : q0.heap.size ≤ q1.heap.size := hb.size
      have hql := hJ.size
      obtain ⟨nA, nn, nc, rfl⟩ : ∃ A n c, nv = .slice A n c := by obtain ⟨A, c, e, _⟩ := hp0.n; exact ⟨A, _, c, e⟩
      obtain ⟨bA, bn, bc, rfl⟩ : ∃ A n c, bv = .slice A n c := by obtain ⟨A, c, e, _⟩ := hp0.b; exact ⟨A, _, c, e⟩
      obtain ⟨pA, pn, pc, rfl⟩ : ∃ A n c, pv = .slice A n c := by obtain ⟨A, c, e, _⟩ := hp0.p; exact ⟨A, _, c, e⟩
      obtain ⟨oA, on, oc, rfl⟩ : ∃ A n c, ov = .slice A n c := by obtain ⟨A, c, e, _⟩ := hp0.o; exact ⟨A, _, c, e⟩
      clear hp0
      replace hJ : Below w1.heap.size w1 q1 := hJ.trans (hb.mono hJ.size)
      clear hHeld hb
      refine hK.out _ _ hJ (fun hHeld => ?_)
      clear hK K
      try simp only [Act.put, List.setIfInBounds_toArray, List.set_cons_zero, List.set_cons_succ]
      refine twoL (i := 4) (j := 6) rfl rfl (by kernel_rfl) (fun K hK => ?_) (fun K hK => ?_)
      · go_simp
        obtain ⟨q2, hq2⟩ : ∃ x, x = q1.alloc (.cells (intC (List.replicate N 0)) tI1) := ⟨_, rfl⟩
        obtain ⟨pb, hpb⟩ : ∃ x, x = q1.heap.size := ⟨_, rfl⟩
        rw [← hq2, ← hpb]
        have hb : Below q1.heap.size q1 q2 := by rw [hq2]; exact (Below.refl _ _).alloc (Nat.le_refl _) _
        have hP : Blk q2 pb tI1 (intC (List.replicate N 0)) := by rw [hq2, hpb]; exact Blk.new _ _ _
        have hpz : q2.heap.size = pb + 1 := by rw [hq2, hpb]; simp
        have hpl := hJ.size
        have hpbH := Lib.hid (And.intro hpb hpz)
        clear hq2 hpb hpz
        have hcb2 := hb.size
        have hkeep2 : ∀ g, g < q1.heap.size → q2.heap[g]? = q1.heap[g]? := fun g hg => (hb.block g (by omega)).trans (by first | rfl | exact hkeep1 g hg)
        replace hJ : Below w1.heap.size w1 q2 := hJ.trans (hb.mono hJ.size)
        clear hHeld hb
        refine hK.out _ _ hJ (fun hHeld => ?_)
        clear hK K
        try simp only [Act.put, List.setIfInBounds_toArray, List.set_cons_zero, List.set_cons_succ]
        refine tQ 5 hHeld ?_
        try simp only [Act.put, List.setIfInBounds_toArray, List.set_cons_zero, List.set_cons_succ]
        refine oneL (i := 6) rfl (by kernel_rfl) (fun K hK => ?_)
        go_simp
        obtain ⟨q3, hq3⟩ : ∃ x, x = q2.alloc (.cells nil7 tGr) := ⟨_, rfl⟩
        obtain ⟨gb, hgb⟩ : ∃ x, x = q2.heap.size := ⟨_, rfl⟩
        rw [← hq3, ← hgb]
        have hb : Below q2.heap.size q2 q3 := by rw [hq3]; exact (Below.refl _ _).alloc (Nat.le_refl _) _
        have hG : Blk q3 gb tGr nil7 := by rw [hq3, hgb]; exact Blk.new _ _ _
        have hgz : q3.heap.size = gb + 1 := by rw [hq3, hgb]; simp
        have hgl := hJ.size
        have hgbH := Lib.hid (And.intro hgb hgz)
        clear hq3 hgb hgz
        have hcb3 := hb.size
        replace hP := hP.on hb
        have hkeep3 : ∀ g, g < q1.heap.size → q3.heap[g]? = q1.heap[g]? := fun g hg => (hb.block g (by omega)).trans (by first | rfl | exact hkeep2 g hg)
        replace hJ : Below w1.heap.size w1 q3 := hJ.trans (hb.mono hJ.size)
        clear hHeld hb
        refine hK.out _ _ hJ (fun hHeld => ?_)
        clear hK K
        try simp only [Act.put, List.setIfInBounds_toArray, List.set_cons_zero, List.set_cons_succ]
        have hpb := hpbH.out.1
        have hpz := hpbH.out.2
        have hgb := hgbH.out.1
        have hgz := hgbH.out.2
        have hGl := hG.lt
        have hPl := hP.lt
        have hSb : Below w1.heap.size w1 (q3.setRow gb #[.slice (some ⟨tb, 0, none⟩) N N, .slice nA nn nc, .slice bA bn bc, .slice pA pn pc, .slice oA on oc, .slice (some ⟨pb, 0, none⟩) N N, .slice none 0 0]) := Go.below_setRow hJ (by omega) _
        clear hpb hpz hgb hgz
        refine oneL (i := 7) rfl (by kernel_rfl) (fun K hK => ?_)
        rw [if_pos (by rfl)]
        have hS := setRow_heap q3 gb nil7 #[.slice (some ⟨tb, 0, none⟩) N N, .slice nA nn nc, .slice bA bn bc, .slice pA pn pc, .slice oA on oc, .slice (some ⟨pb, 0, none⟩) N N, .slice none 0 0] tGr (0, 0) hG
        have hSo : ∀ g, g ≠ gb → (q3.setRow gb #[.slice (some ⟨tb, 0, none⟩) N N, .slice nA nn nc, .slice bA bn bc, .slice pA pn pc, .slice oA on oc, .slice (some ⟨pb, 0, none⟩) N N, .slice none 0 0]).heap[g]? = q3.heap[g]? := fun g hg => setRow_other q3 gb g _ hg
        have hSz : (q3.setRow gb #[.slice (some ⟨tb, 0, none⟩) N N, .slice nA nn nc, .slice bA bn bc, .slice pA pn pc, .slice oA on oc, .slice (some ⟨pb, 0, none⟩) N N, .slice none 0 0]).heap.size = q3.heap.size := by simp
        refine wp_store_row tGr (.tmp 3) (.tmp 11) rfl gb _ rfl rfl tGr nil7 hG grInf rfl (by simp [Value.oneCell']) ?_
        generalize q3.setRow gb #[.slice (some ⟨tb, 0, none⟩) N N, .slice nA nn nc, .slice bA bn bc, .slice pA pn pc, .slice oA on oc, .slice (some ⟨pb, 0, none⟩) N N, .slice none 0 0] = qE at *
        clear hHeld
        refine hK.out _ _ hSb (fun hHeld => ?_)
        clear hK K
        try simp only [Act.put, List.setIfInBounds_toArray, List.set_cons_zero, List.set_cons_succ]
        refine wpAnyH_done (by kernel_rfl) ?_ _
        go_wp2_with fail
        go_meet
        have hpb := hpbH.out.1
        have hpz := hpbH.out.2
        have hgb := hgbH.out.1
        have hgz := hgbH.out.2
        exact ⟨gb, pb, tb, _, _, _, _, q0.heap.size, q1.heap.size, rfl, hS, ⟨N, [], by simp, by simp, by unfold maxLen; omega, by rw [List.append_nil]; exact (hSo pb (by omega)).trans hP⟩, fun W hW hWs => hwf.x W (fun g h1 h2 => (hW g h1 h2).trans ((hSo g (by omega)).trans (by first | rfl | exact hkeep3 g h2))) hWs, ⟨by omega, by omega, by omega, by omega, by omega, by omega, by omega⟩, hSb⟩
      · go_simp
        obtain ⟨q4, hq4⟩ : ∃ x, x = q1.alloc (.cells nil7 tGr) := ⟨_, rfl⟩
        obtain ⟨gb, hgb⟩ : ∃ x, x = q1.heap.size := ⟨_, rfl⟩
        rw [← hq4, ← hgb]
        have hb : Below q1.heap.size q1 q4 := by rw [hq4]; exact (Below.refl _ _).alloc (Nat.le_refl _) _
        have hG : Blk q4 gb tGr nil7 := by rw [hq4, hgb]; exact Blk.new _ _ _
        have hgz : q4.heap.size = gb + 1 := by rw [hq4, hgb]; simp
        have hgl := hJ.size
        have hgbH := Lib.hid (And.intro hgb hgz)
        clear hq4 hgb hgz
        have hcb4 := hb.size
        have hkeep4 : ∀ g, g < q1.heap.size → q4.heap[g]? = q1.heap[g]? := fun g hg => (hb.block g (by omega)).trans (by first | rfl | exact hkeep3 g hg)
        replace hJ : Below w1.heap.size w1 q4 := hJ.trans (hb.mono hJ.size)
        clear hHeld hb
        refine hK.out _ _ hJ (fun hHeld => ?_)
        clear hK K
        try simp only [Act.put, List.setIfInBounds_toArray, List.set_cons_zero, List.set_cons_succ]
        refine oneL (i := 4) rfl (by kernel_rfl) (fun K hK => ?_)
        go_simp
        obtain ⟨q5, hq5⟩ : ∃ x, x = q4.alloc (.cells (intC (List.replicate N 0)) tI1) := ⟨_, rfl⟩
        obtain ⟨pb, hpb⟩ : ∃ x, x = q4.heap.size := ⟨_, rfl⟩
        rw [← hq5, ← hpb]
        have hb : Below q4.heap.size q4 q5 := by rw [hq5]; exact (Below.refl _ _).alloc (Nat.le_refl _) _
        have hP : Blk q5 pb tI1 (intC (List.replicate N 0)) := by rw [hq5, hpb]; exact Blk.new _ _ _
        have hpz : q5.heap.size = pb + 1 := by rw [hq5, hpb]; simp
        have hpl := hJ.size
        have hpbH := Lib.hid (And.intro hpb hpz)
        clear hq5 hpb hpz
        have hcb5 := hb.size
        replace hG := hG.on hb
        have hkeep5 : ∀ g, g < q1.heap.size → q5.heap[g]? = q1.heap[g]? := fun g hg => (hb.block g (by omega)).trans (by first | rfl | exact hkeep4 g hg)
        replace hJ : Below w1.heap.size w1 q5 := hJ.trans (hb.mono hJ.size)
        clear hHeld hb
        refine hK.out _ _ hJ (fun hHeld => ?_)
        clear hK K
        try simp only [Act.put, List.setIfInBounds_toArray, List.set_cons_zero, List.set_cons_succ]
        have hpb := hpbH.out.1
        have hpz := hpbH.out.2
        have hgb := hgbH.out.1
        have hgz := hgbH.out.2
        have hGl := hG.lt
        have hPl := hP.lt
        have hSb : Below w1.heap.size w1 (q5.setRow gb #[.slice (some ⟨tb, 0, none⟩) N N, .slice nA nn nc, .slice bA bn bc, .slice pA pn pc, .slice oA on oc, .slice (some ⟨pb, 0, none⟩) N N, .slice none 0 0]) := Go.below_setRow hJ (by omega) _
        clear hpb hpz hgb hgz
        refine tQ 5 hHeld ?_
        try simp only [Act.put, List.setIfInBounds_toArray, List.set_cons_zero, List.set_cons_succ]
        refine oneL (i := 7) rfl (by kernel_rfl) (fun K hK => ?_)
        rw [if_pos (by rfl)]
        have hS := setRow_heap q5 gb nil7 #[.slice (some ⟨tb, 0, none⟩) N N, .slice nA nn nc, .slice bA bn bc, .slice pA pn pc, .slice oA on oc, .slice (some ⟨pb, 0, none⟩) N N, .slice none 0 0] tGr (0, 0) hG
        have hSo : ∀ g, g ≠ gb → (q5.setRow gb #[.slice (some ⟨tb, 0, none⟩) N N, .slice nA nn nc, .slice bA bn bc, .slice pA pn pc, .slice oA on oc, .slice (some ⟨pb, 0, none⟩) N N, .slice none 0 0]).heap[g]? = q5.heap[g]? := fun g hg => setRow_other q5 gb g _ hg
        have hSz : (q5.setRow gb #[.slice (some ⟨tb, 0, none⟩) N N, .slice nA nn nc, .slice bA bn bc, .slice pA pn pc, .slice oA on oc, .slice (some ⟨pb, 0, none⟩) N N, .slice none 0 0]).heap.size = q5.heap.size := by simp
        refine wp_store_row tGr (.tmp 3) (.tmp 11) rfl gb _ rfl rfl tGr nil7 hG grInf rfl (by simp [Value.oneCell']) ?_
        generalize q5.setRow gb #[.slice (some ⟨tb, 0, none⟩) N N, .slice nA nn nc, .slice bA bn bc, .slice pA pn pc, .slice oA on oc, .slice (some ⟨pb, 0, none⟩) N N, .slice none 0 0] = qE at *
        clear hHeld
        refine hK.out _ _ hSb (fun hHeld => ?_)
        clear hK K
        try simp only [Act.put, List.setIfInBounds_toArray, List.set_cons_zero, List.set_cons_succ]
        refine wpAnyH_done (by kernel_rfl) ?_ _
        go_wp2_with fail
        go_meet
        have hpb := hpbH.out.1
        have hpz := hpbH.out.2
        have hgb := hgbH.out.1
        have hgz := hgbH.out.2
        exact ⟨gb, pb, tb, _, _, _, _, q0.heap.size, q1.heap.size, rfl, hS, ⟨N, [], by simp, by simp, by unfold maxLen; omega, by rw [List.append_nil]; exact (hSo pb (by omega)).trans hP⟩, fun W hW hWs => hwf.x W (fun g h1 h2 => (hW g h1 h2).trans ((hSo g (by omega)).trans (by first | rfl | exact hkeep5 g h2))) hWs, ⟨by omega, by omega, by omega, by omega, by omega, by omega, by omega⟩, hSb⟩
    · go_simp
      obtain ⟨q6, hq6⟩ : ∃ x, x = q0.alloc (.cells (intC (List.replicate N 0)) tI1) := ⟨_, rfl⟩
      obtain ⟨pb, hpb⟩ : ∃ x, x = q0.heap.size := ⟨_, rfl⟩
      rw [← hq6, ← hpb]
      have hb : Below q0.heap.size q0 q6 := by rw [hq6]; exact (Below.refl _ _).alloc (Nat.le_refl _) _
      have hP : Blk q6 pb tI1 (intC (List.replicate N 0)) := by rw [hq6, hpb]; exact Blk.new _ _ _
      have hpz : q6.heap.size = pb + 1 := by rw [hq6, hpb]; simp
      have hpl := hJ.size
      have hpbH := Lib.hid (And.intro hpb hpz)
      clear hq6 hpb hpz
      replace hJ : Below w1.heap.size w1 q6 := hJ.trans (hb.mono hJ.size)
      clear hHeld hb
      refine hK.out _ _ hJ (fun hHeld => ?_)
      clear hK K
      try simp only [Act.put, List.setIfInBounds_toArray, List.set_cons_zero, List.set_cons_succ]
      refine twoL (i := 1) (j := 6) rfl rfl (by kernel_rfl) (fun K hK => ?_) (fun K hK => ?_)
      · go_simp
        refine Calls.mono (HNW.out q6 (H1.out.1.trans (hJ.mono (by rw [H1.out.2.1]; omega)))) ?_
        rintro e q7 ⟨a, rfl, hwf, hb⟩
        obtain ⟨lo, hi, tb, vs, nv, bv, pv, ov, rfl, hp0⟩ := hwf.o.parts
        simp only [HW.out.2.2.2.1] at hwf ⊢
        have hcl : q6.heap.size ≤ q7.heap.size := hb.size
        have hql := hJ.size
        obtain ⟨nA, nn, nc, rfl⟩ : ∃ A n c, nv = .slice A n c := by obtain ⟨A, c, e, _⟩ := hp0.n; exact ⟨A, _, c, e⟩
        obtain ⟨bA, bn, bc, rfl⟩ : ∃ A n c, bv = .slice A n c := by obtain ⟨A, c, e, _⟩ := hp0.b; exact ⟨A, _, c, e⟩
        obtain ⟨pA, pn, pc, rfl⟩ : ∃ A n c, pv = .slice A n c := by obtain ⟨A, c, e, _⟩ := hp0.p; exact ⟨A, _, c, e⟩
        obtain ⟨oA, on, oc, rfl⟩ : ∃ A n c, ov = .slice A n c := by obtain ⟨A, c, e, _⟩ := hp0.o; exact ⟨A, _, c, e⟩
        clear hp0
        replace hP := hP.on hb
        replace hJ : Below w1.heap.size w1 q7 := hJ.trans (hb.mono hJ.size)
        clear hHeld hb
        refine hK.out _ _ hJ (fun hHeld => ?_)
        clear hK K
        try simp only [Act.put, List.setIfInBounds_toArray, List.set_cons_zero, List.set_cons_succ]
        refine tQ 5 hHeld ?_
        try simp only [Act.put, List.setIfInBounds_toArray, List.set_cons_zero, List.set_cons_succ]
        refine oneL (i := 6) rfl (by kernel_rfl) (fun K hK => ?_)
        go_simp
        obtain ⟨q8, hq8⟩ : ∃ x, x = q7.alloc (.cells nil7 tGr) := ⟨_, rfl⟩
        obtain ⟨gb, hgb⟩ : ∃ x, x = q7.heap.size := ⟨_, rfl⟩
        rw [← hq8, ← hgb]
        have hb : Below q7.heap.size q7 q8 := by rw [hq8]; exact (Below.refl _ _).alloc (Nat.le_refl _) _
        have hG : Blk q8 gb tGr nil7 := by rw [hq8, hgb]; exact Blk.new _ _ _
        have hgz : q8.heap.size = gb + 1 := by rw [hq8, hgb]; simp
        have hgl := hJ.size
        have hgbH := Lib.hid (And.intro hgb hgz)
        clear hq8 hgb hgz
        replace hP := hP.on hb
        have hcb8 := hb.size
        have hkeep8 : ∀ g, g < q7.heap.size → q8.heap[g]? = q7.heap[g]? := fun g hg => (hb.block g (by omega)).trans (by first | rfl | exact hkeep7 g hg)
        replace hJ : Below w1.heap.size w1 q8 := hJ.trans (hb.mono hJ.size)
        clear hHeld hb
        refine hK.out _ _ hJ (fun hHeld => ?_)
        clear hK K
        try simp only [Act.put, List.setIfInBounds_toArray, List.set_cons_zero, List.set_cons_succ]
        have hpb := hpbH.out.1
        have hpz := hpbH.out.2
        have hgb := hgbH.out.1
        have hgz := hgbH.out.2
        have hGl := hG.lt
        have hPl := hP.lt
        have hSb : Below w1.heap.size w1 (q8.setRow gb #[.slice (some ⟨tb, 0, none⟩) N N, .slice nA nn nc, .slice bA bn bc, .slice pA pn pc, .slice oA on oc, .slice (some ⟨pb, 0, none⟩) N N, .slice none 0 0]) := Go.below_setRow hJ (by omega) _
        clear hpb hpz hgb hgz
        refine oneL (i := 7) rfl (by kernel_rfl) (fun K hK => ?_)
        rw [if_pos (by rfl)]
        have hS := setRow_heap q8 gb nil7 #[.slice (some ⟨tb, 0, none⟩) N N, .slice nA nn nc, .slice bA bn bc, .slice pA pn pc, .slice oA on oc, .slice (some ⟨pb, 0, none⟩) N N, .slice none 0 0] tGr (0, 0) hG
        have hSo : ∀ g, g ≠ gb → (q8.setRow gb #[.slice (some ⟨tb, 0, none⟩) N N, .slice nA nn nc, .slice bA bn bc, .slice pA pn pc, .slice oA on oc, .slice (some ⟨pb, 0, none⟩) N N, .slice none 0 0]).heap[g]? = q8.heap[g]? := fun g hg => setRow_other q8 gb g _ hg
        have hSz : (q8.setRow gb #[.slice (some ⟨tb, 0, none⟩) N N, .slice nA nn nc, .slice bA bn bc, .slice pA pn pc, .slice oA on oc, .slice (some ⟨pb, 0, none⟩) N N, .slice none 0 0]).heap.size = q8.heap.size := by simp
        refine wp_store_row tGr (.tmp 3) (.tmp 11) rfl gb _ rfl rfl tGr nil7 hG grInf rfl (by simp [Value.oneCell']) ?_
        generalize q8.setRow gb #[.slice (some ⟨tb, 0, none⟩) N N, .slice nA nn nc, .slice bA bn bc, .slice pA pn pc, .slice oA on oc, .slice (some ⟨pb, 0, none⟩) N N, .slice none 0 0] = qE at *
        clear hHeld
        refine hK.out _ _ hSb (fun hHeld => ?_)
        clear hK K
        try simp only [Act.put, List.setIfInBounds_toArray, List.set_cons_zero, List.set_cons_succ]
        refine wpAnyH_done (by kernel_rfl) ?_ _
        go_wp2_with fail
        go_meet
        have hpb := hpbH.out.1
        have hpz := hpbH.out.2
        have hgb := hgbH.out.1
        have hgz := hgbH.out.2
        exact ⟨gb, pb, tb, _, _, _, _, q6.heap.size, q7.heap.size, rfl, hS, ⟨N, [], by simp, by simp, by unfold maxLen; omega, by rw [List.append_nil]; exact (hSo pb (by omega)).trans hP⟩, fun W hW hWs => hwf.x W (fun g h1 h2 => (hW g h1 h2).trans ((hSo g (by omega)).trans (by first | rfl | exact hkeep8 g h2))) hWs, ⟨by omega, by omega, by omega, by omega, by omega, by omega, by omega⟩, hSb⟩
      · go_simp
        obtain ⟨q9, hq9⟩ : ∃ x, x = q6.alloc (.cells nil7 tGr) := ⟨_, rfl⟩
        obtain ⟨gb, hgb⟩ : ∃ x, x = q6.heap.size := ⟨_, rfl⟩
        rw [← hq9, ← hgb]
        have hb : Below q6.heap.size q6 q9 := by rw [hq9]; exact (Below.refl _ _).alloc (Nat.le_refl _) _
        have hG : Blk q9 gb tGr nil7 := by rw [hq9, hgb]; exact Blk.new _ _ _
        have hgz : q9.heap.size = gb + 1 := by rw [hq9, hgb]; simp
        have hgl := hJ.size
        have hgbH := Lib.hid (And.intro hgb hgz)
        clear hq9 hgb hgz
        replace hP := hP.on hb
        replace hJ : Below w1.heap.size w1 q9 := hJ.trans (hb.mono hJ.size)
        clear hHeld hb
        refine hK.out _ _ hJ (fun hHeld => ?_)
        clear hK K
        try simp only [Act.put, List.setIfInBounds_toArray, List.set_cons_zero, List.set_cons_succ]
        refine oneL (i := 1) rfl (by kernel_rfl) (fun K hK => ?_)
        go_simp
        refine Calls.mono (HNW.out q9 (H1.out.1.trans (hJ.mono (by rw [H1.out.2.1]; omega)))) ?_
        rintro e q10 ⟨a, rfl, hwf, hb⟩
        obtain ⟨lo, hi, tb, vs, nv, bv, pv, ov, rfl, hp0⟩ := hwf.o.parts
        simp only [HW.out.2.2.2.1] at hwf ⊢
        have hcl : q9.heap.size ≤ q10.heap.size := hb.size
        have hql := hJ.size
        obtain ⟨nA, nn, nc, rfl⟩ : ∃ A n c, nv = .slice A n c := by obtain ⟨A, c, e, _⟩ := hp0.n; exact ⟨A, _, c, e⟩
        obtain ⟨bA, bn, bc, rfl⟩ : ∃ A n c, bv = .slice A n c := by obtain ⟨A, c, e, _⟩ := hp0.b; exact ⟨A, _, c, e⟩
        obtain ⟨pA, pn, pc, rfl⟩ : ∃ A n c, pv = .slice A n c := by obtain ⟨A, c, e, _⟩ := hp0.p; exact ⟨A, _, c, e⟩
        obtain ⟨oA, on, oc, rfl⟩ : ∃ A n c, ov = .slice A n c := by obtain ⟨A, c, e, _⟩ := hp0.o; exact ⟨A, _, c, e⟩
        clear hp0
        replace hP := hP.on hb
        replace hG := hG.on hb
        replace hJ : Below w1.heap.size w1 q10 := hJ.trans (hb.mono hJ.size)
        clear hHeld hb
        refine hK.out _ _ hJ (fun hHeld => ?_)
        clear hK K
        try simp only [Act.put, List.setIfInBounds_toArray, List.set_cons_zero, List.set_cons_succ]
        have hpb := hpbH.out.1
        have hpz := hpbH.out.2
        have hgb := hgbH.out.1
        have hgz := hgbH.out.2
        have hGl := hG.lt
        have hPl := hP.lt
        have hSb : Below w1.heap.size w1 (q10.setRow gb #[.slice (some ⟨tb, 0, none⟩) N N, .slice nA nn nc, .slice bA bn bc, .slice pA pn pc, .slice oA on oc, .slice (some ⟨pb, 0, none⟩) N N, .slice none 0 0]) := Go.below_setRow hJ (by omega) _
        clear hpb hpz hgb hgz
        refine tQ 5 hHeld ?_
        try simp only [Act.put, List.setIfInBounds_toArray, List.set_cons_zero, List.set_cons_succ]
        refine oneL (i := 7) rfl (by kernel_rfl) (fun K hK => ?_)
        rw [if_pos (by rfl)]
        have hS := setRow_heap q10 gb nil7 #[.slice (some ⟨tb, 0, none⟩) N N, .slice nA nn nc, .slice bA bn bc, .slice pA pn pc, .slice oA on oc, .slice (some ⟨pb, 0, none⟩) N N, .slice none 0 0] tGr (0, 0) hG
        have hSo : ∀ g, g ≠ gb → (q10.setRow gb #[.slice (some ⟨tb, 0, none⟩) N N, .slice nA nn nc, .slice bA bn bc, .slice pA pn pc, .slice oA on oc, .slice (some ⟨pb, 0, none⟩) N N, .slice none 0 0]).heap[g]? = q10.heap[g]? := fun g hg => setRow_other q10 gb g _ hg
        have hSz : (q10.setRow gb #[.slice (some ⟨tb, 0, none⟩) N N, .slice nA nn nc, .slice bA bn bc, .slice pA pn pc, .slice oA on oc, .slice (some ⟨pb, 0, none⟩) N N, .slice none 0 0]).heap.size = q10.heap.size := by simp
        refine wp_store_row tGr (.tmp 3) (.tmp 11) rfl gb _ rfl rfl tGr nil7 hG grInf rfl (by simp [Value.oneCell']) ?_
        generalize q10.setRow gb #[.slice (some ⟨tb, 0, none⟩) N N, .slice nA nn nc, .slice bA bn bc, .slice pA pn pc, .slice oA on oc, .slice (some ⟨pb, 0, none⟩) N N, .slice none 0 0] = qE at *
        clear hHeld
        refine hK.out _ _ hSb (fun hHeld => ?_)
        clear hK K
        try simp only [Act.put, List.setIfInBounds_toArray, List.set_cons_zero, List.set_cons_succ]
        refine wpAnyH_done (by kernel_rfl) ?_ _
        go_wp2_with fail
        go_meet
        have hpb := hpbH.out.1
        have hpz := hpbH.out.2
        have hgb := hgbH.out.1
        have hgz := hgbH.out.2
        exact ⟨gb, pb, tb, _, _, _, _, q9.heap.size, q10.heap.size, rfl, hS, ⟨N, [], by simp, by simp, by unfold maxLen; omega, by rw [List.append_nil]; exact (hSo pb (by omega)).trans hP⟩, fun W hW hWs => hwf.x W (fun g h1 h2 => (hW g h1 h2).trans ((hSo g (by omega)).trans (by first | rfl | exact hkeep10 g h2))) hWs, ⟨by omega, by omega, by omega, by omega, by omega, by omega, by omega⟩, hSb⟩
    · go_simp
      obtain ⟨q11, hq11⟩ : ∃ x, x = q0.alloc (.cells nil7 tGr) := ⟨_, rfl⟩
      obtain ⟨gb, hgb⟩ : ∃ x, x = q0.heap.size := ⟨_, rfl⟩
      rw [← hq11, ← hgb]
      have hb : Below q0.heap.size q0 q11 := by rw [hq11]; exact (Below.refl _ _).alloc (Nat.le_refl _) _
      have hG : Blk q11 gb tGr nil7 := by rw [hq11, hgb]; exact Blk.new _ _ _
      have hgz : q11.heap.size = gb + 1 := by rw [hq11, hgb]; simp
      have hgl := hJ.size
      have hgbH := Lib.hid (And.intro hgb hgz)
      clear hq11 hgb hgz
      replace hJ : Below w1.heap.size w1 q11 := hJ.trans (hb.mono hJ.size)
      clear hHeld hb
      refine hK.out _ _ hJ (fun hHeld => ?_)
      clear hK K
      try simp only [Act.put, List.setIfInBounds_toArray, List.set_cons_zero, List.set_cons_succ]
      refine twoL (i := 1) (j := 4) rfl rfl (by kernel_rfl) (fun K hK => ?_) (fun K hK => ?_)
      · go_simp
        refine Calls.mono (HNW.out q11 (H1.out.1.trans (hJ.mono (by rw [H1.out.2.1]; omega)))) ?_
        rintro e q12 ⟨a, rfl, hwf, hb⟩
        obtain ⟨lo, hi, tb, vs, nv, bv, pv, ov, rfl, hp0⟩ := hwf.o.parts
        simp only [HW.out.2.2.2.1] at hwf ⊢
        have hcl : q11.heap.size ≤ q12.heap.size := hb.size
        have hql := hJ.size
        obtain ⟨nA, nn, nc, rfl⟩ : ∃ A n c, nv = .slice A n c := by obtain ⟨A, c, e, _⟩ := hp0.n; exact ⟨A, _, c, e⟩
        obtain ⟨bA, bn, bc, rfl⟩ : ∃ A n c, bv = .slice A n c := by obtain ⟨A, c, e, _⟩ := hp0.b; exact ⟨A, _, c, e⟩
        obtain ⟨pA, pn, pc, rfl⟩ : ∃ A n c, pv = .slice A n c := by obtain ⟨A, c, e, _⟩ := hp0.p; exact ⟨A, _, c, e⟩
        obtain ⟨oA, on, oc, rfl⟩ : ∃ A n c, ov = .slice A n c := by obtain ⟨A, c, e, _⟩ := hp0.o; exact ⟨A, _, c, e⟩
        clear hp0
        replace hG := hG.on hb
        replace hJ : Below w1.heap.size w1 q12 := hJ.trans (hb.mono hJ.size)
        clear hHeld hb
        refine hK.out _ _ hJ (fun hHeld => ?_)
        clear hK K
        try simp only [Act.put, List.setIfInBounds_toArray, List.set_cons_zero, List.set_cons_succ]
        refine oneL (i := 4) rfl (by kernel_rfl) (fun K hK => ?_)
        go_simp
        obtain ⟨q13, hq13⟩ : ∃ x, x = q12.alloc (.cells (intC (List.replicate N 0)) tI1) := ⟨_, rfl⟩
        obtain ⟨pb, hpb⟩ : ∃ x, x = q12.heap.size := ⟨_, rfl⟩
        rw [← hq13, ← hpb]
        have hb : Below q12.heap.size q12 q13 := by rw [hq13]; exact (Below.refl _ _).alloc (Nat.le_refl _) _
        have hP : Blk q13 pb tI1 (intC (List.replicate N 0)) := by rw [hq13, hpb]; exact Blk.new _ _ _
        have hpz : q13.heap.size = pb + 1 := by rw [hq13, hpb]; simp
        have hpl := hJ.size
        have hpbH := Lib.hid (And.intro hpb hpz)
        clear hq13 hpb hpz
        replace hG := hG.on hb
        have hcb13 := hb.size
        have hkeep13 : ∀ g, g < q12.heap.size → q13.heap[g]? = q12.heap[g]? := fun g hg => (hb.block g (by omega)).trans (by first | rfl | exact hkeep12 g hg)
        replace hJ : Below w1.heap.size w1 q13 := hJ.trans (hb.mono hJ.size)
        clear hHeld hb
        refine hK.out _ _ hJ (fun hHeld => ?_)
        clear hK K
        try simp only [Act.put, List.setIfInBounds_toArray, List.set_cons_zero, List.set_cons_succ]
        have hpb := hpbH.out.1
        have hpz := hpbH.out.2
        have hgb := hgbH.out.1
        have hgz := hgbH.out.2
        have hGl := hG.lt
        have hPl := hP.lt
        have hSb : Below w1.heap.size w1 (q13.setRow gb #[.slice (some ⟨tb, 0, none⟩) N N, .slice nA nn nc, .slice bA bn bc, .slice pA pn pc, .slice oA on oc, .slice (some ⟨pb, 0, none⟩) N N, .slice none 0 0]) := Go.below_setRow hJ (by omega) _
        clear hpb hpz hgb hgz
        refine tQ 5 hHeld ?_
        try simp only [Act.put, List.setIfInBounds_toArray, List.set_cons_zero, List.set_cons_succ]
        refine oneL (i := 7) rfl (by kernel_rfl) (fun K hK => ?_)
        rw [if_pos (by rfl)]
        have hS := setRow_heap q13 gb nil7 #[.slice (some ⟨tb, 0, none⟩) N N, .slice nA nn nc, .slice bA bn bc, .slice pA pn pc, .slice oA on oc, .slice (some ⟨pb, 0, none⟩) N N, .slice none 0 0] tGr (0, 0) hG
        have hSo : ∀ g, g ≠ gb → (q13.setRow gb #[.slice (some ⟨tb, 0, none⟩) N N, .slice nA nn nc, .slice bA bn bc, .slice pA pn pc, .slice oA on oc, .slice (some ⟨pb, 0, none⟩) N N, .slice none 0 0]).heap[g]? = q13.heap[g]? := fun g hg => setRow_other q13 gb g _ hg
        have hSz : (q13.setRow gb #[.slice (some ⟨tb, 0, none⟩) N N, .slice nA nn nc, .slice bA bn bc, .slice pA pn pc, .slice oA on oc, .slice (some ⟨pb, 0, none⟩) N N, .slice none 0 0]).heap.size = q13.heap.size := by simp
        refine wp_store_row tGr (.tmp 3) (.tmp 11) rfl gb _ rfl rfl tGr nil7 hG grInf rfl (by simp [Value.oneCell']) ?_
        generalize q13.setRow gb #[.slice (some ⟨tb, 0, none⟩) N N, .slice nA nn nc, .slice bA bn bc, .slice pA pn pc, .slice oA on oc, .slice (some ⟨pb, 0, none⟩) N N, .slice none 0 0] = qE at *
        clear hHeld
        refine hK.out _ _ hSb (fun hHeld => ?_)
        clear hK K
        try simp only [Act.put, List.setIfInBounds_toArray, List.set_cons_zero, List.set_cons_succ]
        refine wpAnyH_done (by kernel_rfl) ?_ _
        go_wp2_with fail
        go_meet
        have hpb := hpbH.out.1
        have hpz := hpbH.out.2
        have hgb := hgbH.out.1
        have hgz := hgbH.out.2
        exact ⟨gb, pb, tb, _, _, _, _, q11.heap.size, q12.heap.size, rfl, hS, ⟨N, [], by simp, by simp, by unfold maxLen; omega, by rw [List.append_nil]; exact (hSo pb (by omega)).trans hP⟩, fun W hW hWs => hwf.x W (fun g h1 h2 => (hW g h1 h2).trans ((hSo g (by omega)).trans (by first | rfl | exact hkeep13 g h2))) hWs, ⟨by omega, by omega, by omega, by omega, by omega, by omega, by omega⟩, hSb⟩
      · go_simp
        obtain ⟨q14, hq14⟩ : ∃ x, x = q11.alloc (.cells (intC (List.replicate N 0)) tI1) := ⟨_, rfl⟩
        obtain ⟨pb, hpb⟩ : ∃ x, x = q11.heap.size := ⟨_, rfl⟩
        rw [← hq14, ← hpb]
        have hb : Below q11.heap.size q11 q14 := by rw [hq14]; exact (Below.refl _ _).alloc (Nat.le_refl _) _
        have hP : Blk q14 pb tI1 (intC (List.replicate N 0)) := by rw [hq14, hpb]; exact Blk.new _ _ _
        have hpz : q14.heap.size = pb + 1 := by rw [hq14, hpb]; simp
        have hpl := hJ.size
        have hpbH := Lib.hid (And.intro hpb hpz)
        clear hq14 hpb hpz
        replace hG := hG.on hb
        replace hJ : Below w1.heap.size w1 q14 := hJ.trans (hb.mono hJ.size)
        clear hHeld hb
        refine hK.out _ _ hJ (fun hHeld => ?_)
        clear hK K
        try simp only [Act.put, List.setIfInBounds_toArray, List.set_cons_zero, List.set_cons_succ]
        refine oneL (i := 1) rfl (by kernel_rfl) (fun K hK => ?_)
        go_simp
        refine Calls.mono (HNW.out q14 (H1.out.1.trans (hJ.mono (by rw [H1.out.2.1]; omega)))) ?_
        rintro e q15 ⟨a, rfl, hwf, hb⟩
        obtain ⟨lo, hi, tb, vs, nv, bv, pv, ov, rfl, hp0⟩ := hwf.o.parts
        simp only [HW.out.2.2.2.1] at hwf ⊢
        have hcl : q14.heap.size ≤ q15.heap.size := hb.size
        have hql := hJ.size
        obtain ⟨nA, nn, nc, rfl⟩ : ∃ A n c, nv = .slice A n c := by obtain ⟨A, c, e, _⟩ := hp0.n; exact ⟨A, _, c, e⟩
        obtain ⟨bA, bn, bc, rfl⟩ : ∃ A n c, bv = .slice A n c := by obtain ⟨A, c, e, _⟩ := hp0.b; exact ⟨A, _, c, e⟩
        obtain ⟨pA, pn, pc, rfl⟩ : ∃ A n c, pv = .slice A n c := by obtain ⟨A, c, e, _⟩ := hp0.p; exact ⟨A, _, c, e⟩
        obtain ⟨oA, on, oc, rfl⟩ : ∃ A n c, ov = .slice A n c := by obtain ⟨A, c, e, _⟩ := hp0.o; exact ⟨A, _, c, e⟩
        clear hp0
        replace hG := hG.on hb
        replace hP := hP.on hb
        replace hJ : Below w1.heap.size w1 q15 := hJ.trans (hb.mono hJ.size)
        clear hHeld hb
        refine hK.out _ _ hJ (fun hHeld => ?_)
        clear hK K
        try simp only [Act.put, List.setIfInBounds_toArray, List.set_cons_zero, List.set_cons_succ]
        have hpb := hpbH.out.1
        have hpz := hpbH.out.2
        have hgb := hgbH.out.1
        have hgz := hgbH.out.2
        have hGl := hG.lt
        have hPl := hP.lt
        have hSb : Below w1.heap.size w1 (q15.setRow gb #[.slice (some ⟨tb, 0, none⟩) N N, .slice nA nn nc, .slice bA bn bc, .slice pA pn pc, .slice oA on oc, .slice (some ⟨pb, 0, none⟩) N N, .slice none 0 0]) := Go.below_setRow hJ (by omega) _
        clear hpb hpz hgb hgz
        refine tQ 5 hHeld ?_
        try simp only [Act.put, List.setIfInBounds_toArray, List.set_cons_zero, List.set_cons_succ]
        refine oneL (i := 7) rfl (by kernel_rfl) (fun K hK => ?_)
        rw [if_pos (by rfl)]
        have hS := setRow_heap q15 gb nil7 #[.slice (some ⟨tb, 0, none⟩) N N, .slice nA nn nc, .slice bA bn bc, .slice pA pn pc, .slice oA on oc, .slice (some ⟨pb, 0, none⟩) N N, .slice none 0 0] tGr (0, 0) hG
        have hSo : ∀ g, g ≠ gb → (q15.setRow gb #[.slice (some ⟨tb, 0, none⟩) N N, .slice nA nn nc, .slice bA bn bc, .slice pA pn pc, .slice oA on oc, .slice (some ⟨pb, 0, none⟩) N N, .slice none 0 0]).heap[g]? = q15.heap[g]? := fun g hg => setRow_other q15 gb g _ hg
        have hSz : (q15.setRow gb #[.slice (some ⟨tb, 0, none⟩) N N, .slice nA nn nc, .slice bA bn bc, .slice pA pn pc, .slice oA on oc, .slice (some ⟨pb, 0, none⟩) N N, .slice none 0 0]).heap.size = q15.heap.size := by simp
        refine wp_store_row tGr (.tmp 3) (.tmp 11) rfl gb _ rfl rfl tGr nil7 hG grInf rfl (by simp [Value.oneCell']) ?_
        generalize q15.setRow gb #[.slice (some ⟨tb, 0, none⟩) N N, .slice nA nn nc, .slice bA bn bc, .slice pA pn pc, .slice oA on oc, .slice (some ⟨pb, 0, none⟩) N N, .slice none 0 0] = qE at *
        clear hHeld
        refine hK.out _ _ hSb (fun hHeld => ?_)
        clear hK K
        try simp only [Act.put, List.setIfInBounds_toArray, List.set_cons_zero, List.set_cons_succ]
        refine wpAnyH_done (by kernel_rfl) ?_ _
        go_wp2_with fail
        go_meet
        have hpb := hpbH.out.1
        have hpz := hpbH.out.2
        have hgb := hgbH.out.1
        have hgz := hgbH.out.2
        exact ⟨gb, pb, tb, _, _, _, _, q14.heap.size, q15.heap.size, rfl, hS, ⟨N, [], by simp, by simp, by unfold maxLen; omega, by rw [List.append_nil]; exact (hSo pb (by omega)).trans hP⟩, fun W hW hWs => hwf.x W (fun g h1 h2 => (hW g h1 h2).trans ((hSo g (by omega)).trans (by first | rfl | exact hkeep15 g h2))) hWs, ⟨by omega, by omega, by omega, by omega, by omega, by omega, by omega⟩, hSb⟩
  obtain ⟨gb, pb, tb, nv, bv, pv, ov, X1, X2, rfl, hG, hP, hwf, hk, hbc⟩ := hcut
  obtain ⟨W0, hW0⟩ : ∃ x, x = wc := ⟨_, rfl⟩
  rw [← hW0] at hG hP hwf hk hbc ⊢
  clear hW0
  obtain ⟨lo0, hi0, tb0, vs0, e0, hp0⟩ := (hwf W0 (fun _ _ _ => rfl) hk.2.2.2.2.2.1).of
  obtain ⟨oA, oc, rfl⟩ : ∃ A c, ov = .slice A k.ord.length c := by obtain ⟨A, c, e, _⟩ := hp0.o; exact ⟨A, c, by rw [e]; simp [nz]⟩
  obtain ⟨nA, nn, nc, rfl⟩ : ∃ A n c, nv = .slice A n c := by obtain ⟨A, c, e, _⟩ := hp0.n; exact ⟨A, _, c, e⟩
  obtain ⟨bA, bn, bc, rfl⟩ : ∃ A n c, bv = .slice A n c := by obtain ⟨A, c, e, _⟩ := hp0.b; exact ⟨A, _, c, e⟩
  obtain ⟨pA, pn, pc, rfl⟩ : ∃ A n c, pv = .slice A n c := by obtain ⟨A, c, e, _⟩ := hp0.p; exact ⟨A, _, c, e⟩
  obtain ⟨M, hM⟩ : ∃ M, k.ord.length = M := ⟨_, rfl⟩
  rw [hM] at hG hwf
  have hPL : (List.range M).foldl (fun p i => p.set (k.ord.getD i 0) i) (List.replicate N 0) = placesM N k.ord := by unfold placesM; rw [hM]
  have hML : M ≤ 1000000 := by
    have h1 := bound_len N k.ord HW.out.1.nd fun x hx => by obtain ⟨i, hi⟩ := List.getElem?_of_mem hx; exact HW.out.1.ordN hi
    omega
  have c4 : W0.cell? ⟨gb, 4, none⟩ = some (.slice oA M oc) := hG.cell 4
  have cl := hG.lt
  have HG := Lib.hid (And.intro hG (And.intro hP (And.intro hwf (And.intro hk (And.intro hbc (And.intro hM hPL))))))
  clear hG hP hwf hbc hM hPL hp0 e0 hk
  go_wp2_with fail
  go_loopw [16] (fun v wr => ∃ (m : Nat) (d : List Nat), m ≤ M ∧ v = .int .i64 m ∧ RwI wr pb (.slice (some ⟨pb, 0, none⟩) N N) (nz d) ∧ d.length = N ∧ Fr W0.heap.size (fun j => j = pb) W0 wr ∧ (List.range m).foldl (fun p i => p.set (k.ord.getD i 0) i) (List.replicate N 0) = d) (fun v _ => M - (intOf v).toNat)
  case atStart => exact ⟨0, List.replicate N 0, by omega, rfl, by have h9 := HG.out.2.1; unfold nz; rw [List.map_replicate]; exact h9, by simp, Fr.refl _, rfl⟩
  case round =>
    obtain ⟨m, d, hm, rfl, hrw, hdl, hfr, hfo⟩ := hrel
    obtain ⟨wo, hwo⟩ : ∃ x, x = wr := ⟨_, rfl⟩
    subst hwo
    obtain ⟨hG, hP, hwf, ⟨k1, k2, k3, k4, k5, k6, k7⟩, hbc, hM, hPL⟩ := HG.out
    have hGo := hG.fr hfr hG.lt k3
    obtain ⟨lo0, hi0, tb0, vs0, e0, hp0⟩ := (hwf wo (fun g h1 h2 => hfr.block g (by omega) (by omega)) (by have := hfr.size; omega)).of
    by_cases hmk : m < M
    · obtain ⟨g, o, y1, rfl, hg, hy1, e1⟩ := hp0.o.at hmk
      obtain ⟨a, ha⟩ : ∃ a, k.ord[m]? = some a := ⟨_, List.getElem?_eq_getElem (by rw [hM]; exact hmk)⟩
      rw [nz_at ha] at hy1
      obtain rfl := Option.some.inj hy1
      have haN := HW.out.1.ordN ha
      have e5 : wo.cell? ⟨gb, 5, none⟩ = some (.slice (some ⟨pb, 0, none⟩) N N) := hGo.cell 5
      have l5 := hGo.lt
      have lP := hrw.lt
      have fP := hrw.frozen a
      obtain ⟨z0, hz0⟩ : ∃ z, d[a]? = some z := ⟨_, List.getElem?_eq_getElem (by rw [hdl]; exact haN)⟩
      have e6 : wo.cell? ⟨pb, a, none⟩ = some (.int .i64 (z0 : Nat)) := hrw.cell (nz_at hz0)
      have hrw9 : RwI (wo.setCell ⟨pb, a, none⟩ (.int .i64 (m : Nat))) pb (.slice (some ⟨pb, 0, none⟩) N N) (nz (d.set a m)) := by
        have h9 := hrw.set (i := a) (by simp [nz]; omega) (m : Int)
        rw [nz_set] at h9
        exact h9
      have hfr9 : Fr W0.heap.size (fun j => j = pb) W0 (wo.setCell ⟨pb, a, none⟩ (.int .i64 (m : Nat))) := hfr.trans (Fr.set (p := ⟨pb, a, none⟩) (.inl rfl))
      have hfo9 : (List.range (m + 1)).foldl (fun p i => p.set (k.ord.getD i 0) i) (List.replicate N 0) = d.set a m := by
        rw [List.range_succ, List.foldl_append, hfo, List.foldl_cons, List.foldl_nil, getD_some ha]
      have H9 := Lib.hid (And.intro hrw9 (And.intro (show (d.set a m).length = N by rw [List.length_set]; exact hdl) (And.intro hfr9 hfo9)))
      clear hrw hdl hfr hfo hG hP hwf hbc hM hPL hGo hp0 e0 ha hz0 hrw9 hfr9 hfo9 hy1
      go_wp2_with fail
      go_roundw
      case rel => exact ⟨m + 1, _, by omega, by go_num, H9.out.1, H9.out.2.1, H9.out.2.2.1, H9.out.2.2.2⟩
      case measure => simp [intOf]; omega
    · obtain rfl : m = M := by omega
      rw [hPL] at hfo
      obtain rfl : d = placesM N k.ord := hfo.symm
      have hwq := hwf wo (fun g h1 h2 => hfr.block g (by omega) (by omega)) (by have := hfr.size; omega)
      have hse := HW.out.1.sem
      have hwc := HW.out.2.1
      have hsr := HW.out.1.src
      have HDO := Lib.hid (doms_any hwq hwc HW.out.1.pos (fun j f hf => (HW.out.1.tr.lt f j ((hsr.2 f j).1 hf)).1) hse.1 HW.out.2.2.1)
      have d0 : wo.cell? ⟨gb, 0, none⟩ = some (.slice (some ⟨tb, 0, none⟩) N N) := hGo.cell 0
      have d1 : wo.cell? ⟨gb, 1, none⟩ = some (.slice nA nn nc) := hGo.cell 1
      have d2 : wo.cell? ⟨gb, 2, none⟩ = some (.slice bA bn bc) := hGo.cell 2
      have d3 : wo.cell? ⟨gb, 3, none⟩ = some (.slice pA pn pc) := hGo.cell 3
      have d4 : wo.cell? ⟨gb, 4, none⟩ = some (.slice oA m oc) := hGo.cell 4
      have dl := hGo.lt
      have HF := Lib.hid (And.intro hrw (And.intro hfr (And.intro hGo hwf)))
      clear hrw hfr hGo hwf hwq hse hwc hsr hG hP hbc hM hPL hp0 e0 hdl hfo
      go_wp2_with fail
      refine HDO.out.mono ?_
      rintro e w3 ⟨dv, db, rfl, hdb, hrd, hb3⟩
      have hG3 := HF.out.2.2.1.on hb3
      have l6 := hG3.lt
      have f6 := hG3.frozen 6
      have e6 : w3.cell? ⟨gb, 6, none⟩ = some (.slice none 0 0) := hG3.cell 6
      obtain ⟨dcap, rfl, hdc, hdm⟩ := hrd.sl
      obtain ⟨DL, hDL⟩ : ∃ x, (domsM T k).length = x := ⟨_, rfl⟩
      rw [hDL] at hrd hdc ⊢
      have H3 := Lib.hid (And.intro hdb (And.intro hrd (And.intro hb3 hG3)))
      clear hdb hrd hb3 hG3 HDO d0 d1 d2 d3 d4 dl hDL
      have hlq := HF.out.2.2.1.lt
      go_upto_region 8 with (fail)
      have hz1 := H1.out.2.1
      have hzb := HG.out.2.2.2.2.1.size
      have b1 : Blk (w3.setCell ⟨gb, 6, none⟩ (.slice (some ⟨db, 0, none⟩) DL dcap)) gb tGr #[Value.slice (some ⟨tb, 0, none⟩) N N, .slice nA nn nc, .slice bA bn bc, .slice pA pn pc, .slice oA m oc, .slice (some ⟨pb, 0, none⟩) N N, .slice (some ⟨db, 0, none⟩) DL dcap] := H3.out.2.2.2.set_ 6 _
      have hr3 : Blk w3 w.heap.size tGr nil7 := ((H1.out.2.2.below (HG.out.2.2.2.2.1) (by omega)).fr HF.out.2.1 (by omega) (by show ¬ w.heap.size = pb; omega)).on H3.out.2.2.1
      have b2 : Blk (w3.setCell ⟨gb, 6, none⟩ (.slice (some ⟨db, 0, none⟩) DL dcap)) w.heap.size tGr nil7 := hr3.far (p := ⟨gb, 6, none⟩) (by show w.heap.size ≠ gb; omega) _
      obtain ⟨w4, hw4⟩ : ∃ x, x = w3.setCell ⟨gb, 6, none⟩ (.slice (some ⟨db, 0, none⟩) DL dcap) := ⟨_, rfl⟩
      rw [← hw4] at b1 b2 ⊢
      have HW4 := Lib.hid (And.intro hw4 (And.intro hz1 hzb))
      clear hw4 hz1 hzb hr3
      have hr4 := setRow_heap w4 w.heap.size nil7 #[Value.slice (some ⟨tb, 0, none⟩) N N, .slice nA nn nc, .slice bA bn bc, .slice pA pn pc, .slice oA m oc, .slice (some ⟨pb, 0, none⟩) N N, .slice (some ⟨db, 0, none⟩) DL dcap] tGr (0, 0) b2
      have HE := Lib.hid (And.intro hr4 (Go.below_setRow (B := w.heap.size) (w0 := w4) (Below.refl _ _) (Nat.le_refl _) #[Value.slice (some ⟨tb, 0, none⟩) N N, .slice nA nn nc, .slice bA bn bc, .slice pA pn pc, .slice oA m oc, .slice (some ⟨pb, 0, none⟩) N N, .slice (some ⟨db, 0, none⟩) DL dcap]))
      clear hr4
      refine wp_region_list ?_
      refine wpList_load_row rfl tGr _ rfl gb rfl tGr _ (0, 0) _ b1 Try.underlying65 rfl grInf ?_
      refine wpList_store_row rfl tGr _ _ rfl w.heap.size _ rfl rfl tGr nil7 b2 grInf rfl (by simp [Value.oneCell']) ?_
      refine wpList_nil ?_
      go_wp2_with fail
      refine bodyPost_ret (results_cell_row rfl _ _ w.heap.size tGr _ (0, 0) _ rfl HE.out.1 Try.underlying65 rfl grInf) rfl ?_
      obtain ⟨hw4, hz1, hzb⟩ := HW4.out
      obtain ⟨hrw, hfr, hGo, hwf⟩ := HF.out
      obtain ⟨hdb, hrd, hb3, hG3⟩ := H3.out
      have hTN := HW.out.2.2.2.1
      have hzr := hfr.size
      have hz3 := hb3.size
      have hlP := hrw.lt
      have hz4 : w4.heap.size = w3.heap.size := by rw [hw4]; simp
      have hfin : ∀ g, g ≠ w.heap.size → (w4.setRow w.heap.size #[Value.slice (some ⟨tb, 0, none⟩) N N, .slice nA nn nc, .slice bA bn bc, .slice pA pn pc, .slice oA m oc, .slice (some ⟨pb, 0, none⟩) N N, .slice (some ⟨db, 0, none⟩) DL dcap]).heap[g]? = w4.heap[g]? := fun g hg => setRow_other w4 w.heap.size g _ hg
      have hzF : (w4.setRow w.heap.size #[Value.slice (some ⟨tb, 0, none⟩) N N, .slice nA nn nc, .slice bA bn bc, .slice pA pn pc, .slice oA m oc, .slice (some ⟨pb, 0, none⟩) N N, .slice (some ⟨db, 0, none⟩) DL dcap]).heap.size = w4.heap.size := by simp
      have h4 : ∀ g, g ≠ gb → w4.heap[g]? = w3.heap[g]? := fun g hg => by rw [hw4]; exact Below.heap_setCell w3 ⟨gb, 6, none⟩ _ g hg
      obtain ⟨lo, hi, tb', vs, e, hp⟩ := (hwf (w4.setRow w.heap.size #[Value.slice (some ⟨tb, 0, none⟩) N N, .slice nA nn nc, .slice bA bn bc, .slice pA pn pc, .slice oA m oc, .slice (some ⟨pb, 0, none⟩) N N, .slice (some ⟨db, 0, none⟩) DL dcap]) (fun g h1 h2 => (hfin g (by omega)).trans ((h4 g (by omega)).trans ((hb3.block g (by omega)).trans (hfr.block g (by omega) (by show ¬ g = pb; omega))))) (by omega)).of
      have hl := ((hrw.on hb3).keep (h4 pb (by omega))).keep (hfin pb (by omega))
      have hd := (hrd.keep (h4 db (by omega))).keep (hfin db (by omega))
      have hlr := hl.rd
      rw [← hTN] at hlr
      rw [← hTN] at e
      refine ⟨_, rfl, ⟨lo, hi, tb', vs, _, _, _, _, _, _, by rw [← e, hTN], ⟨hp, by rw [hTN] at hlr ⊢; exact hlr, hd.rd⟩⟩, ?_⟩
      have g1 := H1.out.1
      have g2 := HG.out.2.2.2.2.1.mono (show w.heap.size ≤ w1.heap.size by omega)
      have g3 : Below w.heap.size W0 wo := hfr.below (by omega) (fun j hj => by have hj' : j = pb := hj; omega)
      have g4 := hb3.mono (show w.heap.size ≤ wo.heap.size by omega)
      have g5 : Below w.heap.size w3 w4 := by rw [hw4]; exact (Below.refl _ _).setCell (p := ⟨gb, 6, none⟩) (by show w.heap.size ≤ gb; omega) _
      exact g1.trans (g2.trans (g3.trans (g4.trans (g5.trans HE.out.2))))
end Go.Proofs.Ytjmlpbnejcfnhaa
