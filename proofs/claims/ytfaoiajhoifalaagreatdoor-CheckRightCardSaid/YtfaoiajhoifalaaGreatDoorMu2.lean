/-
  Layer check: the checker in memory where the program has no functions: the globals are declared (as in Ckb, Ckd, Ckr). Layer check: Check, of a program that has no functions.
-/
import Derived.Test.YtfaoiajhoifalaaGreatDoorMt6
/-! Clo -/
namespace Go.Proofs.YtfaoiajhoifalaaGreatDoor
open Go Go.RowKit Go.Maps
set_option linter.unusedVariables false
set_option linter.unusedSimpArgs false

/-- The checker, where there are no functions: E are its cells for functions and nodes. -/
structure CkE (E : Value × Value) (X : CkX) (S : CkS) (σ : Cs) (w : World) : Prop where
  chk : Blk w X.b tCk #[.slice X.gA X.gs.length X.gc, E.1, E.2, S.scv, .slice (some ⟨X.sB, 0, none⟩) 0 X.sc, S.fpV, S.lmV]
  sco : w.ownsRow X.B tMm 1 S.scv S.mps.length (S.mps.map fun m => Value.map (some m))
  scl : S.mps.length = σ.sc.length
  map_ : ∀ (j m : Nat) (s : Scp), S.mps[j]? = some m → σ.sc[j]? = some s → X.B ≤ m ∧ ScV w m s.length s
  nod2 : S.mps.Nodup
  glb : RowB w X.B S.H tGb 4 (.slice X.gA X.gs.length X.gc) X.gs.length (X.gs.flatMap glC)
  hB : X.B ≤ X.b ∧ X.B ≤ w.heap.size
section
variable {E : Value × Value} {X : CkX} {S : CkS} {σ : Cs} {w w' : World}
/-- Where nothing of the checker's changes. -/
theorem CkE.grown (h : CkE E X S σ w) (hg : w.grownBy w' none) : CkE E X S σ w' where
  chk := gr_blk hg h.chk (by simp)
  sco := gr_row hg h.sco (by simp)
  scl := h.scl
  map_ := fun j m s h1 h2 => ⟨(h.map_ j m s h1 h2).1, gr_map hg (h.map_ j m s h1 h2).2 (by simp)⟩
  nod2 := h.nod2
  glb := gr_rowB hg h.glb (by simp)
  hB := ⟨h.hB.1, Nat.le_trans h.hB.2 hg.size⟩
theorem CkE.on (h : CkE E X S σ w) (hb : Below w.heap.size w w') : CkE E X S σ w' := h.grown (grown_of_below hb)
theorem CkE.alloc (h : CkE E X S σ w) (o : Obj) : CkE E X S σ (w.alloc o) := h.on ((Below.refl _ _).alloc (Nat.le_refl _) o)
theorem CkE.drew (h : CkE E X S σ w) : CkE E X S σ w.drew := h.on ⟨rfl, rfl, rfl, Nat.le_refl _, fun _ _ => rfl⟩
/-- A name is declared in the j-th scope. -/
theorem CkE.put (h : CkE E X S σ w) {j m : Nat} {s s' : Scp} (hm : S.mps[j]? = some m) (hs : σ.sc[j]? = some s) (hv : ScV w' m s'.length s') (hg : w.grownBy w' (some m)) :
    CkE E X S { σ with sc := σ.sc.set j s' } w' := by
  have hk : KindM w m := mpv_kind (h.map_ j m s hm hs).2
  have hr : ∀ {base sz n : Nat} {T : TypeId} {v : Value} {xs : List Value}, w.ownsRow base T sz v n xs → ∀ r, some m = some r → v.ownBlock ≠ some r := by
    intro base sz n T v xs h1 r hr e
    cases hr
    exact kindM_ne (row_kind h1 e) hk rfl
  exact {
    chk := gr_blk hg h.chk (fun e => kindM_ne h.chk.kind hk (Option.some.inj e).symm)
    sco := gr_row hg h.sco (hr h.sco)
    scl := by simpa using h.scl
    map_ := fun i m' s1 h1 h2 => by
      by_cases hij : j = i
      · subst hij
        obtain rfl : m = m' := by rw [hm] at h1; exact Option.some.inj h1
        have hjl := (List.getElem?_eq_some_iff.1 hs).1
        rw [List.getElem?_set_self hjl] at h2
        cases h2
        exact ⟨(h.map_ j m s hm hs).1, hv⟩
      · rw [List.getElem?_set_ne hij] at h2
        refine ⟨(h.map_ i m' s1 h1 h2).1, gr_map hg (h.map_ i m' s1 h1 h2).2 ?_⟩
        intro e
        obtain rfl : m = m' := Option.some.inj e
        obtain ⟨a1, e1⟩ := List.getElem?_eq_some_iff.1 hm
        obtain ⟨a2, e2⟩ := List.getElem?_eq_some_iff.1 h1
        exact hij ((List.getElem_inj h.nod2).1 (e1.trans e2.symm))
    nod2 := h.nod2
    glb := gr_rowB hg h.glb (hr h.glb.1)
    hB := ⟨h.hB.1, Nat.le_trans h.hB.2 hg.size⟩ }
theorem CkE.c0 (h : CkE E X S σ w) : w.cell? ⟨X.b, 0, none⟩ = some (.slice X.gA X.gs.length X.gc) := h.chk.cell 0
theorem CkE.c3 (h : CkE E X S σ w) : w.cell? ⟨X.b, 3, none⟩ = some S.scv := h.chk.cell 3
end
theorem CkE.scs {E : Value × Value} {X : CkX} {S : CkS} {σ : Cs} {w : World} (h : CkE E X S σ w) : ScsV w X.B S.scv S.mps σ.sc := ⟨h.sco, h.scl, h.map_⟩
theorem CkE.Ble {E : Value × Value} {X : CkX} {S : CkS} {σ : Cs} {w : World} (h : CkE E X S σ w) : X.B ≤ w.heap.size := h.hB.2
set_option maxHeartbeats 1000000 in
set_option maxRecDepth 100000 in
theorem declareE_any {E : Value × Value} {X : CkX} {S : CkS} {σ : Cs} {w : World} (h : CkE E X S σ w) {k : Nat} (hk : σ.sc.length = k + 1) (hk2 : k ≤ 1000000) (hl : (σ.sc.getLast?.getD []).length ≤ 2000000) {x : List UInt8} (hx : x.length ≤ maxLen) (m : Mg) :
    Calls Tryz.prog 50 #[S.scv, .string (str x), mgV m] w fun e w' => e = .returned (.tuple #[]) ∧ CkE E X S { σ with sc := decl σ.sc x m } w' ∧ Below X.B w w' ∧ ∀ k, k < w.heap.size → k ∉ S.mps → w'.heap[k]? = w.heap[k]? := by
  have hkl : k < σ.sc.length := by omega
  obtain ⟨s0, hs0⟩ : ∃ s, σ.sc[k]? = some s := ⟨_, List.getElem?_eq_getElem hkl⟩
  have hs0' : σ.sc[k] = s0 := (List.getElem?_eq_some_iff.1 hs0).2
  have hd : decl σ.sc x m = σ.sc.set k ((x, m) :: s0) := by rw [decl_set hk, hs0']
  rw [getLast_at hk, hs0'] at hl
  rw [hd]
  obtain ⟨m1, m2, m3⟩ := m
  have hb1 : Below w.heap.size w (w.alloc (.cells #[.int .i64 m1, .int .i64 m2, .int .i64 m3] tMg)) := (Below.refl _ _).alloc (Nat.le_refl _) _
  have h1 := h.on hb1
  have hB := h.Ble
  have b1 := Blk.new w tMg #[.int .i64 m1, .int .i64 m2, .int .i64 m3]
  obtain ⟨g, c, mm, hv, hg, hnc, hcm, hmm, hc, hs⟩ := h1.scs.at (j := k) (by omega)
  rw [hs0'] at hs
  obtain ⟨R, hR⟩ : ∃ R : Ending → World → Prop, (fun e w' => e = Ending.returned (.tuple #[]) ∧ CkE E X S { σ with sc := σ.sc.set k ((x, ⟨m1, m2, m3⟩) :: s0) } w' ∧ Below X.B w w' ∧ ∀ k, k < w.heap.size → k ∉ S.mps → w'.heap[k]? = w.heap[k]?) = R := ⟨_, rfl⟩
  have HR : Hid (∀ w', (CkE E X S { σ with sc := σ.sc.set k ((x, ⟨m1, m2, m3⟩) :: s0) } w' ∧ Below X.B w w' ∧ ∀ k, k < w.heap.size → k ∉ S.mps → w'.heap[k]? = w.heap[k]?) → R (.returned (.tuple #[])) w') := Lib.hid fun w' h => by rw [← hR]; exact ⟨rfl, h⟩
  rw [show (fun e w' => e = Ending.returned (.tuple #[]) ∧ CkE E X S { σ with sc := σ.sc.set k ((x, ⟨m1, m2, m3⟩) :: s0) } w' ∧ Below X.B w w' ∧ ∀ k, k < w.heap.size → k ∉ S.mps → w'.heap[k]? = w.heap[k]?) = R from hR]
  rw [hv, hk]
  generalize hW : w.alloc (.cells #[.int .i64 m1, .int .i64 m2, .int .i64 m3] tMg) = W1 at *
  obtain ⟨w2, hrun, hs2, hg2⟩ := (show ScV W1.drew mm s0.length s0 from hs).put (by unfold maxLen; omega) hx ⟨m1, m2, m3⟩
  have HC := Lib.hid (h1.drew.put (σ := σ) (s' := (x, ⟨m1, m2, m3⟩) :: s0) hmm hs0 hs2 hg2)
  have hmB : X.B ≤ mm := (h1.map_ k mm _ hmm hs0).1
  have hbb : Below X.B w w2 := (hb1.mono hB).trans (((Below.refl X.B W1).drew).grown hg2 (by have := h1.Ble; simpa using this) (fun j e => by cases e; exact hmB))
  have hfr : ∀ k, k < w.heap.size → k ∉ S.mps → w2.heap[k]? = w.heap[k]? := by
    intro k hk hkm
    have h9 := hg2.block k (by have := hb1.size; simp; omega) (fun e => hkm (by cases e; exact List.mem_of_getElem? hmm))
    exact h9.trans (hb1.block k hk)
  have HW := Lib.hid (And.intro hbb hfr)
  have p0 := b1.cell 0
  have p1 := b1.cell 1
  have p2 := b1.cell 2
  have pl := b1.lt
  simp only [List.getElem?_toArray, List.getElem?_cons_zero, List.getElem?_cons_succ] at p0 p1 p2
  unfold mgV at hrun ⊢
  simp only at hrun
  clear hs hs2 hg2 h1 h hv hbb hfr hb1 b1 hk hmm hs0 hs0' hd hR hl hkl
  go_enter Tryz.func50, Tryz.ntmps50
  go_upto_region 1 with (fail)
  clear hW
  generalize w.heap.size = H0 at *
  go_region
  go_end0
  exact HR.out _ ⟨HC.out, HW.out.1, HW.out.2⟩
theorem CkE.fresh {E : Value × Value} {X : CkX} {S : CkS} {σ : Cs} {w : World} (h : CkE E X S σ w) : ∀ m ∈ S.mps, m < w.heap.size := by
  intro m hm
  obtain ⟨j, hj, rfl⟩ := List.getElem_of_mem hm
  have hj2 : j < σ.sc.length := by rw [← h.scl]; exact hj
  exact (h.map_ j _ _ (List.getElem?_eq_getElem hj) (List.getElem?_eq_getElem hj2)).2.lt
/-- What globals answers. -/
def GlbPE (E : Value × Value) (X : CkX) (S : CkS) (σ : Cs) (r : Ck Scp) (w : World) (e : Ending) (w' : World) : Prop :=
  (∃ s, r = .ok s ∧ e = .returned (.tuple #[]) ∧ CkE E X S { σ with sc := [s] } w' ∧ Below X.B w w' ∧ s.length ≤ X.gs.length + (σ.sc.getLast?.getD []).length) ∨ (∃ no p, r = .er no p ∧ e = .panicked [{ v := .iface tFt (.agg #[.int .i64 no, .int .i64 p]), recovered := false }] ∧ Below X.B w w')
theorem CkE.glAt {E : Value × Value} {X : CkX} {S : CkS} {σ : Cs} {w : World} (h : CkE E X S σ w) {j : Nat} {g : Gl} (hg : X.gs[j]? = some g) : ∃ b, X.gA = some ⟨b, 0, none⟩ ∧ b < w.heap.size ∧ ∀ t, t < 4 → w.cell? ⟨b, j * 4 + t, none⟩ = (glC g)[t]? := by
  have hj := (List.getElem?_eq_some_iff.1 hg).1
  rcases h.glb.1.2 with ⟨e, h0⟩ | ⟨b, cap, cur, e, _, hh, _⟩
  · omega
  · simp only [Value.slice.injEq] at e
    have hrow := h.glb.1
    rw [e.1] at hrow
    refine ⟨b, e.1, (Array.getElem?_eq_some_iff.1 hh).1, fun t ht => ?_⟩
    rw [hrow.cellAt (j * 4 + t) (by have h1 : (j + 1) * 4 ≤ X.gs.length * 4 := Nat.mul_le_mul_right _ hj; omega), flat_at' _ 4 (fun _ => rfl) _ j t ht, hg]
    rfl
set_option maxHeartbeats 4000000 in
set_option maxRecDepth 100000 in
theorem globalsE_any {E : Value × Value} {X : CkX} {S : CkS} {σ : Cs} {w : World} (h : CkE E X S σ w) {s0 : Scp} (hs0 : σ.sc = [s0]) (hsl : s0.length ≤ 1000000) (hgl : X.gs.length ≤ 1000000) (hgs : ∀ g ∈ X.gs, g.s.length ≤ 1000000 ∧ g.n ≤ 1000000) :
    Calls Tryz.prog 24 #[ckp X] w (GlbPE E X S σ (globM X.gs 0 0 s0) w) := by
  obtain ⟨R, hR⟩ : ∃ R : Ending → World → Prop, GlbPE E X S σ (globM X.gs 0 0 s0) w = R := ⟨_, rfl⟩
  rw [hR]
  have HR := Lib.hid hR
  have c0 := h.c0
  have hbl := h.chk.lt
  have H := Lib.hid (And.intro h (And.intro hs0 hgs))
  obtain ⟨n, hn⟩ : ∃ n, X.gs.length = n := ⟨_, rfl⟩
  have HN := Lib.hid hn
  rw [hn] at c0 hgl
  clear hR h hn hs0 hgs
  go_enter Tryz.func24, Tryz.ntmps24
  go_wp2_with fail
  go_loopw [2, 11] (fun v2 v11 wr => ∃ (j : Nat) (s : Scp) (b : Int), j ≤ n ∧ v11 = .int .i64 j ∧ v2 = .int .i64 b ∧ 0 ≤ b ∧ b ≤ 4096 ∧ globM X.gs 0 0 s0 = globM (X.gs.drop j) j b s ∧ s.length ≤ s0.length + j ∧ CkE E X S { σ with sc := [s] } wr ∧ Below X.B w wr) (fun _ v _ => n - (intOf v).toNat)
  case atStart => exact ⟨0, s0, 0, by omega, rfl, rfl, by omega, by omega, by simp, by omega, by have := H.out.1; have e := H.out.2.1; cases σ; simp only at e; subst e; exact this, Below.refl _ _⟩
  case round =>
    obtain ⟨j, s, b, hj, rfl, rfl, hb0, hb4, hgm, hsj, hC, hbw⟩ := hrel
    by_cases hlt : j < n
    · have hjl : j < X.gs.length := by rw [HN.out]; exact hlt
      obtain ⟨g, hg⟩ : ∃ g, X.gs[j]? = some g := ⟨_, List.getElem?_eq_getElem hjl⟩
      obtain ⟨gb, hgA, hgbl, hgc⟩ := hC.glAt hg
      rw [hgA]
      have y0 : wr.cell? ⟨gb, j * 4, none⟩ = some (.string (str g.s)) := hgc 0 (by omega)
      have y1 : wr.cell? ⟨gb, j * 4 + 1, none⟩ = some (.int .i64 g.ty) := hgc 1 (by omega)
      have y2 : wr.cell? ⟨gb, j * 4 + 2, none⟩ = some (.int .i64 g.n) := hgc 2 (by omega)
      have y3 : wr.cell? ⟨gb, j * 4 + 3, none⟩ = some (.int .i64 g.p) := hgc 3 (by omega)
      have hdr : X.gs.drop j = g :: X.gs.drop (j + 1) := by
        rw [List.drop_eq_getElem_cons hjl]
        congr 1
        exact (List.getElem?_eq_some_iff.1 hg).2
      rw [hdr, glob_step] at hgm
      have hgw := H.out.2.2 g (List.mem_of_getElem? hg)
      have hltI : (j : Int) < n := by omega
      have HG := Lib.hid (And.intro hgm (And.intro hC (And.intro hbw hgA)))
      clear hgm hC hbw hgc hdr
      go_upto_region 4 with (fail)
      have hba : Below wr.heap.size wr (wr.alloc (.cells #[.string (str g.s), .int .i64 g.ty, .int .i64 g.n, .int .i64 g.p] tGb)) := (Below.refl _ _).alloc (Nat.le_refl _) _
      have hk1 := Blk.new wr tGb #[.string (str g.s), .int .i64 g.ty, .int .i64 g.n, .int .i64 g.p]
      have hC1 := HG.out.2.1.on hba
      have hmf := HG.out.2.1.fresh
      obtain ⟨H1, hH1⟩ : ∃ x, wr.heap.size = x := ⟨_, rfl⟩
      rw [hH1] at hk1
      generalize hW1 : wr.alloc (.cells #[.string (str g.s), .int .i64 g.ty, .int .i64 g.n, .int .i64 g.p] tGb) = W1 at *
      simp only [hH1]
      obtain ⟨A3, n3, c3, hv3⟩ : ∃ A n c, S.scv = .slice A n c := by
        obtain ⟨A3, c3, e⟩ := own_ex hC1.sco
        exact ⟨A3, _, c3, e⟩
      have hcs := hC1.c3
      rw [hv3] at hcs
      have hbl1 := hC1.chk.lt
      have q0 : W1.cell? ⟨H1, 0, none⟩ = some (.string (str g.s)) := hk1.cell 0
      have q1 : W1.cell? ⟨H1, 1, none⟩ = some (.int .i64 g.ty) := hk1.cell 1
      have q2 : W1.cell? ⟨H1, 2, none⟩ = some (.int .i64 g.n) := hk1.cell 2
      have q3 : W1.cell? ⟨H1, 3, none⟩ = some (.int .i64 g.p) := hk1.cell 3
      have ql := hk1.lt
      have hgn : g.s.length ≤ maxLen := by unfold maxLen; have := hgw.1; omega
      obtain ⟨bh, hbh⟩ : ∃ b, (look s g.s).isSome = b := ⟨_, rfl⟩
      have HHas : Hid (∀ W, Below W1.heap.size W1 W → Calls Tryz.prog 49 #[.slice A3 n3 c3, .string (str g.s)] W fun e w' => e = .returned (.bool bh) ∧ Below W1.heap.size W1 w') := Lib.hid fun W hW => by
        have hsv := (hC1.on hW).scs
        rw [hv3] at hsv
        rw [← hbh]
        exact (has_any hsv (k := 0) rfl (by omega) hgn).mono fun e w' h => ⟨h.1, hW.trans (h.2.mono hW.size)⟩
      have HS4 : Hid (∀ Wx, Below W1.heap.size W1 Wx → Wx.cell? ⟨X.b, 3, none⟩ = some (.slice A3 n3 c3) ∧ Wx.cell? ⟨H1, 0, none⟩ = some (.string (str g.s)) ∧ Wx.cell? ⟨H1, 3, none⟩ = some (.int .i64 g.p) ∧ X.b < Wx.heap.size ∧ H1 < Wx.heap.size) := Lib.hid fun Wx hW => by
        have hz := hW.size
        exact ⟨(hW.cell (p := ⟨X.b, 3, none⟩) hbl1).trans hcs, (hW.cell (p := ⟨H1, 0, none⟩) ql).trans q0, (hW.cell (p := ⟨H1, 3, none⟩) ql).trans q3, by omega, by omega⟩
      have HRf : Hid (∀ W b, Below W1.heap.size W1 W → Calls Tryz.prog 48 #[.bool b, .int .i64 5, .int .i64 g.p] W fun e w' => (b = true ∧ e = .panicked [{ v := .iface tFt (.agg #[.int .i64 5, .int .i64 g.p]), recovered := false }] ∨ b = false ∧ e = .returned (.tuple #[])) ∧ Below W1.heap.size W1 w') := Lib.hid fun W b hW =>
        (refuse_or b 5 g.p W).mono fun e w' h => ⟨h.1, by rw [← h.2]; exact hW⟩
      have HBW := Lib.hid (show Below X.B w W1 from HG.out.2.2.1.trans (hba.mono HG.out.2.1.Ble))
      have HE5 : Hid (∀ W, Below W1.heap.size W1 W → bh = true → R (.panicked [{ v := .iface tFt (.agg #[.int .i64 5, .int .i64 g.p]), recovered := false }]) W) := Lib.hid fun W hW hne => by
        rw [← HR.out]
        exact .inr ⟨5, g.p, by rw [HG.out.1, hbh, hne]; rfl, rfl, HBW.out.trans (hW.mono hC1.Ble)⟩
      have HC1 := Lib.hid (And.intro hC1 (And.intro hk1 (And.intro hmf (And.intro hH1 (And.intro hv3 hbh)))))
      have J : Below W1.heap.size W1 W1 := Below.refl _ _
      clear hba hk1 hC1 hmf hH1 hW1 hv3 hbh y0 y1 y2 y3 hg
      go_cut [] (fun wx => bh = false ∧ Below W1.heap.size W1 wx)
      case first =>
        go_region_held2 (fun Wx => Wx.cell? ⟨X.b, 3, none⟩ = some (.slice A3 n3 c3) ∧ Wx.cell? ⟨H1, 0, none⟩ = some (.string (str g.s)) ∧ Wx.cell? ⟨H1, 3, none⟩ = some (.int .i64 g.p) ∧ X.b < Wx.heap.size ∧ H1 < Wx.heap.size)
          (first | exact ⟨hcs, q0, q3, hbl1, ql⟩ | exact HS4.out _ J)
          (first
            | (go_at_call 49; (with_reducible refine Calls.mono (HHas.out _ (by first | exact J | exact J.drew)) ?_); rintro e v1 ⟨rfl, J⟩)
            | (go_at_call 48; (with_reducible refine Calls.mono (HRf.out _ _ (by first | exact J | exact J.drew)) ?_); rintro e v2 ⟨⟨hm, rfl⟩ | ⟨hm, rfl⟩, J⟩; (have J9 := Lib.hid J; have HM9 := Lib.hid hm; clear hm; go_wp2_with fail; refine pnc_end rfl ?_; exact HE5.out _ J9.out HM9.out); have HMM := Lib.hid hm; clear hm))
        all_goals
          go_wp2_with fail
          go_meet
          exact ⟨HMM.out, J⟩
      case rest =>
        obtain ⟨hbf, J⟩ := hcut
        obtain ⟨mm, hmm⟩ : ∃ m, gMg g j = m := ⟨_, rfl⟩
        have hdl : decl [s] g.s mm = [(g.s, mm) :: s] := rfl
        have HDc : Hid (∀ W, Below W1.heap.size W1 W → Calls Tryz.prog 50 #[.slice A3 n3 c3, .string (str g.s), .agg #[.int .i64 mm.so, .int .i64 mm.rf, .int .i64 mm.vl]] W fun e w' => e = .returned (.tuple #[]) ∧ CkE E X S { σ with sc := [(g.s, mm) :: s] } w' ∧ Below X.B w w' ∧ Blk w' H1 tGb #[.string (str g.s), .int .i64 g.ty, .int .i64 g.n, .int .i64 g.p]) := Lib.hid fun W hW => by
          obtain ⟨hC1, hk1, hmf, hH1, hv3, hbh⟩ := HC1.out
          have hd := declareE_any (hC1.on hW) (k := 0) rfl (by omega) (x := g.s) (show s.length ≤ 2000000 by omega) hgn mm
          rw [show S.scv = .slice A3 n3 c3 from hv3] at hd
          refine hd.mono fun e w' ⟨h1, h2, h3, h4⟩ => ⟨h1, h2, HBW.out.trans ((hW.mono hC1.Ble).trans h3), ?_⟩
          have hz := hk1.below hW hk1.lt
          have e4 := h4 H1 (by have := hW.size; omega) (fun e => absurd (hmf _ e) (by omega))
          exact e4.trans hz
        have HGm : Hid (∀ W, Below W1.heap.size W1 W → Calls Tryz.prog 51 #[.agg #[.string (str g.s), .int .i64 g.ty, .int .i64 g.n, .int .i64 g.p], .int .i64 (j : Int)] W fun e w' => e = .returned (.agg #[.int .i64 mm.so, .int .i64 mm.rf, .int .i64 mm.vl]) ∧ Below W1.heap.size W1 w') := Lib.hid fun W hW => by
          rw [← hmm]
          exact (gmg_any g j (by omega) W).mono fun e w' h => ⟨h.1, hW.trans (h.2.mono hW.size)⟩
        have HS5 : Hid (∀ Wx, Below W1.heap.size W1 Wx → Wx.cell? ⟨X.b, 3, none⟩ = some (.slice A3 n3 c3) ∧ Wx.cell? ⟨H1, 0, none⟩ = some (.string (str g.s)) ∧ Wx.cell? ⟨H1, 1, none⟩ = some (.int .i64 g.ty) ∧ Wx.cell? ⟨H1, 2, none⟩ = some (.int .i64 g.n) ∧ Wx.cell? ⟨H1, 3, none⟩ = some (.int .i64 g.p) ∧ X.b < Wx.heap.size ∧ H1 < Wx.heap.size) := Lib.hid fun Wx hW => by
          have hz := hW.size
          exact ⟨(hW.cell (p := ⟨X.b, 3, none⟩) hbl1).trans hcs, (hW.cell (p := ⟨H1, 0, none⟩) ql).trans q0, (hW.cell (p := ⟨H1, 1, none⟩) ql).trans q1, (hW.cell (p := ⟨H1, 2, none⟩) ql).trans q2, (hW.cell (p := ⟨H1, 3, none⟩) ql).trans q3, by omega, by omega⟩
        have HS9 : Hid (∀ Wx, (CkE E X S { σ with sc := [(g.s, mm) :: s] } Wx ∧ Below X.B w Wx ∧ Blk Wx H1 tGb #[.string (str g.s), .int .i64 g.ty, .int .i64 g.n, .int .i64 g.p]) → Wx.cell? ⟨X.b, 3, none⟩ = some (.slice A3 n3 c3) ∧ Wx.cell? ⟨H1, 0, none⟩ = some (.string (str g.s)) ∧ Wx.cell? ⟨H1, 1, none⟩ = some (.int .i64 g.ty) ∧ Wx.cell? ⟨H1, 2, none⟩ = some (.int .i64 g.n) ∧ Wx.cell? ⟨H1, 3, none⟩ = some (.int .i64 g.p) ∧ X.b < Wx.heap.size ∧ H1 < Wx.heap.size) := Lib.hid fun Wx hW => by
          have hv3 := HC1.out.2.2.2.2.1
          exact ⟨by rw [← show S.scv = .slice A3 n3 c3 from hv3]; exact hW.1.c3, hW.2.2.cell 0, hW.2.2.cell 1, hW.2.2.cell 2, hW.2.2.cell 3, hW.1.chk.lt, hW.2.2.lt⟩
        obtain ⟨p3, r0, r1, r2, r3, pl, rl⟩ := HS5.out _ J
        have HMM := Lib.hid (And.intro hmm hbf)
        clear hmm hbf hdl hcs q0 q1 q2 q3 ql hbl1
        go_upto_region 5 with (fail)
        go_cut [] (fun wx => CkE E X S { σ with sc := [(g.s, mm) :: s] } wx ∧ Below X.B w wx ∧ Blk wx H1 tGb #[.string (str g.s), .int .i64 g.ty, .int .i64 g.n, .int .i64 g.p])
        case first =>
          go_region_held2 (fun Wx => Wx.cell? ⟨X.b, 3, none⟩ = some (.slice A3 n3 c3) ∧ Wx.cell? ⟨H1, 0, none⟩ = some (.string (str g.s)) ∧ Wx.cell? ⟨H1, 1, none⟩ = some (.int .i64 g.ty) ∧ Wx.cell? ⟨H1, 2, none⟩ = some (.int .i64 g.n) ∧ Wx.cell? ⟨H1, 3, none⟩ = some (.int .i64 g.p) ∧ X.b < Wx.heap.size ∧ H1 < Wx.heap.size)
            (first | exact ⟨p3, r0, r1, r2, r3, pl, rl⟩ | exact HS9.out _ HJ9.out | exact HS5.out _ J)
            (first
              | (go_at_call 51; (with_reducible refine Calls.mono (HGm.out _ (by first | exact J | exact J.drew)) ?_); rintro e v1 ⟨rfl, J⟩)
              | (go_at_call 50; (with_reducible refine Calls.mono (HDc.out _ (by first | exact J | exact J.drew)) ?_); rintro e v2 ⟨rfl, J9⟩; have HJ9 := Lib.hid J9; clear J9))
          all_goals
            go_wp2_with fail
            go_meet
            exact HJ9.out
        case rest =>
          obtain ⟨hC5, hb5, hk5⟩ := hcut
          obtain ⟨wc5, hwc5⟩ : ∃ x, x = wc := ⟨_, rfl⟩
          subst hwc5
          have z0 : wc5.cell? ⟨H1, 0, none⟩ = some (.string (str g.s)) := hk5.cell 0
          have z1 : wc5.cell? ⟨H1, 1, none⟩ = some (.int .i64 g.ty) := hk5.cell 1
          have z2 : wc5.cell? ⟨H1, 2, none⟩ = some (.int .i64 g.n) := hk5.cell 2
          have z3 : wc5.cell? ⟨H1, 3, none⟩ = some (.int .i64 g.p) := hk5.cell 3
          have zl := hk5.lt
          obtain ⟨ev, hev⟩ : ∃ e, eb g.ty = e := ⟨_, rfl⟩
          have heb := eb_bd g.ty
          have hgn2 := hgw.2
          rw [hev] at heb
          obtain ⟨pr, hpr⟩ : ∃ e, max g.n 1 * ev = e := ⟨_, rfl⟩
          have hp0 : 1 ≤ pr ∧ pr ≤ 8000000 := by
            have h1 : 1 ≤ max g.n 1 := by omega
            have h2 : max g.n 1 ≤ 1000000 := by omega
            rw [← hpr]
            constructor
            · have := Int.mul_le_mul h1 heb.1 (by omega) (by omega); omega
            · have := Int.mul_le_mul h2 heb.2 (by omega) (by omega); omega
          have HEV := Lib.hid (And.intro hev hpr)
          have hw1 : IntKind.i64.wrap (max g.n 1 * ev) = pr := by rw [hpr]; exact wrap_small (by omega) (by omega)
          have hw2 : IntKind.i64.wrap (b + pr) = b + pr := wrap_small (by omega) (by omega)
          have HEb : Hid (∀ W, Below wc5.heap.size wc5 W → Calls Tryz.prog 52 #[.int .i64 g.ty] W fun e w' => e = .returned (.int .i64 ev) ∧ Below wc5.heap.size wc5 w') := Lib.hid fun W hW => by
            rw [← HEV.out.1]
            exact (eb_any g.ty W).mono fun e w' h => ⟨h.1, by rw [← h.2]; exact hW⟩
          have HS6 : Hid (∀ Wx, Below wc5.heap.size wc5 Wx → Wx.cell? ⟨H1, 1, none⟩ = some (.int .i64 g.ty) ∧ Wx.cell? ⟨H1, 2, none⟩ = some (.int .i64 g.n) ∧ Wx.cell? ⟨H1, 3, none⟩ = some (.int .i64 g.p) ∧ H1 < Wx.heap.size) := Lib.hid fun Wx hW => by
            have hz := hW.size
            exact ⟨(hW.cell (p := ⟨H1, 1, none⟩) zl).trans z1, (hW.cell (p := ⟨H1, 2, none⟩) zl).trans z2, (hW.cell (p := ⟨H1, 3, none⟩) zl).trans z3, by omega⟩
          have HC6 := Lib.hid (And.intro hC5 hb5)
          have J6 : Below wc5.heap.size wc5 wc5 := Below.refl _ _
          clear hC5 hb5 hk5 hev hpr hgw p3 r0 r1 r2 r3
          go_upto_region 6 with (fail)
          go_cut [2] (fun v2 wx => v2 = .int .i64 (b + pr) ∧ Below wc5.heap.size wc5 wx)
          case first =>
            go_region_held2 (fun Wx => Wx.cell? ⟨H1, 1, none⟩ = some (.int .i64 g.ty) ∧ Wx.cell? ⟨H1, 2, none⟩ = some (.int .i64 g.n) ∧ Wx.cell? ⟨H1, 3, none⟩ = some (.int .i64 g.p) ∧ H1 < Wx.heap.size)
              (first | exact ⟨z1, z2, z3, zl⟩ | exact HS6.out _ J6)
              ((go_at_call 52; (with_reducible refine Calls.mono (HEb.out _ (by first | exact J6 | exact J6.drew)) ?_); rintro e v1 ⟨rfl, J6⟩))
            all_goals
              go_wp2_with fail
              go_meet
              exact ⟨rfl, J6⟩
          case rest =>
            obtain ⟨hv2, J7⟩ := hcut
            subst hv2
            obtain ⟨wc6, hwc6⟩ : ∃ x, x = wc := ⟨_, rfl⟩
            subst hwc6
            have HRf9 : Hid (∀ W b, Below wc5.heap.size wc5 W → Calls Tryz.prog 48 #[.bool b, .int .i64 9, .int .i64 g.p] W fun e w' => (b = true ∧ e = .panicked [{ v := .iface tFt (.agg #[.int .i64 9, .int .i64 g.p]), recovered := false }] ∨ b = false ∧ e = .returned (.tuple #[])) ∧ Below wc5.heap.size wc5 w') := Lib.hid fun W b hW =>
              (refuse_or b 9 g.p W).mono fun e w' h => ⟨h.1, by rw [← h.2]; exact hW⟩
            have HE9 : Hid (∀ W, Below wc5.heap.size wc5 W → 4096 < b + pr → R (.panicked [{ v := .iface tFt (.agg #[.int .i64 9, .int .i64 g.p]), recovered := false }]) W) := Lib.hid fun W hW hne => by
              rw [← HR.out]
              refine .inr ⟨9, g.p, ?_, rfl, HC6.out.2.trans (hW.mono HC6.out.1.Ble)⟩
              rw [HG.out.1, HC1.out.2.2.2.2.2, HMM.out.2, HEV.out.1, HEV.out.2, if_neg (by decide), if_pos hne]
            obtain ⟨z1, z2, z3, zl⟩ := HS6.out _ J7
            clear J6
            obtain ⟨bq, hbq⟩ : ∃ q, decide (4096 < b + pr) = q := ⟨_, rfl⟩
            have HBQ := Lib.hid hbq
            go_wp2_with fail
            refine (HRf9.out _ _ (by first | exact J7 | exact J7.drew)).mono ?_
            rintro e v2 ⟨⟨hm, rfl⟩ | ⟨hm, rfl⟩, J8⟩
            · have HM9 := Lib.hid (HE9.out _ J8 (by simpa [← HBQ.out] using hm))
              clear hm J8 hbq
              go_wp2_with fail
              exact pnc_end rfl HM9.out
            · have hnb : ¬ (4096 < b + pr) := by simpa [← HBQ.out] using hm
              have HG2 : Hid (globM X.gs 0 0 s0 = globM (X.gs.drop (j + 1)) (j + 1) (b + pr) ((g.s, mm) :: s)) := Lib.hid (by
                rw [HG.out.1, HC1.out.2.2.2.2.2, HMM.out.2, HEV.out.1, HEV.out.2, if_neg (by decide), if_neg hnb, HMM.out.1])
              have HC8 := Lib.hid (show CkE E X S { σ with sc := [(g.s, mm) :: s] } _ ∧ Below X.B w _ from ⟨HC6.out.1.on J8, HC6.out.2.trans (J8.mono HC6.out.1.Ble)⟩)
              have hsj2 : ((g.s, mm) :: s).length ≤ s0.length + (j + 1) := by simp; omega
              clear J8 J7 z1 z2 z3 hm hbq
              go_wp2_with fail
              go_roundw
              case rel => exact ⟨j + 1, (g.s, mm) :: s, b + pr, by omega, by go_num, rfl, by omega, by omega, HG2.out, hsj2, HC8.out.1, HC8.out.2⟩
              case measure => simp [intOf]; omega
    · obtain rfl : j = n := by omega
      have hdr : X.gs.drop j = [] := List.drop_eq_nil_of_le (by rw [HN.out]; omega)
      rw [hdr] at hgm
      have HG := Lib.hid (And.intro hgm (And.intro hC hbw))
      clear hgm hC hbw hdr
      go_wp2_with fail
      go_end0
      rw [← HR.out]
      exact .inl ⟨s, HG.out.1, rfl, HG.out.2.1, HG.out.2.2, by rw [H.out.2.1, HN.out]; simp; omega⟩
end Go.Proofs.YtfaoiajhoifalaaGreatDoor
/-! Clp -/
namespace Go.Proofs.YtfaoiajhoifalaaGreatDoor
open Go Go.RowKit Go.Maps
set_option linter.unusedVariables false
set_option linter.unusedSimpArgs false

/-- What newChecker answers, where there are no functions. -/
def NewEP (gs : List Gl) (w : World) (e : Ending) (w' : World) : Prop :=
  ∃ (E : Value × Value) (X : CkX) (S : CkS), e = .returned (ckp X) ∧ X.B = w.heap.size ∧ X.gs = gs ∧ CkE E X S ⟨[], [[]], []⟩ w' ∧ Below w.heap.size w w' ∧ ∃ A c, E.1 = .slice A 0 c
theorem newEP_of {gs : List Gl} {w W : World} {gA fA nA : Option Addr} {gn fn nn gc fc nc b g sB sc : Nat} (hl : gs.length = gn ∧ fn = 0 ∧ nn = 0)
    (hk : Blk W b tCk #[.slice gA gn gc, .slice fA fn fc, .slice nA nn nc, .slice (some ⟨g, 0, none⟩) 1 1, .slice (some ⟨sB, 0, none⟩) nn sc, .pointer none, .map none])
    (hg : W.ownsRow w.heap.size tGb 4 (.slice gA gn gc) gn (gs.flatMap glC))
    (hms : ∃ m, W.ownsRow w.heap.size tMm 1 (.slice (some ⟨g, 0, none⟩) 1 1) 1 [.map (some m)] ∧ ScV W m 0 [] ∧ w.heap.size ≤ m)
    (hbB : w.heap.size ≤ b) (hb : Below w.heap.size w W) : NewEP gs w (.returned (.pointer (some ⟨b, 0, none⟩))) W := by
  obtain ⟨m, hsc, hm, hmB⟩ := hms
  obtain ⟨rfl, rfl, rfl⟩ := hl
  refine ⟨(.slice fA 0 fc, .slice nA 0 nc), ⟨w.heap.size, b, gA, gc, 0, nc, 0, fc, sB, sc, gs, [], []⟩, ⟨false, .pointer none, .map none, 0, W.heap.size, [], [m], .slice (some ⟨g, 0, none⟩) 1 1, 0, [], [], []⟩, rfl, rfl, rfl, ?_, hb, fA, fc, rfl⟩
  exact {
    chk := hk
    sco := hsc
    scl := rfl
    map_ := fun j k s h1 h2 => by
      cases j with
      | zero =>
        simp only [List.getElem?_cons_zero, Option.some.injEq] at h1 h2
        subst h1 h2
        exact ⟨hmB, hm⟩
      | succ j => simp at h1
    nod2 := by simp
    glb := ⟨hg, fun k hk => (hg.lt k hk).2⟩
    hB := ⟨hbB, hb.size⟩ }
set_option maxHeartbeats 8000000 in
set_option maxRecDepth 100000 in
theorem newCheckerE_any {w : World} {gA fA nA : Option Addr} {gc fc nc : Nat} {gs : List Gl} {fl : List (Fn' × Value)} {vls : List Value} {ns : List CN} {tr : List (Int × Int)} (h : PgI w gA fA nA gc fc nc gs fl vls ns tr) (hg : gs.length ≤ 1000000) (hf : fl.length ≤ 1000000) (hn : ns.length ≤ 1000000) (hgm : ∀ g ∈ gs, g.s.length ≤ 1000000) (hfm : ∀ x ∈ fl, x.1.s.length ≤ 1000000 ∧ x.1.ps.length ≤ 1000000 ∧ ∀ p ∈ x.1.ps, p.s.length ≤ 1000000) (hnm : ∀ x ∈ ns, x.h.s.length ≤ 1000000 ∧ x.kids.length ≤ 1000000) (hf1 : fl.length = 0) (hn1 : ns.length = 0) :
    Calls Tryz.prog 23 #[pgV gA fA nA gs.length gc fl.length fc ns.length nc] w (NewEP gs w) := by
  obtain ⟨R, hR⟩ : ∃ R : Ending → World → Prop, NewEP gs w = R := ⟨_, rfl⟩
  rw [hR]
  have HR := Lib.hid hR
  have hmm := @run_makeMap Tryz.prog
  have hk1 := Blk.new w tPro #[.slice gA gs.length gc, .slice fA fl.length fc, .slice nA ns.length nc]
  have h1 : Below w.heap.size w (w.alloc (.cells #[.slice gA gs.length gc, .slice fA fl.length fc, .slice nA ns.length nc] tPro)) := (Below.refl _ _).alloc (Nat.le_refl _) _
  have hmk := make_bools ns.length hn
  have HI := Lib.hid (h.on h1)
  have HU : Hid (∀ W, Below (w.alloc (.cells #[.slice gA gs.length gc, .slice fA fl.length fc, .slice nA ns.length nc] tPro)).heap.size (w.alloc (.cells #[.slice gA gs.length gc, .slice fA fl.length fc, .slice nA ns.length nc] tPro)) W → Calls Tryz.prog 47 #[pgV gA fA nA gs.length gc fl.length fc ns.length nc] W fun e w' => UnP gs fl ns tr W e w' ∧ Below (w.alloc (.cells #[.slice gA gs.length gc, .slice fA fl.length fc, .slice nA ns.length nc] tPro)).heap.size (w.alloc (.cells #[.slice gA gs.length gc, .slice fA fl.length fc, .slice nA ns.length nc] tPro)) w') := Lib.hid fun W hW => (unch_any (HI.out.on hW) hg hf hn hgm hfm hnm).mono fun e w' h9 => ⟨h9, by obtain ⟨_, _, _, _, _, _, _, _, _, hb9, _⟩ := h9; exact hW.trans (hb9.mono hW.size)⟩
  have HT := Lib.hid h.tl
  obtain ⟨gn, hgn⟩ : ∃ n, gs.length = n := ⟨_, rfl⟩
  obtain ⟨fn, hfn⟩ : ∃ n, fl.length = n := ⟨_, rfl⟩
  obtain ⟨nn, hnn⟩ : ∃ n, ns.length = n := ⟨_, rfl⟩
  have HN := Lib.hid (And.intro hgn (And.intro hfn hnn))
  have HF1 := Lib.hid (And.intro hf1 hn1)
  rw [hgn, hfn, hnn] at hk1 h1 HU ⊢
  rw [hnn] at hmk hn
  have hnb := hn
  clear hR h hgm hfm hnm hgn hfn hnn hg hf hf1 hn1 hn HI
  have HH1 := Lib.hid h1
  go_enter Tryz.func23, Tryz.ntmps23
  go_upto_region 1 with (fail)
  obtain ⟨H0, hH0⟩ : ∃ x, w.heap.size = x := ⟨_, rfl⟩
  rw [hH0] at hk1
  have HH0 := Lib.hid hH0
  have hsz : (w.alloc (.cells #[.slice gA gn gc, .slice fA fn fc, .slice nA nn nc] tPro)).heap.size = H0 + 1 := by simp [hH0]
  generalize w.alloc (.cells #[.slice gA gn gc, .slice fA fn fc, .slice nA nn nc] tPro) = W1 at *
  simp only [hH0]
  clear hH0 h1
  have q0 : W1.cell? ⟨H0, 0, none⟩ = some (.slice gA gn gc) := hk1.cell 0
  have q1 : W1.cell? ⟨H0, 1, none⟩ = some (.slice fA fn fc) := hk1.cell 1
  have q2 : W1.cell? ⟨H0, 2, none⟩ = some (.slice nA nn nc) := hk1.cell 2
  have ql := hk1.lt
  have HS : Hid (∀ Wx, Below W1.heap.size W1 Wx → Wx.cell? ⟨H0, 0, none⟩ = some (.slice gA gn gc) ∧ Wx.cell? ⟨H0, 1, none⟩ = some (.slice fA fn fc) ∧ Wx.cell? ⟨H0, 2, none⟩ = some (.slice nA nn nc) ∧ H0 < Wx.heap.size) := Lib.hid fun Wx hW =>
    ⟨(hW.cell (p := ⟨H0, 0, none⟩) ql).trans q0, (hW.cell (p := ⟨H0, 1, none⟩) ql).trans q1, (hW.cell (p := ⟨H0, 2, none⟩) ql).trans q2, Nat.lt_of_lt_of_le ql hW.size⟩
  have J : Below W1.heap.size W1 W1 := Below.refl _ _
  have HSZ := Lib.hid hsz
  clear hk1 hsz
  go_region_held2 (fun Wx => Wx.cell? ⟨H0, 0, none⟩ = some (.slice gA gn gc) ∧ Wx.cell? ⟨H0, 1, none⟩ = some (.slice fA fn fc) ∧ Wx.cell? ⟨H0, 2, none⟩ = some (.slice nA nn nc) ∧ H0 < Wx.heap.size)
    (first | exact ⟨q0, q1, q2, ql⟩ | exact HS.out _ J | exact HS.out _ (J.alloc J.size _) | exact HS.out _ (J.alloc J.size _).drew | exact HS.out _ ((J.alloc J.size _).alloc (by first | (simp; done) | (have := J.size; simp; omega)) _) | exact HS.out _ ((J.alloc J.size _).alloc (by first | (simp; done) | (have := J.size; simp; omega)) _).drew | exact HS.out _ (((J.alloc J.size _).alloc (by first | (simp; done) | (have := J.size; simp; omega)) _).alloc (by first | (simp; done) | (have := J.size; simp; omega)) _) | exact HS.out _ (((J.alloc J.size _).alloc (by first | (simp; done) | (have := J.size; simp; omega)) _).alloc (by first | (simp; done) | (have := J.size; simp; omega)) _).drew | exact HS.out _ ((((J.alloc J.size _).alloc (by first | (simp; done) | (have := J.size; simp; omega)) _).alloc (by first | (simp; done) | (have := J.size; simp; omega)) _).alloc (by first | (simp; done) | (have := J.size; simp; omega)) _))
    ((go_at_call 47; (with_reducible refine Calls.mono (HU.out _ (by first | exact J | exact J.drew | exact J.alloc J.size _ | exact (J.alloc J.size _).drew | exact (J.alloc J.size _).alloc (by simp) _ | exact ((J.alloc J.size _).alloc (by simp) _).drew | exact ((J.alloc J.size _).alloc (by simp) _).alloc (by simp; omega) _ | exact (((J.alloc J.size _).alloc (by simp) _).alloc (by first | (simp; done) | (simp; omega)) _).drew)) ?_); rintro e v2 ⟨⟨gA', fA', nA', gc', fc', nc', fl', ns', rfl, hbv, RG, RF, RN, he, hp, hne, hkd, hgx, hfx, hnx⟩, J⟩))
  all_goals
    go_wp2_with fail
    rw [← HR.out]
    have e1 := HSZ.out
    have e2 := HH0.out
    have e3 := hbv.size
    have e4 := J.size
    simp at e3
    obtain ⟨rfl, rfl, rfl⟩ := HN.out
    refine newEP_of ⟨rfl, HF1.out.1, HF1.out.2⟩ (blk_new' ?_) ?_ ?_ ?_ ?_
    · (first | omega | (simp; done) | (simp; omega))
    · repeat (first | ((with_reducible refine row_base RG ?_); (first | omega | (simp; done) | (simp; omega))) | (with_reducible refine row_al ?_ _))
    · refine ⟨?_, ?_, ?_, ?_⟩
      rotate_left
      · repeat (first | ((with_reducible refine row_mp' ?_ ?_) <;> (first | omega | (simp; done) | (simp; omega))) | (with_reducible refine row_al ?_ _) | (with_reducible refine row_on hbv ?_) | (with_reducible refine row_dr ?_))
      · repeat (first | ((with_reducible refine made' ?_); (first | omega | (simp; done) | (simp; omega))) | (with_reducible refine sc_alloc ?_ _) | (with_reducible refine sc_on hbv ?_) | (with_reducible refine sc_drew ?_))
      · (first | omega | (simp; done) | (simp; omega))
    · (first | omega | (simp; done) | (simp; omega))
    · repeat (first | (with_reducible exact HH1.out.trans (J.mono (by omega))) | ((with_reducible refine Below.alloc ?_ ?_ _); rotate_left; (first | omega | (simp; done) | (simp; omega))) | (with_reducible refine Below.drew ?_))
set_option maxHeartbeats 1000000 in
set_option maxRecDepth 100000 in
theorem functionsE_any {E : Value × Value} {X : CkX} {S : CkS} {σ : Cs} {w : World} (h : CkE E X S σ w) {fA : Option Addr} {fc : Nat} (hE : E.1 = .slice fA 0 fc) :
    Calls Tryz.prog 25 #[ckp X] w fun e w' => e = .returned (.tuple #[]) ∧ Below w.heap.size w w' := by
  have c1 : w.cell? ⟨X.b, 1, none⟩ = some (.slice fA 0 fc) := by rw [← hE]; exact h.chk.cell 1
  have hbl := h.chk.lt
  clear h hE
  go_enter Tryz.func25, Tryz.ntmps25
  go_wp2_with fail
  go_loopw [10] (fun v10 wr => v10 = .int .i64 0 ∧ Below w.heap.size w wr) (fun v _ => 1)
  case atStart => exact ⟨rfl, Below.refl _ _⟩
  case round =>
    obtain ⟨rfl, hbw⟩ := hrel
    have HB := Lib.hid hbw
    clear hbw
    go_wp2_with fail
    go_end0
    exact ⟨rfl, HB.out⟩
set_option maxHeartbeats 1000000 in
set_option maxRecDepth 100000 in
theorem mainE_any {E : Value × Value} {X : CkX} {S : CkS} {σ : Cs} {w : World} (h : CkE E X S σ w) {G : Scp} (hs0 : σ.sc = [G]) (hfn : ∀ p ∈ G, p.2.so ≠ 4) :
    Calls Tryz.prog 27 #[ckp X] w fun e w' => e = .panicked [{ v := .iface tFt (.agg #[.int .i64 12, .int .i64 0]), recovered := false }] ∧ Below w.heap.size w w' := by
  have hbl := h.chk.lt
  obtain ⟨A3, n3, c3, hv3⟩ : ∃ A n c, S.scv = .slice A n c := by
    obtain ⟨A3, c3, e⟩ := own_ex h.sco
    exact ⟨A3, _, c3, e⟩
  have hcs := h.c3
  rw [hv3] at hcs
  have hfind : Calls Tryz.prog 59 #[.slice A3 n3 c3, .string (str wMain')] w fun e w' => e = .returned (.tuple #[mgV ((look G wMain').getD mz), .bool (look G wMain').isSome]) ∧ Below w.heap.size w w' := by
    have hsv := h.scs
    have hrow := h.sco.1
    have hl := h.scl
    rw [hv3] at hsv
    have hn3 : σ.sc.length = n3 := by
      obtain ⟨A4, c4, e⟩ := own_ex h.sco
      rw [hv3] at e
      simp only [Value.slice.injEq] at e
      omega
    have hf := find_any hsv hn3 (by rw [← hn3, hs0]; simp) (x := wMain') (by decide)
    have e : lookS σ.sc wMain' = look G wMain' := by rw [hs0]; unfold lookS; simp only [List.reverse_cons, List.reverse_nil, List.nil_append, List.findSome?_cons, List.findSome?_nil]; cases look G wMain' <;> rfl
    rw [e] at hf
    exact hf
  have hne : ((look G wMain').getD mz).so ≠ 4 := by
    cases hL : look G wMain' with
    | none => decide
    | some m =>
      obtain ⟨p, hp, hpe⟩ := look_mem hL
      rw [Option.getD_some, ← hpe]
      exact hfn p hp
  obtain ⟨⟨a1, a2, a3⟩, hM⟩ : ∃ q, (look G wMain').getD mz = q := ⟨_, rfl⟩
  obtain ⟨bv, hbv⟩ : ∃ q, (look G wMain').isSome = q := ⟨_, rfl⟩
  rw [hM] at hne
  simp only at hne
  have d1 : (a1 != 4) = true := by simp [hne]
  rw [hM, hbv] at hfind
  simp only [mgV] at hfind
  have HF := Lib.hid hfind
  clear h hs0 hfn hM hbv hv3 hfind hne
  go_enter Tryz.func27, Tryz.ntmps27
  go_wp2_with fail
  refine HF.out.mono ?_
  clear HF
  rintro e w1 ⟨rfl, hb1⟩
  have HB1 := Lib.hid hb1
  have hbl1 : X.b < w1.heap.size := Nat.lt_of_lt_of_le hbl hb1.size
  clear hb1 hcs hbl
  go_wp2_with fail
  refine (refuse_yes _ _ _).mono ?_
  rintro e v2 ⟨rfl, rfl⟩
  have HE := Lib.hid (HB1.out.alloc HB1.out.size (.cells #[.int .i64 a1, .int .i64 a2, .int .i64 a3] tMg))
  go_wp2_with fail
  exact pnc_end rfl ⟨rfl, HE.out⟩
set_option maxHeartbeats 1000000 in
set_option maxRecDepth 100000 in
theorem checkE_any {w : World} {gA fA nA : Option Addr} {gc fc nc : Nat} {pg : Pg} {gs : List Gl} {fl : List (Fn' × Value)} {vls : List Value} {ns : List CN} {tr : List (Int × Int)} (h : PgI w gA fA nA gc fc nc gs fl vls ns tr) (hin : CkIn pg gs fl ns tr) (hf1 : fl.length = 0) :
    Calls Tryz.prog 10 #[pgV gA fA nA gs.length gc fl.length fc ns.length nc] w (CkPost pg w) := by
  have hmf : ∀ (fn : Fn) (first cap : Array Value) (w : World), (Instr.makeFunc fn first cap).run Tryz.prog w = .ok (.func fn first cap) w := fun _ _ _ _ => rfl
  obtain ⟨R, hR⟩ : ∃ R : Ending → World → Prop, CkPost pg w = R := ⟨_, rfl⟩
  rw [hR]
  have HR := Lib.hid hR
  have hfl : fl.length = pg.f.length := by have := congrArg List.length hin.f; simpa using this
  have hnl : ns.length = pg.t.size := by have := congrArg List.length hin.n; simpa [Fo.flat_length] using this
  have hn1 : ns.length = 0 := by
    rw [hnl]
    have hr := congrArg List.length hin.rt
    rw [List.length_map, len_roots] at hr
    have e0 : pg.t.len = 0 := by omega
    cases ht : pg.t with
    | nil => rfl
    | cons a b c => rw [ht] at e0; simp [Fo.len] at e0
  have hk1 := Blk.new w tPro #[.slice gA gs.length gc, .slice fA fl.length fc, .slice nA ns.length nc]
  have hk2 := Blk.new (w.alloc (.cells #[.slice gA gs.length gc, .slice fA fl.length fc, .slice nA ns.length nc] tPro)) tPro #[.slice none 0 0, .slice none 0 0, .slice none 0 0]
  have hk3 := Blk.new ((w.alloc (.cells #[.slice gA gs.length gc, .slice fA fl.length fc, .slice nA ns.length nc] tPro)).alloc (.cells #[.slice none 0 0, .slice none 0 0, .slice none 0 0] tPro)) tDg #[.int .i64 0, .int .i64 0]
  have h1 : Below w.heap.size w (((w.alloc (.cells #[.slice gA gs.length gc, .slice fA fl.length fc, .slice nA ns.length nc] tPro)).alloc (.cells #[.slice none 0 0, .slice none 0 0, .slice none 0 0] tPro)).alloc (.cells #[.int .i64 0, .int .i64 0] tDg)) :=
    (((Below.refl _ _).alloc (Nat.le_refl _) _).alloc (by simp) _).alloc (by simp; omega) _
  have hk1 := (hk1.alloc (.cells #[.slice none 0 0, .slice none 0 0, .slice none 0 0] tPro)).alloc (.cells #[.int .i64 0, .int .i64 0] tDg)
  have hk2 := hk2.alloc (.cells #[.int .i64 0, .int .i64 0] tDg)
  have HNC := Lib.hid (newCheckerE_any (h.on h1) (by have := hin.gl.1; omega) (by have := hin.fn.1; omega) (by rw [hnl]; have := hin.sz; omega) (fun g hg => (hin.gl.2 g hg).1) (fun x hx => hin.fn.2 x.1 (by rw [← hin.f]; exact List.mem_map_of_mem hx)) hin.nn hf1 hn1)
  have HTL := Lib.hid (tr0_trZ hin h.tl)
  have HIN := Lib.hid (And.intro hin (And.intro hfl (And.intro hnl hf1)))
  obtain ⟨gn, hgn⟩ : ∃ n, gs.length = n := ⟨_, rfl⟩
  obtain ⟨fn, hfn⟩ : ∃ n, fl.length = n := ⟨_, rfl⟩
  obtain ⟨nn, hnn⟩ : ∃ n, ns.length = n := ⟨_, rfl⟩
  have HN := Lib.hid (And.intro hgn (And.intro hfn hnn))
  rw [hgn, hfn, hnn] at hk1 hk2 hk3 h1 HNC ⊢
  clear hR h hin hfl hnl hn1 hgn hfn hnn hf1
  go_enter_defers Tryz.func10, Tryz.ntmps10
  go_upto_region 2 with (fail)
  obtain ⟨H0, hH0⟩ : ∃ x, w.heap.size = x := ⟨_, rfl⟩
  have hsz : (((w.alloc (.cells #[.slice gA gn gc, .slice fA fn fc, .slice nA nn nc] tPro)).alloc (.cells #[.slice none 0 0, .slice none 0 0, .slice none 0 0] tPro)).alloc (.cells #[.int .i64 0, .int .i64 0] tDg)).heap.size = H0 + 3 := by simp [hH0]
  rw [show ((w.alloc (.cells #[.slice gA gn gc, .slice fA fn fc, .slice nA nn nc] tPro)).alloc (.cells #[.slice none 0 0, .slice none 0 0, .slice none 0 0] tPro)).heap.size = H0 + 2 by simp [hH0]] at hk3
  rw [show (w.alloc (.cells #[.slice gA gn gc, .slice fA fn fc, .slice nA nn nc] tPro)).heap.size = H0 + 1 by simp [hH0]] at hk2
  rw [hH0] at hk1
  generalize ((w.alloc (.cells #[.slice gA gn gc, .slice fA fn fc, .slice nA nn nc] tPro)).alloc (.cells #[.slice none 0 0, .slice none 0 0, .slice none 0 0] tPro)).alloc (.cells #[.int .i64 0, .int .i64 0] tDg) = W1 at *
  simp only [hH0]
  have q0 : W1.cell? ⟨H0, 0, none⟩ = some (.slice gA gn gc) := hk1.cell 0
  have q1 : W1.cell? ⟨H0, 1, none⟩ = some (.slice fA fn fc) := hk1.cell 1
  have q2 : W1.cell? ⟨H0, 2, none⟩ = some (.slice nA nn nc) := hk1.cell 2
  have ql := hk1.lt
  have HK := Lib.hid (And.intro hk2 (And.intro hk3 (And.intro h1 (And.intro hsz hH0))))
  clear hk1 hk2 hk3 h1 hsz hH0
  go_wp2_with fail
  refine HNC.out.mono ?_
  clear HNC
  rintro e w1 ⟨E, X, S0, rfl, hXB, hXg, hC, hb1, fA', fc', hE1⟩
  have hXg2 : X.gs = pg.g := hXg.trans HIN.out.1.g
  have HC := Lib.hid (And.intro hC (And.intro hb1 hE1))
  have HX := Lib.hid (And.intro hXB hXg2)
  have HGl := Lib.hid (globalsE_any hC (s0 := []) rfl (by simp) (by have := HIN.out.1.gl.1; rw [hXg]; omega) (by rw [hXg]; exact HIN.out.1.gl.2))
  have hXBe : H0 + 3 ≤ X.B := by rw [hXB, HK.out.2.2.2.1]; exact Nat.le_refl _
  have HP : Hid (∀ (W : World) (no p : Int), Below X.B w1 W → checkM pg = .er no p → (Blk W (H0 + 1) tPro #[.slice none 0 0, .slice none 0 0, .slice none 0 0] ∧ Blk W (H0 + 2) tDg #[.int .i64 0, .int .i64 0] ∧ H0 ≤ H0 + 2 ∧ H0 ≤ W.heap.size ∧ Below H0 w W ∧ ∀ W', Below H0 w W' → R (.returned (.tuple #[.agg #[.slice none 0 0, .slice none 0 0, .slice none 0 0], .agg #[.int .i64 no, .int .i64 p]])) W')) := Lib.hid fun W no p hW he => by
    have hb : Below H0 w W := by
      have e1 := HK.out.2.2.1
      rw [HK.out.2.2.2.2] at e1
      exact (e1.trans (HC.out.2.1.mono (by have := HK.out.2.2.2.1; omega))).trans (hW.mono (by omega))
    refine ⟨(HK.out.1.below HC.out.2.1 HK.out.1.lt).below hW (by omega), (HK.out.2.1.below HC.out.2.1 HK.out.2.1.lt).below hW (by omega), by omega, ?_, hb, fun W' hW' => ?_⟩
    · have := hb.size
      have e1 := HK.out.2.2.2.2
      omega
    · rw [← HR.out]
      exact ⟨by rw [HK.out.2.2.2.2]; exact hW', .inl ⟨no, p, he, rfl⟩⟩
  have hpf : pg.f = [] := List.eq_nil_of_length_eq_zero (by rw [← HIN.out.2.1]; exact HIN.out.2.2.2)
  have HPF := Lib.hid hpf
  clear hXB hXg hC hb1 hE1 hXg2 hpf q0 q1 q2 ql
  go_wp2_with fail
  refine HGl.out.mono ?_
  clear HGl
  rintro e w2 (⟨s, hgm, rfl, hC2, hb2, hsl⟩ | ⟨no, p, hgm, rfl, hb2⟩)
  · have HFn := Lib.hid (functionsE_any hC2 HC.out.2.2)
    have HG2 := Lib.hid (And.intro hgm (And.intro hC2 hb2))
    clear hgm hC2 hb2 hsl
    go_wp2_with fail
    refine HFn.out.mono ?_
    clear HFn
    rintro e w3 ⟨rfl, hb3⟩
    have hC3 := HG2.out.2.1.on hb3
    have c1 : w3.cell? ⟨X.b, 1, none⟩ = some (.slice fA' 0 fc') := by rw [← HC.out.2.2]; exact hC3.chk.cell 1
    have hbl := hC3.chk.lt
    have HC3 := Lib.hid (And.intro hC3 (HG2.out.2.2.trans (hb3.mono HG2.out.2.1.Ble)))
    clear hb3 hC3
    go_wp2_with fail
    go_loopw [19] (fun v19 wr => v19 = .int .i64 0 ∧ CkE E X S0 ⟨[], [s], []⟩ wr ∧ Below X.B w1 wr) (fun v _ => 1)
    case atStart => exact ⟨rfl, HC3.out.1, HC3.out.2⟩
    case round =>
      obtain ⟨rfl, hCr, hbw⟩ := hrel
      have HM := Lib.hid (mainE_any hCr (G := s) rfl (fun p hp => (glob_fn _ _ _ _ _ HG2.out.1 p hp).resolve_left (by simp)))
      have HBW := Lib.hid (And.intro hbw hCr.Ble)
      clear hCr hbw c1
      go_wp2_with fail
      refine HM.out.mono ?_
      clear HM
      rintro e w6 ⟨rfl, hb6⟩
      have HE := Lib.hid (HP.out w6 12 0 (HBW.out.1.trans (hb6.mono HBW.out.2)) (by
        unfold checkM
        have hm : mainM s [] = .er 12 0 := main_no (by
          cases hL : look s wMain' with
          | none => decide
          | some m =>
            obtain ⟨q, hq, hqe⟩ := look_mem hL
            rw [Option.getD_some, ← hqe]
            exact (glob_fn _ _ _ _ _ HG2.out.1 q hq).resolve_left (by simp))
        rw [← HX.out.2, HG2.out.1, Ck.bind_ok, HPF.out]
        simp only [funM, bodsM, Ck.bind_ok, List.map_nil]
        rw [hm]
        rfl))
      clear hb6
      go_wp2_with fail
      exact ck_panic 12 0 rfl rfl rfl HE.out.1 HE.out.2.1 HE.out.2.2.1 HE.out.2.2.2.1 HE.out.2.2.2.2.1 HE.out.2.2.2.2.2
  · have HE := Lib.hid (HP.out w2 no p hb2 (by unfold checkM; rw [← HX.out.2, hgm]; rfl))
    clear hgm hb2
    go_wp2_with fail
    exact ck_panic no p rfl rfl rfl HE.out.1 HE.out.2.1 HE.out.2.2.1 HE.out.2.2.2.1 HE.out.2.2.2.2.1 HE.out.2.2.2.2.2
/-- Check, of whatever program. -/
theorem checkA_any {w : World} {gA fA nA : Option Addr} {gc fc nc : Nat} {pg : Pg} {gs : List Gl} {fl : List (Fn' × Value)} {vls : List Value} {ns : List CN} {tr : List (Int × Int)} (h : PgI w gA fA nA gc fc nc gs fl vls ns tr) (hin : CkIn pg gs fl ns tr) :
    Calls Tryz.prog 10 #[pgV gA fA nA gs.length gc fl.length fc ns.length nc] w (CkPost pg w) := by
  by_cases h0 : fl.length = 0
  · exact checkE_any h hin h0
  · exact check_any h hin (by omega)
end Go.Proofs.YtfaoiajhoifalaaGreatDoor
