/-
  Layer check: nodes are claimed once; the nodes within a tree. Layer check: the globals. Layer check: the globals are declared. Layer check: do two parameters bear one name? Layer check: the functions are declared. Layer check: main is held against what it must be.
-/
import Derived.Test.YtfaoiajhoifalaaGreatDoorMt3
/-! Cko -/
namespace Go.Proofs.YtfaoiajhoifalaaGreatDoor
open Go Go.RowKit Go.Maps
set_option linter.unusedVariables false
set_option linter.unusedSimpArgs false

section
variable {X : CkX} {S : CkS} {σ : Cs} {w w' : World}
/-- A node is marked as seen. -/
theorem CkV.seen (h : CkV X S σ w) (i : Nat) : CkV X { S with sb := S.sb.set i true } σ (w.setCell ⟨X.sB, i, none⟩ (.bool true)) := by
  obtain ⟨hn, hg⟩ := h.see.stored i (.bool true)
  have hk : Kind w X.sB tBo := row_kind h.see rfl
  have hr : ∀ {base sz n : Nat} {T : TypeId} {v : Value} {xs : List Value}, w.ownsRow base T sz v n xs → T ≠ tBo → ∀ r, some X.sB = some r → v.ownBlock ≠ some r := by
    intro base sz n T v xs h1 hT r hr e
    cases hr
    exact kind_ne (row_kind h1 e) hk hT rfl
  have hm : ∀ {m : Nat}, KindM w m → some X.sB ≠ some m := fun h1 e => kindM_ne hk h1 (Option.some.inj e)
  exact {
    chk := gr_blk hg h.chk (fun e => kind_ne h.chk.kind hk (by decide) (Option.some.inj e).symm)
    nod := gr_row hg h.nod (hr h.nod (by decide))
    fun_ := gr_row hg h.fun_ (hr h.fun_ (by decide))
    see := by rw [List.map_set]; exact hn
    trl := h.trl
    vll := h.vll
    fil := h.fil
    var := fun e => let ⟨v, h1, h2⟩ := h.var e; ⟨v, h1, gr_row hg h2 (hr h2 (by decide))⟩
    sco := gr_row hg h.sco (hr h.sco (by decide))
    scl := h.scl
    map_ := fun j m s h1 h2 => ⟨(h.map_ j m s h1 h2).1, gr_map hg (h.map_ j m s h1 h2).2 (hm (mpv_kind (h.map_ j m s h1 h2).2))⟩
    nod2 := h.nod2
    lab := fun e => ⟨(h.lab e).1, gr_map hg (h.lab e).2.1 (hm (mpv_kind (h.lab e).2.1)), (h.lab e).2.2⟩
    labn := h.labn
    kid_ := fun x hx => gr_rowB hg (h.kid_ x hx) (hr (h.kid_ x hx).1 (by decide))
    old := fun j v l h1 h2 h3 => gr_rowB hg (h.old j v l h1 h2 h3) (hr (h.old j v l h1 h2 h3).1 (by decide))
    prm := fun x hx => gr_rowB hg (h.prm x hx) (hr (h.prm x hx).1 (by decide))
    glb := gr_rowB hg h.glb (hr h.glb.1 (by decide))
    hB := ⟨h.hB.1, h.hB.2.1, h.hB.2.2.1, h.hB.2.2.2.1, h.hB.2.2.2.2.1, Nat.le_trans h.hB.2.2.2.2.2 hg.size⟩ }
/-- A row of numbers of somebody else's changes. -/
theorem CkV.other (h : CkV X S σ w) {ro : Option Nat} (hg : w.grownBy w' ro) (hro : ∀ r, ro = some r → Kind w r tInt ∧ S.H ≤ r) (hv : S.on = true → S.vls[S.fi]? = some (.slice none 0 0)) : CkV X S σ w' := by
  have hr : ∀ {base sz n : Nat} {T : TypeId} {v : Value} {xs : List Value}, w.ownsRow base T sz v n xs → T ≠ tInt → ∀ r, ro = some r → v.ownBlock ≠ some r := by
    intro base sz n T v xs h1 hT r hr e
    exact kind_ne (row_kind h1 e) (hro r hr).1 hT rfl
  have hm : ∀ {m : Nat}, KindM w m → ro ≠ some m := fun h1 e => kindM_ne (hro _ e).1 h1 rfl
  exact {
    chk := gr_blk hg h.chk (fun e => kind_ne h.chk.kind (hro _ e).1 (by decide) rfl)
    nod := gr_row hg h.nod (hr h.nod (by decide))
    fun_ := gr_row hg h.fun_ (hr h.fun_ (by decide))
    see := gr_row hg h.see (hr h.see (by decide))
    trl := h.trl
    vll := h.vll
    fil := h.fil
    var := fun e => by
      obtain ⟨v, h1, h2⟩ := h.var e
      rw [hv e] at h1
      cases h1
      exact ⟨_, hv e, gr_row hg h2 (fun r _ e => by cases e)⟩
    sco := gr_row hg h.sco (hr h.sco (by decide))
    scl := h.scl
    map_ := fun j m s h1 h2 => ⟨(h.map_ j m s h1 h2).1, gr_map hg (h.map_ j m s h1 h2).2 (hm (mpv_kind (h.map_ j m s h1 h2).2))⟩
    nod2 := h.nod2
    lab := fun e => ⟨(h.lab e).1, gr_map hg (h.lab e).2.1 (hm (mpv_kind (h.lab e).2.1)), (h.lab e).2.2⟩
    labn := h.labn
    kid_ := fun x hx => gr_rowB hg (h.kid_ x hx) (fun r hr e => by have := (h.kid_ x hx).2 r e; have := (hro r hr).2; omega)
    old := fun j v l h1 h2 h3 => gr_rowB hg (h.old j v l h1 h2 h3) (fun r hr e => by have := (h.old j v l h1 h2 h3).2 r e; have := (hro r hr).2; omega)
    prm := fun x hx => gr_rowB hg (h.prm x hx) (hr (h.prm x hx).1 (by decide))
    glb := gr_rowB hg h.glb (hr h.glb.1 (by decide))
    hB := ⟨h.hB.1, h.hB.2.1, h.hB.2.2.1, h.hB.2.2.2.1, h.hB.2.2.2.2.1, Nat.le_trans h.hB.2.2.2.2.2 hg.size⟩ }
theorem CkV.sbl (h : CkV X S σ w) : S.sb.length = X.ns.length := by
  have := h.see.1
  simpa using this
end
set_option maxHeartbeats 1000000 in
set_option maxRecDepth 100000 in
theorem claim_any {X : CkX} {S : CkS} {σ : Cs} {w : World} (h : CkV X S σ w) {i : Nat} (hi : i < X.ns.length) (hs : S.sb[i]? = some false) :
    Calls Tryz.prog 127 #[ckp X, .int .i64 (i : Int)] w fun e w' => e = .returned (.int .i64 (i : Int)) ∧ CkV X { S with sb := S.sb.set i true } σ w' ∧ Below X.B w w' ∧ w.grownBy w' (some X.sB) := by
  have c4 := h.c4
  have hbl := h.chk.lt
  have hsl : X.sB < w.heap.size := (row_kind h.see rfl).lt
  have hc : w.cell? ⟨X.sB, i, none⟩ = some (.bool false) := by
    rw [h.see.cellAt i (by omega)]
    simp [hs]
  have hf := h.see.frozenAt i
  have hiI : (i : Int) < X.ns.length := by omega
  have HE := Lib.hid (And.intro (h.seen i) (And.intro ((Below.refl X.B w).setCell (p := ⟨X.sB, i, none⟩) h.hB.2.2.2.1 (.bool true)) (h.see.stored i (.bool true)).2))
  clear h hs
  go_enter Tryz.func127, Tryz.ntmps127
  go_wp2_with fail
  go_ret
  exact ⟨rfl, HE.out⟩
end Go.Proofs.YtfaoiajhoifalaaGreatDoor
/-! Ckq -/
namespace Go.Proofs.YtfaoiajhoifalaaGreatDoor
open Go Go.RowKit Go.Maps
set_option linter.unusedVariables false
set_option linter.unusedSimpArgs false

theorem ret_mg {fn : Func} {R : Ending → World → Prop} {a : Act} {w : World} {b p : Nat} {m : Mg} {T : TypeId} {fr : Nat × Nat} (hf : fn.results = #[.cell p tMg]) (hd : a.defers = [])
    (h2 : a.tmps.getD p undef = .pointer (some ⟨b, 0, none⟩)) (hb : w.heap[b]? = some (.cells #[.int .i64 m.so, .int .i64 m.rf, .int .i64 m.vl] T fr)) (hR : R (.returned (mgV m)) w) : bodyPost Tryz.prog fn R .ret a w :=
  bodyPost_ret (v := mgV m) (results_cell_row hf _ _ b T _ fr _ h2 hb Tryz.underlying103 rfl mgInfo) hd hR
set_option maxHeartbeats 1000000 in
set_option maxRecDepth 100000 in
theorem gmg_any (g : Gl) (i : Nat) (hi : i ≤ 1000000000) (w : World) :
    Calls Tryz.prog 51 #[.agg #[.string (str g.s), .int .i64 g.ty, .int .i64 g.n, .int .i64 g.p], .int .i64 (i : Int)] w fun e w' => e = .returned (mgV (gMg g i)) ∧ Below w.heap.size w w' := by
  have b1 := (Blk.new w tGb #[.string (str g.s), .int .i64 g.ty, .int .i64 g.n, .int .i64 g.p]).alloc (.cells #[.int .i64 0, .int .i64 0, .int .i64 0] tMg)
  have b2 := Blk.new (w.alloc (.cells #[.string (str g.s), .int .i64 g.ty, .int .i64 g.n, .int .i64 g.p] tGb)) tMg #[.int .i64 0, .int .i64 0, .int .i64 0]
  have hb : Below w.heap.size w ((w.alloc (.cells #[.string (str g.s), .int .i64 g.ty, .int .i64 g.n, .int .i64 g.p] tGb)).alloc (.cells #[.int .i64 0, .int .i64 0, .int .i64 0] tMg)) := ((Below.refl _ _).alloc (Nat.le_refl _) _).alloc (by simp) _
  rw [show (w.alloc (.cells #[.string (str g.s), .int .i64 g.ty, .int .i64 g.n, .int .i64 g.p] tGb)).heap.size = w.heap.size + 1 by simp] at b2
  obtain ⟨s, ty, n, p⟩ := g
  simp only at b1 b2 hb ⊢
  go_enter Tryz.func51, Tryz.ntmps51
  go_upto_region 1 with (fail)
  generalize (w.alloc (.cells #[.string (str s), .int .i64 ty, .int .i64 n, .int .i64 p] tGb)).alloc (.cells #[.int .i64 0, .int .i64 0, .int .i64 0] tMg) = W at *
  obtain ⟨H0, hH0⟩ : ∃ x, w.heap.size = x := ⟨_, rfl⟩
  rw [hH0] at b1 b2
  simp only [hH0]
  have p1 := b1.cell 1
  have p2 := b1.cell 2
  have pl := b1.lt
  have f0 := b2.frozen 0
  have f1 := b2.frozen 1
  have f2 := b2.frozen 2
  have q0 := b2.cell 0
  have q1 := b2.cell 1
  have q2 := b2.cell 2
  have ql := b2.lt
  simp only [List.getElem?_toArray, List.getElem?_cons_zero, List.getElem?_cons_succ] at p1 p2 q0 q1 q2
  have HB := Lib.hid (And.intro hb (And.intro b2 hH0))
  have hHle : Below w.heap.size w W → ∀ (x y z : Int), Below w.heap.size w (((W.setCell ⟨H0 + 1, 0, none⟩ (.int .i64 x)).setCell ⟨H0 + 1, 1, none⟩ (.int .i64 y)).setCell ⟨H0 + 1, 2, none⟩ (.int .i64 z)) := fun h x y z =>
    ((h.setCell (p := ⟨H0 + 1, 0, none⟩) (by simp; omega) _).setCell (p := ⟨H0 + 1, 1, none⟩) (by simp; omega) _).setCell (p := ⟨H0 + 1, 2, none⟩) (by simp; omega) _
  have HL := Lib.hid hHle
  clear hb b1 b2 hH0 hHle
  by_cases hn : n = 0
  · subst hn
    have e : gMg ⟨s, ty, 0, p⟩ i = ⟨2, -1 - i, ty⟩ := by simp [gMg]
    have HEQ := Lib.hid e
    clear e
    go_wp2_with fail
    have hz := Blk.set_ (Blk.set_ (Blk.set_ HB.out.2.1 0 (.int .i64 2)) 1 (.int .i64 (-1 - (i : Int)))) 2 (.int .i64 ty)
    exact ret_mg (m := ⟨2, -1 - i, ty⟩) rfl rfl rfl hz ⟨by rw [HEQ.out], HL.out HB.out.1 _ _ _⟩
  · have e : gMg ⟨s, ty, n, p⟩ i = ⟨3, i, iol (ty == 2)⟩ := by
      simp only [gMg, if_neg hn, iol]
      by_cases h2 : ty = 2 <;> simp [h2]
    have HEQ := Lib.hid e
    have hnb : (n == 0) = false := by simp [hn]
    have HI := Lib.hid fun W => iol_any (ty == 2) W
    clear e hn
    generalize iol (ty == 2) = il at *
    go_wp2_with (go_at_call 93; refine (HI.out _).mono ?_; rintro e w5 ⟨rfl, rfl⟩)
    have hz := Blk.set_ (Blk.set_ (Blk.set_ HB.out.2.1 0 (.int .i64 3)) 1 (.int .i64 (i : Int))) 2 (.int .i64 il)
    exact ret_mg (m := ⟨3, i, il⟩) rfl rfl rfl hz ⟨by rw [HEQ.out], HL.out HB.out.1 _ _ _⟩
end Go.Proofs.YtfaoiajhoifalaaGreatDoor
/-! Ckr -/
namespace Go.Proofs.YtfaoiajhoifalaaGreatDoor
open Go Go.RowKit Go.Maps
set_option linter.unusedVariables false
set_option linter.unusedSimpArgs false

/-- What globals answers. -/
def GlbP (X : CkX) (S : CkS) (σ : Cs) (r : Ck Scp) (w : World) (e : Ending) (w' : World) : Prop :=
  (∃ s, r = .ok s ∧ e = .returned (.tuple #[]) ∧ CkV X S { σ with sc := [s] } w' ∧ Below X.B w w' ∧ s.length ≤ X.gs.length + (σ.sc.getLast?.getD []).length) ∨ (∃ no p, r = .er no p ∧ e = .panicked [{ v := .iface tFt (.agg #[.int .i64 no, .int .i64 p]), recovered := false }] ∧ Below X.B w w')
theorem CkV.glAt {X : CkX} {S : CkS} {σ : Cs} {w : World} (h : CkV X S σ w) {j : Nat} {g : Gl} (hg : X.gs[j]? = some g) : ∃ b, X.gA = some ⟨b, 0, none⟩ ∧ b < w.heap.size ∧ ∀ t, t < 4 → w.cell? ⟨b, j * 4 + t, none⟩ = (glC g)[t]? := by
  have hj := (List.getElem?_eq_some_iff.1 hg).1
  rcases h.glb.1.2 with ⟨e, h0⟩ | ⟨b, cap, cur, e, _, hh, _⟩
  · omega
  · simp only [Value.slice.injEq] at e
    have hrow := h.glb.1
    rw [e.1] at hrow
    refine ⟨b, e.1, (Array.getElem?_eq_some_iff.1 hh).1, fun t ht => ?_⟩
    rw [hrow.cellAt (j * 4 + t) (by have h1 : (j + 1) * 4 ≤ X.gs.length * 4 := Nat.mul_le_mul_right _ hj; omega), flat_at' _ 4 (fun _ => rfl) _ j t ht, hg]
    rfl
theorem glob_step (g : Gl) (l : List Gl) (i : Nat) (b : Int) (s : Scp) : globM (g :: l) i b s = if (look s g.s).isSome then .er 5 g.p else if 4096 < b + max g.n 1 * eb g.ty then .er 9 g.p else globM l (i + 1) (b + max g.n 1 * eb g.ty) ((g.s, gMg g i) :: s) := rfl
theorem eb_bd (t : Int) : 1 ≤ eb t ∧ eb t ≤ 8 := by
  unfold eb
  split
  · omega
  · split <;> omega
theorem wrap_small {x : Int} (h0 : -1000000000 ≤ x) (h1 : x ≤ 1000000000) : IntKind.i64.wrap x = x := by
  rw [IntWalk.i64_in _ (by omega)]
set_option maxHeartbeats 4000000 in
set_option maxRecDepth 100000 in
theorem globals_any {X : CkX} {S : CkS} {σ : Cs} {w : World} (h : CkV X S σ w) {s0 : Scp} (hs0 : σ.sc = [s0]) (hsl : s0.length ≤ 1000000) (hgl : X.gs.length ≤ 1000000) (hgs : ∀ g ∈ X.gs, g.s.length ≤ 1000000 ∧ g.n ≤ 1000000) :
    Calls Tryz.prog 24 #[ckp X] w (GlbP X S σ (globM X.gs 0 0 s0) w) := by
  obtain ⟨R, hR⟩ : ∃ R : Ending → World → Prop, GlbP X S σ (globM X.gs 0 0 s0) w = R := ⟨_, rfl⟩
  rw [hR]
  have HR := Lib.hid hR
  have c0 := h.c0
  have hbl := h.chk.lt
  have H := Lib.hid (And.intro h (And.intro hs0 hgs))
  obtain ⟨n, hn⟩ : ∃ n, X.gs.length = n := ⟨_, rfl⟩
  have HN := Lib.hid hn
  rw [hn] at c0 hgl
  clear hR h hn hs0 hgs
  go_enter Tryz.func24, Tryz.ntmps24
  go_wp2_with fail
  go_loopw [2, 11] (fun v2 v11 wr => ∃ (j : Nat) (s : Scp) (b : Int), j ≤ n ∧ v11 = .int .i64 j ∧ v2 = .int .i64 b ∧ 0 ≤ b ∧ b ≤ 4096 ∧ globM X.gs 0 0 s0 = globM (X.gs.drop j) j b s ∧ s.length ≤ s0.length + j ∧ CkV X S { σ with sc := [s] } wr ∧ Below X.B w wr) (fun _ v _ => n - (intOf v).toNat)
  case atStart => exact ⟨0, s0, 0, by omega, rfl, rfl, by omega, by omega, by simp, by omega, by have := H.out.1; have e := H.out.2.1; cases σ; simp only at e; subst e; exact this, Below.refl _ _⟩
  case round =>
    obtain ⟨j, s, b, hj, rfl, rfl, hb0, hb4, hgm, hsj, hC, hbw⟩ := hrel
    by_cases hlt : j < n
    · have hjl : j < X.gs.length := by rw [HN.out]; exact hlt
      obtain ⟨g, hg⟩ : ∃ g, X.gs[j]? = some g := ⟨_, List.getElem?_eq_getElem hjl⟩
      obtain ⟨gb, hgA, hgbl, hgc⟩ := hC.glAt hg
      rw [hgA]
      have y0 : wr.cell? ⟨gb, j * 4, none⟩ = some (.string (str g.s)) := hgc 0 (by omega)
      have y1 : wr.cell? ⟨gb, j * 4 + 1, none⟩ = some (.int .i64 g.ty) := hgc 1 (by omega)
      have y2 : wr.cell? ⟨gb, j * 4 + 2, none⟩ = some (.int .i64 g.n) := hgc 2 (by omega)
      have y3 : wr.cell? ⟨gb, j * 4 + 3, none⟩ = some (.int .i64 g.p) := hgc 3 (by omega)
      have hdr : X.gs.drop j = g :: X.gs.drop (j + 1) := by
        rw [List.drop_eq_getElem_cons hjl]
        congr 1
        exact (List.getElem?_eq_some_iff.1 hg).2
      rw [hdr, glob_step] at hgm
      have hgw := H.out.2.2 g (List.mem_of_getElem? hg)
      have hltI : (j : Int) < n := by omega
      have HG := Lib.hid (And.intro hgm (And.intro hC (And.intro hbw hgA)))
      clear hgm hC hbw hgc hdr
      go_upto_region 4 with (fail)
      have hba : Below wr.heap.size wr (wr.alloc (.cells #[.string (str g.s), .int .i64 g.ty, .int .i64 g.n, .int .i64 g.p] tGb)) := (Below.refl _ _).alloc (Nat.le_refl _) _
      have hk1 := Blk.new wr tGb #[.string (str g.s), .int .i64 g.ty, .int .i64 g.n, .int .i64 g.p]
      have hC1 := HG.out.2.1.on hba
      have hmf := HG.out.2.1.fresh
      obtain ⟨H1, hH1⟩ : ∃ x, wr.heap.size = x := ⟨_, rfl⟩
      rw [hH1] at hk1
      generalize hW1 : wr.alloc (.cells #[.string (str g.s), .int .i64 g.ty, .int .i64 g.n, .int .i64 g.p] tGb) = W1 at *
      simp only [hH1]
      obtain ⟨A3, n3, c3, hv3⟩ : ∃ A n c, S.scv = .slice A n c := by
        obtain ⟨A3, c3, e⟩ := own_ex hC1.sco
        exact ⟨A3, _, c3, e⟩
      have hcs := hC1.c3
      rw [hv3] at hcs
      have hbl1 := hC1.chk.lt
      have q0 : W1.cell? ⟨H1, 0, none⟩ = some (.string (str g.s)) := hk1.cell 0
      have q1 : W1.cell? ⟨H1, 1, none⟩ = some (.int .i64 g.ty) := hk1.cell 1
      have q2 : W1.cell? ⟨H1, 2, none⟩ = some (.int .i64 g.n) := hk1.cell 2
      have q3 : W1.cell? ⟨H1, 3, none⟩ = some (.int .i64 g.p) := hk1.cell 3
      have ql := hk1.lt
      have hgn : g.s.length ≤ maxLen := by unfold maxLen; have := hgw.1; omega
      obtain ⟨bh, hbh⟩ : ∃ b, (look s g.s).isSome = b := ⟨_, rfl⟩
      have HHas : Hid (∀ W, Below W1.heap.size W1 W → Calls Tryz.prog 49 #[.slice A3 n3 c3, .string (str g.s)] W fun e w' => e = .returned (.bool bh) ∧ Below W1.heap.size W1 w') := Lib.hid fun W hW => by
        have hsv := (hC1.on hW).scs
        rw [hv3] at hsv
        rw [← hbh]
        exact (has_any hsv (k := 0) rfl (by omega) hgn).mono fun e w' h => ⟨h.1, hW.trans (h.2.mono hW.size)⟩
      have HS4 : Hid (∀ Wx, Below W1.heap.size W1 Wx → Wx.cell? ⟨X.b, 3, none⟩ = some (.slice A3 n3 c3) ∧ Wx.cell? ⟨H1, 0, none⟩ = some (.string (str g.s)) ∧ Wx.cell? ⟨H1, 3, none⟩ = some (.int .i64 g.p) ∧ X.b < Wx.heap.size ∧ H1 < Wx.heap.size) := Lib.hid fun Wx hW => by
        have hz := hW.size
        exact ⟨(hW.cell (p := ⟨X.b, 3, none⟩) hbl1).trans hcs, (hW.cell (p := ⟨H1, 0, none⟩) ql).trans q0, (hW.cell (p := ⟨H1, 3, none⟩) ql).trans q3, by omega, by omega⟩
      have HRf : Hid (∀ W b, Below W1.heap.size W1 W → Calls Tryz.prog 48 #[.bool b, .int .i64 5, .int .i64 g.p] W fun e w' => (b = true ∧ e = .panicked [{ v := .iface tFt (.agg #[.int .i64 5, .int .i64 g.p]), recovered := false }] ∨ b = false ∧ e = .returned (.tuple #[])) ∧ Below W1.heap.size W1 w') := Lib.hid fun W b hW =>
        (refuse_or b 5 g.p W).mono fun e w' h => ⟨h.1, by rw [← h.2]; exact hW⟩
      have HBW := Lib.hid (show Below X.B w W1 from HG.out.2.2.1.trans (hba.mono HG.out.2.1.Ble))
      have HE5 : Hid (∀ W, Below W1.heap.size W1 W → bh = true → R (.panicked [{ v := .iface tFt (.agg #[.int .i64 5, .int .i64 g.p]), recovered := false }]) W) := Lib.hid fun W hW hne => by
        rw [← HR.out]
        exact .inr ⟨5, g.p, by rw [HG.out.1, hbh, hne]; rfl, rfl, HBW.out.trans (hW.mono hC1.Ble)⟩
      have HC1 := Lib.hid (And.intro hC1 (And.intro hk1 (And.intro hmf (And.intro hH1 (And.intro hv3 hbh)))))
      have J : Below W1.heap.size W1 W1 := Below.refl _ _
      clear hba hk1 hC1 hmf hH1 hW1 hv3 hbh y0 y1 y2 y3 hg
      go_cut [] (fun wx => bh = false ∧ Below W1.heap.size W1 wx)
      case first =>
        go_region_held2 (fun Wx => Wx.cell? ⟨X.b, 3, none⟩ = some (.slice A3 n3 c3) ∧ Wx.cell? ⟨H1, 0, none⟩ = some (.string (str g.s)) ∧ Wx.cell? ⟨H1, 3, none⟩ = some (.int .i64 g.p) ∧ X.b < Wx.heap.size ∧ H1 < Wx.heap.size)
          (first | exact ⟨hcs, q0, q3, hbl1, ql⟩ | exact HS4.out _ J)
          (first
            | (go_at_call 49; (with_reducible refine Calls.mono (HHas.out _ (by first | exact J | exact J.drew)) ?_); rintro e v1 ⟨rfl, J⟩)
            | (go_at_call 48; (with_reducible refine Calls.mono (HRf.out _ _ (by first | exact J | exact J.drew)) ?_); rintro e v2 ⟨⟨hm, rfl⟩ | ⟨hm, rfl⟩, J⟩; (have J9 := Lib.hid J; have HM9 := Lib.hid hm; clear hm; go_wp2_with fail; refine pnc_end rfl ?_; exact HE5.out _ J9.out HM9.out); have HMM := Lib.hid hm; clear hm))
        all_goals
          go_wp2_with fail
          go_meet
          exact ⟨HMM.out, J⟩
      case rest =>
        obtain ⟨hbf, J⟩ := hcut
        obtain ⟨mm, hmm⟩ : ∃ m, gMg g j = m := ⟨_, rfl⟩
        have hdl : decl [s] g.s mm = [(g.s, mm) :: s] := rfl
        have HDc : Hid (∀ W, Below W1.heap.size W1 W → Calls Tryz.prog 50 #[.slice A3 n3 c3, .string (str g.s), .agg #[.int .i64 mm.so, .int .i64 mm.rf, .int .i64 mm.vl]] W fun e w' => e = .returned (.tuple #[]) ∧ CkV X S { σ with sc := [(g.s, mm) :: s] } w' ∧ Below X.B w w' ∧ Blk w' H1 tGb #[.string (str g.s), .int .i64 g.ty, .int .i64 g.n, .int .i64 g.p]) := Lib.hid fun W hW => by
          obtain ⟨hC1, hk1, hmf, hH1, hv3, hbh⟩ := HC1.out
          have hd := declare_any (hC1.on hW) (k := 0) rfl (by omega) (x := g.s) (show s.length ≤ 2000000 by omega) hgn mm
          rw [show S.scv = .slice A3 n3 c3 from hv3] at hd
          refine hd.mono fun e w' ⟨h1, h2, h3, h4⟩ => ⟨h1, h2, HBW.out.trans ((hW.mono hC1.Ble).trans h3), ?_⟩
          have hz := hk1.below hW hk1.lt
          have e4 := h4 H1 (by have := hW.size; omega) (fun e => absurd (hmf _ e) (by omega))
          exact e4.trans hz
        have HGm : Hid (∀ W, Below W1.heap.size W1 W → Calls Tryz.prog 51 #[.agg #[.string (str g.s), .int .i64 g.ty, .int .i64 g.n, .int .i64 g.p], .int .i64 (j : Int)] W fun e w' => e = .returned (.agg #[.int .i64 mm.so, .int .i64 mm.rf, .int .i64 mm.vl]) ∧ Below W1.heap.size W1 w') := Lib.hid fun W hW => by
          rw [← hmm]
          exact (gmg_any g j (by omega) W).mono fun e w' h => ⟨h.1, hW.trans (h.2.mono hW.size)⟩
        have HS5 : Hid (∀ Wx, Below W1.heap.size W1 Wx → Wx.cell? ⟨X.b, 3, none⟩ = some (.slice A3 n3 c3) ∧ Wx.cell? ⟨H1, 0, none⟩ = some (.string (str g.s)) ∧ Wx.cell? ⟨H1, 1, none⟩ = some (.int .i64 g.ty) ∧ Wx.cell? ⟨H1, 2, none⟩ = some (.int .i64 g.n) ∧ Wx.cell? ⟨H1, 3, none⟩ = some (.int .i64 g.p) ∧ X.b < Wx.heap.size ∧ H1 < Wx.heap.size) := Lib.hid fun Wx hW => by
          have hz := hW.size
          exact ⟨(hW.cell (p := ⟨X.b, 3, none⟩) hbl1).trans hcs, (hW.cell (p := ⟨H1, 0, none⟩) ql).trans q0, (hW.cell (p := ⟨H1, 1, none⟩) ql).trans q1, (hW.cell (p := ⟨H1, 2, none⟩) ql).trans q2, (hW.cell (p := ⟨H1, 3, none⟩) ql).trans q3, by omega, by omega⟩
        have HS9 : Hid (∀ Wx, (CkV X S { σ with sc := [(g.s, mm) :: s] } Wx ∧ Below X.B w Wx ∧ Blk Wx H1 tGb #[.string (str g.s), .int .i64 g.ty, .int .i64 g.n, .int .i64 g.p]) → Wx.cell? ⟨X.b, 3, none⟩ = some (.slice A3 n3 c3) ∧ Wx.cell? ⟨H1, 0, none⟩ = some (.string (str g.s)) ∧ Wx.cell? ⟨H1, 1, none⟩ = some (.int .i64 g.ty) ∧ Wx.cell? ⟨H1, 2, none⟩ = some (.int .i64 g.n) ∧ Wx.cell? ⟨H1, 3, none⟩ = some (.int .i64 g.p) ∧ X.b < Wx.heap.size ∧ H1 < Wx.heap.size) := Lib.hid fun Wx hW => by
          have hv3 := HC1.out.2.2.2.2.1
          exact ⟨by rw [← show S.scv = .slice A3 n3 c3 from hv3]; exact hW.1.c3, hW.2.2.cell 0, hW.2.2.cell 1, hW.2.2.cell 2, hW.2.2.cell 3, hW.1.chk.lt, hW.2.2.lt⟩
        obtain ⟨p3, r0, r1, r2, r3, pl, rl⟩ := HS5.out _ J
        have HMM := Lib.hid (And.intro hmm hbf)
        clear hmm hbf hdl hcs q0 q1 q2 q3 ql hbl1
        go_upto_region 5 with (fail)
        go_cut [] (fun wx => CkV X S { σ with sc := [(g.s, mm) :: s] } wx ∧ Below X.B w wx ∧ Blk wx H1 tGb #[.string (str g.s), .int .i64 g.ty, .int .i64 g.n, .int .i64 g.p])
        case first =>
          go_region_held2 (fun Wx => Wx.cell? ⟨X.b, 3, none⟩ = some (.slice A3 n3 c3) ∧ Wx.cell? ⟨H1, 0, none⟩ = some (.string (str g.s)) ∧ Wx.cell? ⟨H1, 1, none⟩ = some (.int .i64 g.ty) ∧ Wx.cell? ⟨H1, 2, none⟩ = some (.int .i64 g.n) ∧ Wx.cell? ⟨H1, 3, none⟩ = some (.int .i64 g.p) ∧ X.b < Wx.heap.size ∧ H1 < Wx.heap.size)
            (first | exact ⟨p3, r0, r1, r2, r3, pl, rl⟩ | exact HS9.out _ HJ9.out | exact HS5.out _ J)
            (first
              | (go_at_call 51; (with_reducible refine Calls.mono (HGm.out _ (by first | exact J | exact J.drew)) ?_); rintro e v1 ⟨rfl, J⟩)
              | (go_at_call 50; (with_reducible refine Calls.mono (HDc.out _ (by first | exact J | exact J.drew)) ?_); rintro e v2 ⟨rfl, J9⟩; have HJ9 := Lib.hid J9; clear J9))
          all_goals
            go_wp2_with fail
            go_meet
            exact HJ9.out
        case rest =>
          obtain ⟨hC5, hb5, hk5⟩ := hcut
          obtain ⟨wc5, hwc5⟩ : ∃ x, x = wc := ⟨_, rfl⟩
          subst hwc5
          have z0 : wc5.cell? ⟨H1, 0, none⟩ = some (.string (str g.s)) := hk5.cell 0
          have z1 : wc5.cell? ⟨H1, 1, none⟩ = some (.int .i64 g.ty) := hk5.cell 1
          have z2 : wc5.cell? ⟨H1, 2, none⟩ = some (.int .i64 g.n) := hk5.cell 2
          have z3 : wc5.cell? ⟨H1, 3, none⟩ = some (.int .i64 g.p) := hk5.cell 3
          have zl := hk5.lt
          obtain ⟨ev, hev⟩ : ∃ e, eb g.ty = e := ⟨_, rfl⟩
          have heb := eb_bd g.ty
          have hgn2 := hgw.2
          rw [hev] at heb
          obtain ⟨pr, hpr⟩ : ∃ e, max g.n 1 * ev = e := ⟨_, rfl⟩
          have hp0 : 1 ≤ pr ∧ pr ≤ 8000000 := by
            have h1 : 1 ≤ max g.n 1 := by omega
            have h2 : max g.n 1 ≤ 1000000 := by omega
            rw [← hpr]
            constructor
            · have := Int.mul_le_mul h1 heb.1 (by omega) (by omega); omega
            · have := Int.mul_le_mul h2 heb.2 (by omega) (by omega); omega
          have HEV := Lib.hid (And.intro hev hpr)
          have hw1 : IntKind.i64.wrap (max g.n 1 * ev) = pr := by rw [hpr]; exact wrap_small (by omega) (by omega)
          have hw2 : IntKind.i64.wrap (b + pr) = b + pr := wrap_small (by omega) (by omega)
          have HEb : Hid (∀ W, Below wc5.heap.size wc5 W → Calls Tryz.prog 52 #[.int .i64 g.ty] W fun e w' => e = .returned (.int .i64 ev) ∧ Below wc5.heap.size wc5 w') := Lib.hid fun W hW => by
            rw [← HEV.out.1]
            exact (eb_any g.ty W).mono fun e w' h => ⟨h.1, by rw [← h.2]; exact hW⟩
          have HS6 : Hid (∀ Wx, Below wc5.heap.size wc5 Wx → Wx.cell? ⟨H1, 1, none⟩ = some (.int .i64 g.ty) ∧ Wx.cell? ⟨H1, 2, none⟩ = some (.int .i64 g.n) ∧ Wx.cell? ⟨H1, 3, none⟩ = some (.int .i64 g.p) ∧ H1 < Wx.heap.size) := Lib.hid fun Wx hW => by
            have hz := hW.size
            exact ⟨(hW.cell (p := ⟨H1, 1, none⟩) zl).trans z1, (hW.cell (p := ⟨H1, 2, none⟩) zl).trans z2, (hW.cell (p := ⟨H1, 3, none⟩) zl).trans z3, by omega⟩
          have HC6 := Lib.hid (And.intro hC5 hb5)
          have J6 : Below wc5.heap.size wc5 wc5 := Below.refl _ _
          clear hC5 hb5 hk5 hev hpr hgw p3 r0 r1 r2 r3
          go_upto_region 6 with (fail)
          go_cut [2] (fun v2 wx => v2 = .int .i64 (b + pr) ∧ Below wc5.heap.size wc5 wx)
          case first =>
            go_region_held2 (fun Wx => Wx.cell? ⟨H1, 1, none⟩ = some (.int .i64 g.ty) ∧ Wx.cell? ⟨H1, 2, none⟩ = some (.int .i64 g.n) ∧ Wx.cell? ⟨H1, 3, none⟩ = some (.int .i64 g.p) ∧ H1 < Wx.heap.size)
              (first | exact ⟨z1, z2, z3, zl⟩ | exact HS6.out _ J6)
              ((go_at_call 52; (with_reducible refine Calls.mono (HEb.out _ (by first | exact J6 | exact J6.drew)) ?_); rintro e v1 ⟨rfl, J6⟩))
            all_goals
              go_wp2_with fail
              go_meet
              exact ⟨rfl, J6⟩
          case rest =>
            obtain ⟨hv2, J7⟩ := hcut
            subst hv2
            obtain ⟨wc6, hwc6⟩ : ∃ x, x = wc := ⟨_, rfl⟩
            subst hwc6
            have HRf9 : Hid (∀ W b, Below wc5.heap.size wc5 W → Calls Tryz.prog 48 #[.bool b, .int .i64 9, .int .i64 g.p] W fun e w' => (b = true ∧ e = .panicked [{ v := .iface tFt (.agg #[.int .i64 9, .int .i64 g.p]), recovered := false }] ∨ b = false ∧ e = .returned (.tuple #[])) ∧ Below wc5.heap.size wc5 w') := Lib.hid fun W b hW =>
              (refuse_or b 9 g.p W).mono fun e w' h => ⟨h.1, by rw [← h.2]; exact hW⟩
            have HE9 : Hid (∀ W, Below wc5.heap.size wc5 W → 4096 < b + pr → R (.panicked [{ v := .iface tFt (.agg #[.int .i64 9, .int .i64 g.p]), recovered := false }]) W) := Lib.hid fun W hW hne => by
              rw [← HR.out]
              refine .inr ⟨9, g.p, ?_, rfl, HC6.out.2.trans (hW.mono HC6.out.1.Ble)⟩
              rw [HG.out.1, HC1.out.2.2.2.2.2, HMM.out.2, HEV.out.1, HEV.out.2, if_neg (by decide), if_pos hne]
            obtain ⟨z1, z2, z3, zl⟩ := HS6.out _ J7
            clear J6
            obtain ⟨bq, hbq⟩ : ∃ q, decide (4096 < b + pr) = q := ⟨_, rfl⟩
            have HBQ := Lib.hid hbq
            go_wp2_with fail
            refine (HRf9.out _ _ (by first | exact J7 | exact J7.drew)).mono ?_
            rintro e v2 ⟨⟨hm, rfl⟩ | ⟨hm, rfl⟩, J8⟩
            · have HM9 := Lib.hid (HE9.out _ J8 (by simpa [← HBQ.out] using hm))
              clear hm J8 hbq
              go_wp2_with fail
              exact pnc_end rfl HM9.out
            · have hnb : ¬ (4096 < b + pr) := by simpa [← HBQ.out] using hm
              have HG2 : Hid (globM X.gs 0 0 s0 = globM (X.gs.drop (j + 1)) (j + 1) (b + pr) ((g.s, mm) :: s)) := Lib.hid (by
                rw [HG.out.1, HC1.out.2.2.2.2.2, HMM.out.2, HEV.out.1, HEV.out.2, if_neg (by decide), if_neg hnb, HMM.out.1])
              have HC8 := Lib.hid (show CkV X S { σ with sc := [(g.s, mm) :: s] } _ ∧ Below X.B w _ from ⟨HC6.out.1.on J8, HC6.out.2.trans (J8.mono HC6.out.1.Ble)⟩)
              have hsj2 : ((g.s, mm) :: s).length ≤ s0.length + (j + 1) := by simp; omega
              clear J8 J7 z1 z2 z3 hm hbq
              go_wp2_with fail
              go_roundw
              case rel => exact ⟨j + 1, (g.s, mm) :: s, b + pr, by omega, by go_num, rfl, by omega, by omega, HG2.out, hsj2, HC8.out.1, HC8.out.2⟩
              case measure => simp [intOf]; omega
    · obtain rfl : j = n := by omega
      have hdr : X.gs.drop j = [] := List.drop_eq_nil_of_le (by rw [HN.out]; omega)
      rw [hdr] at hgm
      have HG := Lib.hid (And.intro hgm (And.intro hC hbw))
      clear hgm hC hbw hdr
      go_wp2_with fail
      go_end0
      rw [← HR.out]
      exact .inl ⟨s, HG.out.1, rfl, HG.out.2.1, HG.out.2.2, by rw [H.out.2.1, HN.out]; simp; omega⟩
end Go.Proofs.YtfaoiajhoifalaaGreatDoor
/-! Cks -/
namespace Go.Proofs.YtfaoiajhoifalaaGreatDoor
open Go Go.RowKit Go.Maps
set_option linter.unusedVariables false
set_option linter.unusedSimpArgs false

/-- A list of parameters that is read. -/
def PsV (w : World) (A : Option Addr) (ps : List Pm) : Prop := ∀ j p, ps[j]? = some p → ∃ b o, A = some ⟨b, o, none⟩ ∧ b < w.heap.size ∧ w.cell? ⟨b, o + j * 2, none⟩ = some (.string (str p.s)) ∧ w.cell? ⟨b, o + j * 2 + 1, none⟩ = some (.int .i64 p.ty)
theorem PsV.on {w w' : World} {A : Option Addr} {ps : List Pm} (h : PsV w A ps) (hb : Below w.heap.size w w') : PsV w' A ps := by
  intro j p hp
  obtain ⟨b, o, e, hl, h1, h2⟩ := h j p hp
  exact ⟨b, o, e, by have := hb.size; omega, (hb.cell (p := ⟨b, _, none⟩) hl).trans h1, (hb.cell (p := ⟨b, _, none⟩) hl).trans h2⟩
theorem PsV.take {w : World} {A : Option Addr} {ps : List Pm} (h : PsV w A ps) (n : Nat) : PsV w A (ps.take n) := by
  intro j p hp
  rw [List.getElem?_take] at hp
  split at hp
  · exact h j p hp
  · cases hp
theorem ht1_any (q : Pm) (s : Nm') (ty : Int) (k : Nat) (w : World) (hk : Blk w k tPr #[.string (str s), .int .i64 ty]) :
    Calls Tryz.prog 95 #[.agg #[.string (str q.s), .int .i64 q.ty], .pointer (some ⟨k, 0, none⟩)] w fun e w' => e = .returned (.bool (q.s == s)) ∧ Below w.heap.size w w' := by
  have p0 := (hk.alloc (.cells #[.string (str q.s), .int .i64 q.ty] tPr)).cell 0
  have hb : Below w.heap.size w (w.alloc (.cells #[.string (str q.s), .int .i64 q.ty] tPr)) := (Below.refl _ _).alloc (Nat.le_refl _) _
  have b2 := Blk.new w tPr #[.string (str q.s), .int .i64 q.ty]
  have q0 := b2.cell 0
  have hkl := (hk.alloc (.cells #[.string (str q.s), .int .i64 q.ty] tPr)).lt
  simp only [List.getElem?_toArray, List.getElem?_cons_zero, List.getElem?_cons_succ] at p0 q0
  have hql := b2.lt
  have e1 := str_list q.s
  have e2 := str_list s
  obtain ⟨z1, hz1⟩ : ∃ z, str q.s = z := ⟨_, rfl⟩
  obtain ⟨z2, hz2⟩ : ∃ z, str s = z := ⟨_, rfl⟩
  rw [hz1] at e1
  rw [hz2] at e2
  rw [hz1] at hb p0 q0 hkl hql ⊢
  rw [hz2] at p0
  have HE := Lib.hid (And.intro e1 e2)
  clear e1 e2 hk hz1 hz2 b2
  go_enter Tryz.func95, Tryz.ntmps95
  go_wp2_with fail
  go_ret
  exact ⟨by rw [HE.out.1, HE.out.2]; rfl, hb⟩
theorem any_take_succ (f : Pm → Bool) (l : List Pm) (j : Nat) (p : Pm) (h : l[j]? = some p) : (l.take (j + 1)).any f = ((l.take j).any f || f p) := by
  rw [List.take_add_one, h, List.any_append]
  simp
set_option maxHeartbeats 1000000 in
set_option maxRecDepth 100000 in
theorem ixf_any {w : World} {A : Option Addr} {ps : List Pm} {n : Nat} (hn : ps.length = n) (hn2 : n ≤ 1000000000) (hv : PsV w A ps) (c : Nat) (s : Nm') (ty : Int) (k : Nat) (hk : Blk w k tPr #[.string (str s), .int .i64 ty]) :
    Calls Tryz.prog 126 #[.slice A n c, .func (.func 95) #[] #[.pointer (some ⟨k, 0, none⟩)]] w fun e w' => (∃ r : Int, e = .returned (.int .i64 r) ∧ decide (0 ≤ r) = ps.any fun q => q.s == s) ∧ Below w.heap.size w w' := by
  have HN := Lib.hid hn
  have HV := Lib.hid hv
  have HF : Hid (∀ W, Below w.heap.size w W → ∀ q : Pm, Calls Tryz.prog 95 #[.agg #[.string (str q.s), .int .i64 q.ty], .pointer (some ⟨k, 0, none⟩)] W fun e w' => e = .returned (.bool (q.s == s)) ∧ Below w.heap.size w w') := Lib.hid fun W hW q =>
    (ht1_any q s ty k W (hk.below hW hk.lt)).mono fun e w' h => ⟨h.1, hW.trans (h.2.mono hW.size)⟩
  clear hn hv hk
  go_enter Tryz.func126, Tryz.ntmps126
  go_wp2_with fail
  go_loopw [8] (fun v8 wr => ∃ j : Nat, j ≤ n ∧ v8 = .int .i64 j ∧ ((ps.take j).any fun q => q.s == s) = false ∧ Below w.heap.size w wr) (fun v _ => n - (intOf v).toNat)
  case atStart => exact ⟨0, by omega, rfl, by simp, Below.refl _ _⟩
  case round =>
    obtain ⟨j, hj, rfl, hal, hbw⟩ := hrel
    have HAL := Lib.hid hal
    clear hal
    by_cases hlt : j < n
    · have hjl : j < ps.length := by rw [HN.out]; exact hlt
      obtain ⟨p, hp⟩ : ∃ p, ps[j]? = some p := ⟨_, List.getElem?_eq_getElem hjl⟩
      obtain ⟨g, o, rfl, hg, x0, x1⟩ := (HV.out.on hbw) j p hp
      have hltI : (j : Int) < n := by omega
      have HTS := Lib.hid (any_take_succ (fun q => q.s == s) ps j p hp)
      have HFF := Lib.hid (HF.out _ hbw p)
      have HP := Lib.hid hp
      clear hp
      go_wp2_with fail
      refine HFF.out.mono ?_
      clear HFF
      obtain ⟨bq, hbq⟩ : ∃ q, (p.s == s) = q := ⟨_, rfl⟩
      rw [hbq]
      have HBQ := Lib.hid hbq
      clear hbq
      rintro e w1 ⟨rfl, hb1⟩
      cases bq with
      | true =>
        have HANY : Hid ((ps.any fun q => q.s == s) = true) := Lib.hid (List.any_eq_true.2 ⟨p, List.mem_of_getElem? HP.out, HBQ.out⟩)
        go_wp2_with fail
        go_ret
        exact ⟨⟨j, rfl, by rw [HANY.out]; simp⟩, hb1⟩
      | false =>
        have HNX : Hid (((ps.take (j + 1)).any fun q => q.s == s) = false) := Lib.hid (by rw [HTS.out, HAL.out, HBQ.out]; rfl)
        clear hbw x0 x1 hg
        go_wp2_with fail
        go_roundw
        case rel => exact ⟨j + 1, by omega, by go_num, HNX.out, hb1⟩
        case measure => simp [intOf]; omega
    · obtain rfl : j = n := by omega
      have HA2 : Hid ((ps.any fun q => q.s == s) = false) := Lib.hid (by rw [← HAL.out, ← HN.out, List.take_length])
      go_wp2_with fail
      go_ret
      exact ⟨⟨-1, rfl, by rw [HA2.out]; decide⟩, hbw⟩
set_option maxHeartbeats 1000000 in
set_option maxRecDepth 100000 in
theorem cof_any {w : World} {A : Option Addr} {ps : List Pm} {n : Nat} (hn : ps.length = n) (hn2 : n ≤ 1000000000) (hv : PsV w A ps) (c : Nat) (s : Nm') (ty : Int) (k : Nat) (hk : Blk w k tPr #[.string (str s), .int .i64 ty]) :
    Calls Tryz.prog 94 #[.slice A n c, .func (.func 95) #[] #[.pointer (some ⟨k, 0, none⟩)]] w fun e w' => e = .returned (.bool (ps.any fun q => q.s == s)) ∧ Below w.heap.size w w' := by
  have HI := Lib.hid (ixf_any hn hn2 hv c s ty k hk)
  clear hn hv hk
  go_enter Tryz.func94, Tryz.ntmps94
  go_wp2_with fail
  refine HI.out.mono ?_
  clear HI
  rintro e w1 ⟨⟨r, rfl, hr⟩, hb1⟩
  have HR := Lib.hid hr
  clear hr
  go_wp2_with fail
  go_ret
  exact ⟨by rw [← HR.out]; rfl, hb1⟩
theorem twice_step (l : List Pm) (p : Pm) (r : List Pm) (seen : List Nm') : twice (p :: r) seen = (decide (p.s ∈ seen) || twice r (seen ++ [p.s])) := rfl
theorem any_mem (l : List Pm) (s : Nm') : (l.any fun q => q.s == s) = decide (s ∈ l.map fun q => q.s) := by
  rw [Bool.eq_iff_iff]
  simp only [List.any_eq_true, beq_iff_eq, decide_eq_true_eq, List.mem_map]
set_option maxHeartbeats 1000000 in
set_option maxRecDepth 100000 in
theorem htw_any {w : World} {A : Option Addr} {ps : List Pm} {n : Nat} (hn : ps.length = n) (hn2 : n ≤ 1000000000) (hv : PsV w A ps) (c : Nat) (hc : n ≤ c) :
    Calls Tryz.prog 53 #[.slice A n c] w fun e w' => e = .returned (.bool (twice ps [])) ∧ Below w.heap.size w w' := by
  have HN := Lib.hid hn
  have HV := Lib.hid hv
  obtain ⟨tw, htw⟩ : ∃ t, twice ps [] = t := ⟨_, rfl⟩
  rw [htw]
  have HTW := Lib.hid htw
  clear hn hv htw
  go_enter Tryz.func53, Tryz.ntmps53
  go_wp2_with fail
  go_loopw [7] (fun v7 wr => ∃ j : Nat, j ≤ n ∧ v7 = .int .i64 j ∧ twice ps [] = twice (ps.drop j) ((ps.take j).map fun q => q.s) ∧ Below w.heap.size w wr) (fun v _ => n - (intOf v).toNat)
  case atStart => exact ⟨0, by omega, rfl, by simp, Below.refl _ _⟩
  case round =>
    obtain ⟨j, hj, rfl, hal, hbw⟩ := hrel
    by_cases hlt : j < n
    · have hjl : j < ps.length := by rw [HN.out]; exact hlt
      obtain ⟨p, hp⟩ : ∃ p, ps[j]? = some p := ⟨_, List.getElem?_eq_getElem hjl⟩
      have hdr : ps.drop j = p :: ps.drop (j + 1) := by
        rw [List.drop_eq_getElem_cons hjl]
        congr 1
        exact (List.getElem?_eq_some_iff.1 hp).2
      have htk : (ps.take (j + 1)).map (fun q => q.s) = (ps.take j).map (fun q => q.s) ++ [p.s] := by
        rw [List.take_add_one, hp]
        simp
      rw [hdr, twice_step ps, ← any_mem, ← htk] at hal
      obtain ⟨g, o, rfl, hg, x0, x1⟩ := (HV.out.on hbw) j p hp
      have hltI : (j : Int) < n := by omega
      have hb1 : Below wr.heap.size wr (wr.alloc (.cells #[.string (str p.s), .int .i64 p.ty] tPr)) := (Below.refl _ _).alloc (Nat.le_refl _) _
      have hk1 := Blk.new wr tPr #[.string (str p.s), .int .i64 p.ty]
      have HC := Lib.hid (cof_any (ps := ps.take j) (n := j) (by rw [List.length_take]; omega) (by omega) (((HV.out.on hbw).on hb1).take j) c p.s p.ty wr.heap.size hk1)
      have HAL := Lib.hid hal
      have HBW := Lib.hid (hbw.trans (hb1.mono hbw.size))
      have hjc : (j : Int) ≤ c := by omega
      clear hal hbw hp hdr htk hk1
      go_wp2_with fail
      refine HC.out.mono ?_
      clear HC hb1
      obtain ⟨bq, hbq⟩ : ∃ q, ((ps.take j).any fun q => q.s == p.s) = q := ⟨_, rfl⟩
      rw [hbq]
      have HBQ := Lib.hid hbq
      clear hbq
      rintro e w1 ⟨rfl, hb2⟩
      have HB2 := Lib.hid (HBW.out.trans (hb2.mono HBW.out.size))
      clear hb2
      cases bq with
      | true =>
        have HT : Hid (true = tw) := Lib.hid (by rw [← HTW.out, HAL.out, HBQ.out]; rfl)
        go_wp2_with fail
        go_ret
        exact ⟨by rw [← HT.out]; rfl, HB2.out⟩
      | false =>
        have HNX : Hid (twice ps [] = twice (ps.drop (j + 1)) ((ps.take (j + 1)).map fun q => q.s)) := Lib.hid (by rw [HAL.out, HBQ.out]; rfl)
        go_wp2_with fail
        go_roundw
        case rel => exact ⟨j + 1, by omega, by go_num, HNX.out, HB2.out⟩
        case measure => simp [intOf]; omega
    · obtain rfl : j = n := by omega
      have hdr : ps.drop j = [] := List.drop_eq_nil_of_le (by rw [HN.out]; omega)
      rw [hdr] at hal
      have HA2 := Lib.hid (show twice ps [] = false from hal)
      clear hal
      go_wp2_with fail
      go_ret
      exact ⟨by rw [← HTW.out, HA2.out]; rfl, hbw⟩
end Go.Proofs.YtfaoiajhoifalaaGreatDoor
/-! Ckt -/
namespace Go.Proofs.YtfaoiajhoifalaaGreatDoor
open Go Go.RowKit Go.Maps
set_option linter.unusedVariables false
set_option linter.unusedSimpArgs false

theorem psV_of {w : World} {B n : Nat} {pv : Value} {ps : List Pm} (h : w.ownsRow B tPr 2 pv n (ps.flatMap pmC')) (hn : ps.length = n) : ∃ A c, pv = .slice A n c ∧ n ≤ c ∧ PsV w A ps := by
  rcases h.2 with ⟨e, h0⟩ | ⟨g, c, cur, hv, _, hh, hnc, hcm, hsz, hcur⟩
  · subst h0
    refine ⟨none, 0, e, Nat.le_refl _, fun j p hp => ?_⟩
    have := (List.getElem?_eq_some_iff.1 hp).1
    omega
  · subst hv
    refine ⟨_, c, rfl, hnc, fun j p hp => ⟨g, 0, rfl, (Array.getElem?_eq_some_iff.1 hh).1, ?_, ?_⟩⟩
    · have hj := (List.getElem?_eq_some_iff.1 hp).1
      have hk := h.cellAt (j * 2 + 0) (by omega)
      rw [flat_at' pmC' 2 (fun _ => rfl) ps j 0 (by omega), hp] at hk
      simpa [pmC'] using hk
    · have hj := (List.getElem?_eq_some_iff.1 hp).1
      have hk := h.cellAt (j * 2 + 1) (by omega)
      rw [flat_at' pmC' 2 (fun _ => rfl) ps j 1 (by omega), hp] at hk
      simpa [pmC'] using hk
/-- What functions answers. -/
def FnsP (X : CkX) (S : CkS) (σ : Cs) (r : Ck Scp) (w : World) (e : Ending) (w' : World) : Prop :=
  (∃ s, r = .ok s ∧ e = .returned (.tuple #[]) ∧ CkV X S { σ with sc := [s] } w' ∧ Below X.B w w' ∧ s.length ≤ X.fl.length + (σ.sc.getLast?.getD []).length) ∨ (∃ no p, r = .er no p ∧ e = .panicked [{ v := .iface tFt (.agg #[.int .i64 no, .int .i64 p]), recovered := false }] ∧ Below X.B w w')
theorem fun_step (f : Fn') (l : List Fn') (i : Nat) (s : Scp) : funM (f :: l) i s = if 32 ≤ i then .er 9 f.p else if (look s f.s).isSome then .er 5 f.p else
    if 8 < f.ps.length then .er 9 f.p else if twice f.ps [] then .er 5 f.p else funM l (i + 1) ((f.s, ⟨4, i, f.ty⟩) :: s) := rfl
set_option maxHeartbeats 4000000 in
set_option maxRecDepth 100000 in
theorem functions_any {X : CkX} {S : CkS} {σ : Cs} {w : World} (h : CkV X S σ w) {s0 : Scp} (hs0 : σ.sc = [s0]) (hsl : s0.length ≤ 1000000) (hgl : X.fl.length ≤ 1000000) (hgs : ∀ x ∈ X.fl, x.1.s.length ≤ 1000000 ∧ x.1.ps.length ≤ 1000000) (hvl : ∀ v ∈ S.vls, ∃ A n c, v = .slice A n c) :
    Calls Tryz.prog 25 #[ckp X] w (FnsP X S σ (funM (X.fl.map (·.1)) 0 s0) w) := by
  obtain ⟨R, hR⟩ : ∃ R : Ending → World → Prop, FnsP X S σ (funM (X.fl.map (·.1)) 0 s0) w = R := ⟨_, rfl⟩
  rw [hR]
  have HR := Lib.hid hR
  have c1 := h.c1
  have hbl := h.chk.lt
  have H := Lib.hid (And.intro h (And.intro hs0 (And.intro hgs hvl)))
  obtain ⟨n, hn⟩ : ∃ n, X.fl.length = n := ⟨_, rfl⟩
  have HN := Lib.hid hn
  rw [hn] at c1 hgl
  clear hR h hn hs0 hgs hvl
  go_enter Tryz.func25, Tryz.ntmps25
  go_wp2_with fail
  go_loopw [10] (fun v10 wr => ∃ (j : Nat) (s : Scp), j ≤ n ∧ v10 = .int .i64 j ∧ funM (X.fl.map (·.1)) 0 s0 = funM ((X.fl.drop j).map (·.1)) j s ∧ s.length ≤ s0.length + j ∧ CkV X S { σ with sc := [s] } wr ∧ Below X.B w wr) (fun v _ => n - (intOf v).toNat)
  case atStart => exact ⟨0, s0, by omega, rfl, by simp, by omega, by have := H.out.1; have e := H.out.2.1; cases σ; simp only at e; subst e; exact this, Below.refl _ _⟩
  case round =>
    obtain ⟨j, s, hj, rfl, hgm, hsj, hC, hbw⟩ := hrel
    by_cases hlt : j < n
    · have hjl : j < X.fl.length := by rw [HN.out]; exact hlt
      obtain ⟨⟨f, pv⟩, hx⟩ : ∃ x, X.fl[j]? = some x := ⟨_, List.getElem?_eq_getElem hjl⟩
      obtain ⟨fv, hfv⟩ : ∃ v, S.vls[j]? = some v := ⟨_, List.getElem?_eq_getElem (by rw [hC.vll]; exact hjl)⟩
      obtain ⟨vA, vn, vc, rfl⟩ := H.out.2.2.2 fv (List.mem_of_getElem? hfv)
      obtain ⟨pn, hpn⟩ : ∃ n, f.ps.length = n := ⟨_, rfl⟩
      have hpr := hC.prm (f, pv) (List.mem_of_getElem? hx)
      obtain ⟨pA, pc, hpv, hpc, -⟩ := psV_of hpr.1 rfl
      simp only at hpv hpc
      subst hpv
      rw [hpn] at hpc
      have y0 : wr.cell? ⟨X.fB, j * 6, none⟩ = some (.string (str f.s)) := hC.fnCell hx hfv 0 (by omega)
      have y1 : wr.cell? ⟨X.fB, j * 6 + 1, none⟩ = some (.int .i64 f.ty) := hC.fnCell hx hfv 1 (by omega)
      have y2 : wr.cell? ⟨X.fB, j * 6 + 2, none⟩ = some (.slice pA pn pc) := by rw [← hpn]; exact hC.fnCell hx hfv 2 (by omega)
      have y3 : wr.cell? ⟨X.fB, j * 6 + 3, none⟩ = some (.int .i64 (f.b : Nat)) := hC.fnCell hx hfv 3 (by omega)
      have y4 : wr.cell? ⟨X.fB, j * 6 + 4, none⟩ = some (.int .i64 f.p) := hC.fnCell hx hfv 4 (by omega)
      have y5 : wr.cell? ⟨X.fB, j * 6 + 5, none⟩ = some (.slice vA vn vc) := hC.fnCell hx hfv 5 (by omega)
      have hfl := hC.fnLt
      have hdr : (X.fl.drop j).map (·.1) = f :: (X.fl.drop (j + 1)).map (·.1) := by
        rw [List.drop_eq_getElem_cons hjl, List.map_cons, (List.getElem?_eq_some_iff.1 hx).2]
      rw [hdr, fun_step] at hgm
      have hgw := H.out.2.2.1 _ (List.mem_of_getElem? hx)
      simp only at hgw
      rw [hpn] at hgw
      have hltI : (j : Int) < n := by omega
      have HG := Lib.hid (And.intro hgm (And.intro hC (And.intro hbw (And.intro hx hpn))))
      clear hgm hC hbw hdr hx hfv hpr hpn
      go_upto_region 3 with (fail)
      have hba : Below wr.heap.size wr (wr.alloc (.cells #[.string (str f.s), .int .i64 f.ty, .slice pA pn pc, .int .i64 (f.b : Nat), .int .i64 f.p, .slice vA vn vc] tFu)) := (Below.refl _ _).alloc (Nat.le_refl _) _
      have hk1 := Blk.new wr tFu #[.string (str f.s), .int .i64 f.ty, .slice pA pn pc, .int .i64 (f.b : Nat), .int .i64 f.p, .slice vA vn vc]
      have hC1 := HG.out.2.1.on hba
      have hmf := HG.out.2.1.fresh
      obtain ⟨H1, hH1⟩ : ∃ x, wr.heap.size = x := ⟨_, rfl⟩
      rw [hH1] at hk1
      generalize hW1 : wr.alloc (.cells #[.string (str f.s), .int .i64 f.ty, .slice pA pn pc, .int .i64 (f.b : Nat), .int .i64 f.p, .slice vA vn vc] tFu) = W1 at *
      simp only [hH1]
      obtain ⟨A3, n3, c3, hv3⟩ : ∃ A n c, S.scv = .slice A n c := by
        obtain ⟨A3, c3, e⟩ := own_ex hC1.sco
        exact ⟨A3, _, c3, e⟩
      have hcs := hC1.c3
      rw [hv3] at hcs
      have hbl1 := hC1.chk.lt
      have q0 : W1.cell? ⟨H1, 0, none⟩ = some (.string (str f.s)) := hk1.cell 0
      have q1 : W1.cell? ⟨H1, 1, none⟩ = some (.int .i64 f.ty) := hk1.cell 1
      have q2 : W1.cell? ⟨H1, 2, none⟩ = some (.slice pA pn pc) := hk1.cell 2
      have q4 : W1.cell? ⟨H1, 4, none⟩ = some (.int .i64 f.p) := hk1.cell 4
      have ql := hk1.lt
      have hgn : f.s.length ≤ maxLen := by unfold maxLen; have := hgw.1; omega
      obtain ⟨bh, hbh⟩ : ∃ b, (look s f.s).isSome = b := ⟨_, rfl⟩
      have HHas : Hid (∀ W, Below W1.heap.size W1 W → Calls Tryz.prog 49 #[.slice A3 n3 c3, .string (str f.s)] W fun e w' => e = .returned (.bool bh) ∧ Below W1.heap.size W1 w') := Lib.hid fun W hW => by
        have hsv := (hC1.on hW).scs
        rw [hv3] at hsv
        rw [← hbh]
        exact (has_any hsv (k := 0) rfl (by omega) hgn).mono fun e w' h => ⟨h.1, hW.trans (h.2.mono hW.size)⟩
      have HS4 : Hid (∀ Wx, Below W1.heap.size W1 Wx → Wx.cell? ⟨X.b, 3, none⟩ = some (.slice A3 n3 c3) ∧ X.b < Wx.heap.size ∧ Wx.cell? ⟨H1, 0, none⟩ = some (.string (str f.s)) ∧ Wx.cell? ⟨H1, 1, none⟩ = some (.int .i64 f.ty) ∧ Wx.cell? ⟨H1, 2, none⟩ = some (.slice pA pn pc) ∧ Wx.cell? ⟨H1, 4, none⟩ = some (.int .i64 f.p) ∧ H1 < Wx.heap.size) := Lib.hid fun Wx hW => by
        have hz := hW.size
        exact ⟨(hW.cell (p := ⟨X.b, 3, none⟩) hbl1).trans hcs, by omega, (hW.cell (p := ⟨H1, 0, none⟩) ql).trans q0, (hW.cell (p := ⟨H1, 1, none⟩) ql).trans q1, (hW.cell (p := ⟨H1, 2, none⟩) ql).trans q2, (hW.cell (p := ⟨H1, 4, none⟩) ql).trans q4, by omega⟩
      have HR9 : Hid (∀ W b, Below W1.heap.size W1 W → Calls Tryz.prog 48 #[.bool b, .int .i64 9, .int .i64 f.p] W fun e w' => (b = true ∧ e = .panicked [{ v := .iface tFt (.agg #[.int .i64 9, .int .i64 f.p]), recovered := false }] ∨ b = false ∧ e = .returned (.tuple #[])) ∧ Below W1.heap.size W1 w') := Lib.hid fun W b hW =>
        (refuse_or b 9 f.p W).mono fun e w' h => ⟨h.1, by rw [← h.2]; exact hW⟩
      have HR5 : Hid (∀ W b, Below W1.heap.size W1 W → Calls Tryz.prog 48 #[.bool b, .int .i64 5, .int .i64 f.p] W fun e w' => (b = true ∧ e = .panicked [{ v := .iface tFt (.agg #[.int .i64 5, .int .i64 f.p]), recovered := false }] ∨ b = false ∧ e = .returned (.tuple #[])) ∧ Below W1.heap.size W1 w') := Lib.hid fun W b hW =>
        (refuse_or b 5 f.p W).mono fun e w' h => ⟨h.1, by rw [← h.2]; exact hW⟩
      have HBW := Lib.hid (show Below X.B w W1 from HG.out.2.2.1.trans (hba.mono HG.out.2.1.Ble))
      have HE0 : Hid (∀ W, Below W1.heap.size W1 W → 32 ≤ j → R (.panicked [{ v := .iface tFt (.agg #[.int .i64 9, .int .i64 f.p]), recovered := false }]) W) := Lib.hid fun W hW hne => by
        rw [← HR.out]
        exact .inr ⟨9, f.p, by rw [HG.out.1, if_pos hne], rfl, HBW.out.trans (hW.mono hC1.Ble)⟩
      have HE5 : Hid (∀ W, Below W1.heap.size W1 W → ¬ 32 ≤ j → bh = true → R (.panicked [{ v := .iface tFt (.agg #[.int .i64 5, .int .i64 f.p]), recovered := false }]) W) := Lib.hid fun W hW hn3 hne => by
        rw [← HR.out]
        exact .inr ⟨5, f.p, by rw [HG.out.1, if_neg hn3, hbh, hne]; rfl, rfl, HBW.out.trans (hW.mono hC1.Ble)⟩
      have HC1 := Lib.hid (And.intro hC1 (And.intro hk1 (And.intro hmf (And.intro hH1 (And.intro hv3 hbh)))))
      have J : Below W1.heap.size W1 W1 := Below.refl _ _
      clear hba hk1 hC1 hmf hH1 hW1 hv3 hbh y0 y1 y2 y3 y4 y5 hfl
      go_wp2_with fail
      refine (HR9.out _ _ (by first | exact J | exact J.drew)).mono ?_
      rintro e v2 ⟨⟨hm, rfl⟩ | ⟨hm, rfl⟩, J2⟩
      · have HM9 := Lib.hid (HE0.out _ J2 (by have := of_decide_eq_true hm; omega))
        clear hm J2
        go_wp2_with fail
        exact pnc_end rfl HM9.out
      have hj32 : ¬ 32 ≤ j := by have := of_decide_eq_false hm; omega
      have HJ32 := Lib.hid hj32
      clear hm hj32 J hcs q0 q1 q2 q4 ql hbl1
      obtain ⟨hcs, hbl1, q0, q1, q2, q4, ql⟩ := HS4.out _ J2
      have J := J2
      clear J2
      go_upto_region 4 with (fail)
      go_cut [] (fun wx => bh = false ∧ Below W1.heap.size W1 wx)
      case first =>
        go_region_held2 (fun Wx => Wx.cell? ⟨X.b, 3, none⟩ = some (.slice A3 n3 c3) ∧ X.b < Wx.heap.size ∧ Wx.cell? ⟨H1, 0, none⟩ = some (.string (str f.s)) ∧ Wx.cell? ⟨H1, 1, none⟩ = some (.int .i64 f.ty) ∧ Wx.cell? ⟨H1, 2, none⟩ = some (.slice pA pn pc) ∧ Wx.cell? ⟨H1, 4, none⟩ = some (.int .i64 f.p) ∧ H1 < Wx.heap.size)
          (first | exact ⟨hcs, hbl1, q0, q1, q2, q4, ql⟩ | exact HS4.out _ J)
          (first
            | (go_at_call 49; (with_reducible refine Calls.mono (HHas.out _ (by first | exact J | exact J.drew)) ?_); rintro e v1 ⟨rfl, J⟩)
            | (go_at_call 48; (with_reducible refine Calls.mono (HR5.out _ _ (by first | exact J | exact J.drew)) ?_); rintro e v2 ⟨⟨hm, rfl⟩ | ⟨hm, rfl⟩, J⟩; (have J9 := Lib.hid J; have HM9 := Lib.hid hm; clear hm; go_wp2_with fail; refine pnc_end rfl ?_; exact HE5.out _ J9.out HJ32.out HM9.out); have HMM := Lib.hid hm; clear hm))
        all_goals
          go_wp2_with fail
          go_meet
          exact ⟨HMM.out, J⟩
      case rest =>
        obtain ⟨hbf, J⟩ := hcut
        have HDc : Hid (∀ W, Below W1.heap.size W1 W → Calls Tryz.prog 50 #[.slice A3 n3 c3, .string (str f.s), .agg #[.int .i64 4, .int .i64 (j : Int), .int .i64 f.ty]] W fun e w' => e = .returned (.tuple #[]) ∧ CkV X S { σ with sc := [(f.s, (⟨4, (j : Int), f.ty⟩ : Mg)) :: s] } w' ∧ Below X.B w w' ∧ Blk w' H1 tFu #[.string (str f.s), .int .i64 f.ty, .slice pA pn pc, .int .i64 (f.b : Nat), .int .i64 f.p, .slice vA vn vc]) := Lib.hid fun W hW => by
          obtain ⟨hC1, hk1, hmf, hH1, hv3, hbh⟩ := HC1.out
          have hd := declare_any (hC1.on hW) (k := 0) rfl (by omega) (x := f.s) (show s.length ≤ 2000000 by omega) hgn ⟨4, (j : Int), f.ty⟩
          rw [show S.scv = .slice A3 n3 c3 from hv3] at hd
          refine hd.mono fun e w' ⟨h1, h2, h3, h4⟩ => ⟨h1, h2, HBW.out.trans ((hW.mono hC1.Ble).trans h3), ?_⟩
          have hz := hk1.below hW hk1.lt
          have e4 := h4 H1 (by have := hW.size; have := hk1.lt; omega) (fun e => absurd (hmf _ e) (by omega))
          exact e4.trans hz
        have HS9 : Hid (∀ Wx, (CkV X S { σ with sc := [(f.s, (⟨4, (j : Int), f.ty⟩ : Mg)) :: s] } Wx ∧ Below X.B w Wx ∧ Blk Wx H1 tFu #[.string (str f.s), .int .i64 f.ty, .slice pA pn pc, .int .i64 (f.b : Nat), .int .i64 f.p, .slice vA vn vc]) → Wx.cell? ⟨X.b, 3, none⟩ = some (.slice A3 n3 c3) ∧ X.b < Wx.heap.size ∧ Wx.cell? ⟨H1, 0, none⟩ = some (.string (str f.s)) ∧ Wx.cell? ⟨H1, 1, none⟩ = some (.int .i64 f.ty) ∧ Wx.cell? ⟨H1, 2, none⟩ = some (.slice pA pn pc) ∧ Wx.cell? ⟨H1, 4, none⟩ = some (.int .i64 f.p) ∧ H1 < Wx.heap.size) := Lib.hid fun Wx hW => by
          have hv3 := HC1.out.2.2.2.2.1
          exact ⟨by rw [← show S.scv = .slice A3 n3 c3 from hv3]; exact hW.1.c3, hW.1.chk.lt, hW.2.2.cell 0, hW.2.2.cell 1, hW.2.2.cell 2, hW.2.2.cell 4, hW.2.2.lt⟩
        clear hcs hbl1 q0 q1 q2 q4 ql
        obtain ⟨hcs, hbl1, q0, q1, q2, q4, ql⟩ := HS4.out _ J
        have HMM := Lib.hid hbf
        clear hbf
        go_upto_region 5 with (fail)
        go_cut [] (fun wx => CkV X S { σ with sc := [(f.s, (⟨4, (j : Int), f.ty⟩ : Mg)) :: s] } wx ∧ Below X.B w wx ∧ Blk wx H1 tFu #[.string (str f.s), .int .i64 f.ty, .slice pA pn pc, .int .i64 (f.b : Nat), .int .i64 f.p, .slice vA vn vc])
        case first =>
          go_region_held2 (fun Wx => Wx.cell? ⟨X.b, 3, none⟩ = some (.slice A3 n3 c3) ∧ X.b < Wx.heap.size ∧ Wx.cell? ⟨H1, 0, none⟩ = some (.string (str f.s)) ∧ Wx.cell? ⟨H1, 1, none⟩ = some (.int .i64 f.ty) ∧ Wx.cell? ⟨H1, 2, none⟩ = some (.slice pA pn pc) ∧ Wx.cell? ⟨H1, 4, none⟩ = some (.int .i64 f.p) ∧ H1 < Wx.heap.size)
            (first | exact ⟨hcs, hbl1, q0, q1, q2, q4, ql⟩ | exact HS9.out _ HJ9.out | exact HS4.out _ J)
            ((go_at_call 50; (with_reducible refine Calls.mono (HDc.out _ (by first | exact J | exact J.drew)) ?_); rintro e v2 ⟨rfl, J9⟩; have HJ9 := Lib.hid J9; clear J9))
          all_goals
            go_wp2_with fail
            go_meet
            exact HJ9.out
        case rest =>
          obtain ⟨wc5, hwc5⟩ : ∃ x, x = wc := ⟨_, rfl⟩
          subst hwc5
          obtain ⟨-, -, z0, z1, z2, z4, zl⟩ := HS9.out _ hcut
          obtain ⟨hC5, hb5, hk5⟩ := hcut
          have HS6 : Hid (∀ Wx, Below wc5.heap.size wc5 Wx → Wx.cell? ⟨H1, 0, none⟩ = some (.string (str f.s)) ∧ Wx.cell? ⟨H1, 1, none⟩ = some (.int .i64 f.ty) ∧ Wx.cell? ⟨H1, 2, none⟩ = some (.slice pA pn pc) ∧ Wx.cell? ⟨H1, 4, none⟩ = some (.int .i64 f.p) ∧ H1 < Wx.heap.size) := Lib.hid fun Wx hW => by
            have hz := hW.size
            exact ⟨(hW.cell (p := ⟨H1, 0, none⟩) zl).trans z0, (hW.cell (p := ⟨H1, 1, none⟩) zl).trans z1, (hW.cell (p := ⟨H1, 2, none⟩) zl).trans z2, (hW.cell (p := ⟨H1, 4, none⟩) zl).trans z4, by omega⟩
          obtain ⟨tb, htb⟩ : ∃ t, twice f.ps [] = t := ⟨_, rfl⟩
          have HPN := Lib.hid (show f.ps.length = pn from HG.out.2.2.2.2)
          have HPS := Lib.hid (show PsV wc5 pA f.ps by
            have e0 := HG.out.2.2.2.1
            rw [HPN.out] at e0
            obtain ⟨A', c', e1, -, e3⟩ := psV_of (hC5.prm (f, .slice pA pn pc) (List.mem_of_getElem? e0)).1 rfl
            simp only [Value.slice.injEq] at e1
            rw [e1.1]; exact e3)
          have HTw : Hid (∀ W, Below wc5.heap.size wc5 W → Calls Tryz.prog 53 #[.slice pA pn pc] W fun e w' => e = .returned (.bool tb) ∧ Below wc5.heap.size wc5 w') := Lib.hid fun W hW => by
            rw [← htb]
            exact (htw_any HPN.out (by omega) (HPS.out.on hW) pc hpc).mono fun e w' h => ⟨h.1, hW.trans (h.2.mono hW.size)⟩
          have HT9 : Hid (∀ W b, Below wc5.heap.size wc5 W → Calls Tryz.prog 48 #[.bool b, .int .i64 9, .int .i64 f.p] W fun e w' => (b = true ∧ e = .panicked [{ v := .iface tFt (.agg #[.int .i64 9, .int .i64 f.p]), recovered := false }] ∨ b = false ∧ e = .returned (.tuple #[])) ∧ Below wc5.heap.size wc5 w') := Lib.hid fun W b hW =>
          (refuse_or b 9 f.p W).mono fun e w' h => ⟨h.1, by rw [← h.2]; exact hW⟩
          have HT5 : Hid (∀ W b, Below wc5.heap.size wc5 W → Calls Tryz.prog 48 #[.bool b, .int .i64 5, .int .i64 f.p] W fun e w' => (b = true ∧ e = .panicked [{ v := .iface tFt (.agg #[.int .i64 5, .int .i64 f.p]), recovered := false }] ∨ b = false ∧ e = .returned (.tuple #[])) ∧ Below wc5.heap.size wc5 w') := Lib.hid fun W b hW =>
          (refuse_or b 5 f.p W).mono fun e w' h => ⟨h.1, by rw [← h.2]; exact hW⟩
          have hHead : funM (X.fl.map (·.1)) 0 s0 = if 8 < pn then .er 9 f.p else if tb = true then .er 5 f.p else funM ((X.fl.drop (j + 1)).map (·.1)) (j + 1) ((f.s, ⟨4, j, f.ty⟩) :: s) := by
            rw [HG.out.1, if_neg HJ32.out, HC1.out.2.2.2.2.2, HMM.out, if_neg (by decide), HPN.out, htb]
          have HHD := Lib.hid hHead
          have HC6 := Lib.hid (And.intro hC5 hb5)
          have HE9 : Hid (∀ W, Below wc5.heap.size wc5 W → 8 < pn → R (.panicked [{ v := .iface tFt (.agg #[.int .i64 9, .int .i64 f.p]), recovered := false }]) W) := Lib.hid fun W hW hne => by
            rw [← HR.out]
            exact .inr ⟨9, f.p, by rw [HHD.out, if_pos hne], rfl, HC6.out.2.trans (hW.mono HC6.out.1.Ble)⟩
          have HE6 : Hid (∀ W, Below wc5.heap.size wc5 W → ¬ 8 < pn → tb = true → R (.panicked [{ v := .iface tFt (.agg #[.int .i64 5, .int .i64 f.p]), recovered := false }]) W) := Lib.hid fun W hW h8 hne => by
            rw [← HR.out]
            exact .inr ⟨5, f.p, by rw [HHD.out, if_neg h8, if_pos hne], rfl, HC6.out.2.trans (hW.mono HC6.out.1.Ble)⟩
          have J6 : Below wc5.heap.size wc5 wc5 := Below.refl _ _
          clear hC5 hb5 hk5 htb hHead hcs hbl1 q0 q1 q2 q4 ql J
          go_wp2_with fail
          refine (HT9.out _ _ (by first | exact J6 | exact J6.drew)).mono ?_
          rintro e v2 ⟨⟨hm, rfl⟩ | ⟨hm, rfl⟩, J2⟩
          · have HM9 := Lib.hid (HE9.out _ J2 (by have := of_decide_eq_true hm; omega))
            clear hm J2
            go_wp2_with fail
            exact pnc_end rfl HM9.out
          have h8 : ¬ 8 < pn := by have := of_decide_eq_false hm; omega
          have H8 := Lib.hid h8
          clear hm h8 J6 z0 z1 z2 z4 zl
          obtain ⟨z0, z1, z2, z4, zl⟩ := HS6.out _ J2
          go_upto_region 7 with (fail)
          go_region_held2 (fun Wx => Wx.cell? ⟨H1, 0, none⟩ = some (.string (str f.s)) ∧ Wx.cell? ⟨H1, 1, none⟩ = some (.int .i64 f.ty) ∧ Wx.cell? ⟨H1, 2, none⟩ = some (.slice pA pn pc) ∧ Wx.cell? ⟨H1, 4, none⟩ = some (.int .i64 f.p) ∧ H1 < Wx.heap.size)
            (first | exact ⟨z0, z1, z2, z4, zl⟩ | exact HS6.out _ J2)
            (first
              | (go_at_call 53; (with_reducible refine Calls.mono (HTw.out _ (by first | exact J2 | exact J2.drew)) ?_); rintro e v1 ⟨rfl, J2⟩)
              | (go_at_call 48; (with_reducible refine Calls.mono (HT5.out _ _ (by first | exact J2 | exact J2.drew)) ?_); rintro e v2 ⟨⟨hm, rfl⟩ | ⟨hm, rfl⟩, J2⟩; (have J9 := Lib.hid J2; have HM9 := Lib.hid hm; clear hm; go_wp2_with fail; refine pnc_end rfl ?_; exact HE6.out _ J9.out H8.out HM9.out); have HM7 := Lib.hid hm; clear hm))
          all_goals
            have HG2 := Lib.hid (show funM (X.fl.map (·.1)) 0 s0 = funM ((X.fl.drop (j + 1)).map (·.1)) (j + 1) ((f.s, ⟨4, j, f.ty⟩) :: s) by
              rw [HHD.out, if_neg H8.out, HM7.out, if_neg (by decide)])
            have HC8 := Lib.hid (show CkV X S { σ with sc := [(f.s, (⟨4, (j : Int), f.ty⟩ : Mg)) :: s] } _ ∧ Below X.B w _ from ⟨HC6.out.1.on J2, HC6.out.2.trans (J2.mono HC6.out.1.Ble)⟩)
            have hsj2 : ((f.s, (⟨4, (j : Int), f.ty⟩ : Mg)) :: s).length ≤ s0.length + (j + 1) := by simp; omega
            clear J2 z0 z1 z2 z4 zl
            go_wp2_with fail
            go_roundw
            case rel => exact ⟨j + 1, _, by omega, by go_num, HG2.out, hsj2, HC8.out.1, HC8.out.2⟩
            case measure => simp [intOf]; omega
    · obtain rfl : j = n := by omega
      have hdr : (X.fl.drop j).map (·.1) = [] := by rw [List.drop_eq_nil_of_le (by rw [HN.out]; omega)]; rfl
      rw [hdr] at hgm
      have HG := Lib.hid (And.intro hgm (And.intro hC hbw))
      clear hgm hC hbw hdr
      go_wp2_with fail
      go_end0
      rw [← HR.out]
      exact .inl ⟨s, HG.out.1, rfl, HG.out.2.1, HG.out.2.2, by rw [H.out.2.1, HN.out]; simp; omega⟩
end Go.Proofs.YtfaoiajhoifalaaGreatDoor
/-! Cku -/
namespace Go.Proofs.YtfaoiajhoifalaaGreatDoor
open Go Go.RowKit Go.Maps
set_option linter.unusedVariables false
set_option linter.unusedSimpArgs false

theorem main_no {G : Scp} {fs : List Fn'} (h : ((look G wMain').getD mz).so ≠ 4) : mainM G fs = .er 12 0 := by
  unfold mainM
  cases hL : look G wMain' with
  | none => rfl
  | some m => rw [hL] at h; simp only [Option.getD_some] at h; simp only; rw [if_pos h]
theorem main_at {G : Scp} {fs : List Fn'} {f : Fn'} {j : Nat} (h : ((look G wMain').getD mz).so = 4) (hr : ((look G wMain').getD mz).rf = j) (hf : fs[j]? = some f) : mainM G fs = if f.ty ≠ 1 ∨ f.ps ≠ [] then .er 12 f.p else .ok () := by
  unfold mainM
  cases hL : look G wMain' with
  | none => rw [hL] at h; cases h
  | some m =>
    rw [hL] at h hr
    simp only [Option.getD_some] at h hr
    simp only
    rw [if_neg (by simp [h]), hr, Int.toNat_natCast, hf]
/-- What main answers. -/
def MainP (X : CkX) (r : Ck Unit) (w : World) (e : Ending) (w' : World) : Prop :=
  ((r = .ok () ∧ e = .returned (.tuple #[])) ∨ ∃ no p, r = .er no p ∧ e = .panicked [{ v := .iface tFt (.agg #[.int .i64 no, .int .i64 p]), recovered := false }]) ∧ Below w.heap.size w w'
set_option maxHeartbeats 4000000 in
set_option maxRecDepth 100000 in
theorem mainCk_any {X : CkX} {S : CkS} {σ : Cs} {w : World} (h : CkV X S σ w) {G : Scp} (hs0 : σ.sc = [G]) (hfn : ∀ p ∈ G, p.2.so = 4 → ∃ j : Nat, p.2.rf = j ∧ j < X.fl.length) (hvl : ∀ v ∈ S.vls, ∃ A n c, v = .slice A n c) :
    Calls Tryz.prog 27 #[ckp X] w (MainP X (mainM G (X.fl.map (·.1))) w) := by
  obtain ⟨R, hR⟩ : ∃ R : Ending → World → Prop, MainP X (mainM G (X.fl.map (·.1))) w = R := ⟨_, rfl⟩
  rw [hR]
  have HR := Lib.hid hR
  have hbl := h.chk.lt
  obtain ⟨A3, n3, c3, hv3⟩ : ∃ A n c, S.scv = .slice A n c := by
    obtain ⟨A3, c3, e⟩ := own_ex h.sco
    exact ⟨A3, _, c3, e⟩
  have hcs := h.c3
  rw [hv3] at hcs
  have hfind : Calls Tryz.prog 59 #[.slice A3 n3 c3, .string (str wMain')] w fun e w' => e = .returned (.tuple #[mgV ((look G wMain').getD mz), .bool (look G wMain').isSome]) ∧ Below w.heap.size w w' := by
    have hsv := h.scs
    have hrow := h.sco.1
    have hl := h.scl
    rw [hv3] at hsv
    have hn3 : σ.sc.length = n3 := by
      obtain ⟨A4, c4, e⟩ := own_ex h.sco
      rw [hv3] at e
      simp only [Value.slice.injEq] at e
      omega
    have hf := find_any hsv hn3 (by rw [← hn3, hs0]; simp) (x := wMain') (by decide)
    have e : lookS σ.sc wMain' = look G wMain' := by rw [hs0]; unfold lookS; simp only [List.reverse_cons, List.reverse_nil, List.nil_append, List.findSome?_cons, List.findSome?_nil]; cases look G wMain' <;> rfl
    rw [e] at hf
    exact hf
  obtain ⟨⟨a1, a2, a3⟩, hM⟩ : ∃ q, (look G wMain').getD mz = q := ⟨_, rfl⟩
  obtain ⟨bv, hbv⟩ : ∃ q, (look G wMain').isSome = q := ⟨_, rfl⟩
  rw [hM, hbv] at hfind
  simp only [mgV] at hfind
  have HF := Lib.hid hfind
  have H := Lib.hid (And.intro h (And.intro hs0 (And.intro hfn (And.intro hvl hM))))
  clear h hs0 hfn hvl hM hbv hv3 hfind hR
  go_enter Tryz.func27, Tryz.ntmps27
  go_wp2_with fail
  refine HF.out.mono ?_
  clear HF
  rintro e w1 ⟨rfl, hb1⟩
  have HB1 := Lib.hid hb1
  have hbl1 : X.b < w1.heap.size := Nat.lt_of_lt_of_le hbl hb1.size
  have HC1 := Lib.hid (H.out.1.on hb1)
  clear hb1 hcs hbl
  go_wp2_with fail
  refine (refuse_or _ _ _ _).mono ?_
  rintro e v2 ⟨⟨hm, rfl⟩ | ⟨hm, rfl⟩, rfl⟩
  · have HE := Lib.hid (show R (.panicked [{ v := .iface tFt (.agg #[.int .i64 12, .int .i64 0]), recovered := false }]) (w1.alloc (.cells #[.int .i64 a1, .int .i64 a2, .int .i64 a3] tMg)) by
      rw [← HR.out]
      exact ⟨.inr ⟨12, 0, main_no (by rw [H.out.2.2.2.2]; simpa using hm), rfl⟩, HB1.out.alloc HB1.out.size _⟩)
    clear hm
    go_wp2_with fail
    exact pnc_end rfl HE.out
  · have h4 : a1 = 4 := by simpa using hm
    subst h4
    have HM := Lib.hid H.out.2.2.2.2
    obtain ⟨j, hj, hjl⟩ : ∃ j : Nat, a2 = j ∧ j < X.fl.length := by
      cases hL : look G wMain' with
      | none => have e := HM.out; rw [hL] at e; cases e
      | some m =>
        have e := HM.out
        rw [hL] at e
        obtain rfl : m = ⟨4, a2, a3⟩ := e
        obtain ⟨p, hp, hpe⟩ := look_mem hL
        obtain ⟨j, h1, h2⟩ := H.out.2.2.1 p hp (by rw [hpe])
        rw [hpe] at h1
        exact ⟨j, h1, h2⟩
    subst hj
    obtain ⟨⟨f, pv⟩, hx⟩ : ∃ x, X.fl[j]? = some x := ⟨_, List.getElem?_eq_getElem hjl⟩
    obtain ⟨fv, hfv⟩ : ∃ v, S.vls[j]? = some v := ⟨_, List.getElem?_eq_getElem (by rw [HC1.out.vll]; exact hjl)⟩
    obtain ⟨vA, vn, vc, rfl⟩ := H.out.2.2.2.1 fv (List.mem_of_getElem? hfv)
    obtain ⟨pn, hpn⟩ : ∃ n, f.ps.length = n := ⟨_, rfl⟩
    obtain ⟨pA, pc, hpv, hpc, -⟩ := psV_of (HC1.out.prm (f, pv) (List.mem_of_getElem? hx)).1 rfl
    simp only at hpv hpc
    subst hpv
    have hC2 := HC1.out.alloc (.cells #[.int .i64 4, .int .i64 j, .int .i64 a3] tMg)
    have hk1 := Blk.new w1 tMg #[.int .i64 4, .int .i64 j, .int .i64 a3]
    have hb2 : Below w.heap.size w (w1.alloc (.cells #[.int .i64 4, .int .i64 j, .int .i64 a3] tMg)) := HB1.out.alloc HB1.out.size _
    obtain ⟨H1, hH1⟩ : ∃ x, w1.heap.size = x := ⟨_, rfl⟩
    rw [hH1] at hk1
    generalize w1.alloc (.cells #[.int .i64 4, .int .i64 j, .int .i64 a3] tMg) = W2 at *
    simp only [hH1]
    have y0 : W2.cell? ⟨X.fB, j * 6, none⟩ = some (.string (str f.s)) := hC2.fnCell hx hfv 0 (by omega)
    have y1 : W2.cell? ⟨X.fB, j * 6 + 1, none⟩ = some (.int .i64 f.ty) := hC2.fnCell hx hfv 1 (by omega)
    have y2 : W2.cell? ⟨X.fB, j * 6 + 2, none⟩ = some (.slice pA pn pc) := by rw [← hpn]; exact hC2.fnCell hx hfv 2 (by omega)
    have y3 : W2.cell? ⟨X.fB, j * 6 + 3, none⟩ = some (.int .i64 (f.b : Nat)) := hC2.fnCell hx hfv 3 (by omega)
    have y4 : W2.cell? ⟨X.fB, j * 6 + 4, none⟩ = some (.int .i64 f.p) := hC2.fnCell hx hfv 4 (by omega)
    have y5 : W2.cell? ⟨X.fB, j * 6 + 5, none⟩ = some (.slice vA vn vc) := hC2.fnCell hx hfv 5 (by omega)
    have hfl := hC2.fnLt
    have hbl2 := hC2.chk.lt
    have c1 := hC2.c1
    have q1 : W2.cell? ⟨H1, 1, none⟩ = some (.int .i64 j) := hk1.cell 1
    have ql := hk1.lt
    have hjI : (j : Int) < X.fl.length := by omega
    have HX := Lib.hid (And.intro hx (And.intro hpn hb2))
    have J : Below W2.heap.size W2 W2 := Below.refl _ _
    clear hC2 hk1 hb2 hH1 hx hfv hpn hm hbl1 hpc
    go_upto_region 2 with (fail)
    go_cut [4] (fun v4 wx => ∃ g4 : Nat, v4 = .pointer (some ⟨g4, 0, none⟩) ∧ Blk wx g4 tFu #[.string (str f.s), .int .i64 f.ty, .slice pA pn pc, .int .i64 (f.b : Nat), .int .i64 f.p, .slice vA vn vc] ∧ Below W2.heap.size W2 wx)
    case first =>
      go_region
      all_goals
        go_wp2_with fail
        go_meet
        exact ⟨_, rfl, Blk.new _ _ _, ((Below.refl _ _).alloc (Nat.le_refl _) _).drew⟩
    case rest =>
      obtain ⟨g4, rfl, hk4, J4⟩ := hcut
      have z1 : wc.cell? ⟨g4, 1, none⟩ = some (.int .i64 f.ty) := hk4.cell 1
      have z2 : wc.cell? ⟨g4, 2, none⟩ = some (.slice pA pn pc) := hk4.cell 2
      have z4 : wc.cell? ⟨g4, 4, none⟩ = some (.int .i64 f.p) := hk4.cell 4
      have zl := hk4.lt
      have HJ := Lib.hid (HX.out.2.2.trans (J4.mono HX.out.2.2.size))
      have HMA := Lib.hid (main_at (G := G) (fs := X.fl.map (·.1)) (f := f) (j := j) (by rw [HM.out]) (by rw [HM.out]) (by rw [List.getElem?_map, HX.out.1]; rfl))
      have HP0 := Lib.hid (show f.ps = [] ↔ pn = 0 by rw [← HX.out.2.1]; exact List.length_eq_zero_iff.symm)
      have HEr : Hid (f.ty ≠ 1 ∨ pn ≠ 0 → R (.panicked [{ v := .iface tFt (.agg #[.int .i64 12, .int .i64 f.p]), recovered := false }]) wc) := Lib.hid fun hc => by
        rw [← HR.out]
        exact ⟨.inr ⟨12, f.p, by rw [HMA.out, if_pos (by rw [ne_eq f.ps, HP0.out]; exact hc)], rfl⟩, HJ.out⟩
      have HOk : Hid (¬ (f.ty ≠ 1 ∨ pn ≠ 0) → R (.returned (.tuple #[])) wc) := Lib.hid fun hc => by
        rw [← HR.out]
        exact ⟨.inl ⟨by rw [HMA.out, if_neg (by rw [ne_eq f.ps, HP0.out]; exact hc)], rfl⟩, HJ.out⟩
      clear hk4 J4 c1 q1 ql y0 y1 y2 y3 y4 y5 hfl hbl2 J hjI
      by_cases h1 : f.ty = 1
      · have d1 : (f.ty != 1) = false := by simp [h1]
        have H1' := Lib.hid h1
        clear h1
        go_wp2_with fail
        refine (refuse_or _ _ _ _).mono ?_
        rintro e v2 ⟨⟨hm, rfl⟩ | ⟨hm, rfl⟩, rfl⟩
        · have HE := Lib.hid (HEr.out (.inr (by have := of_decide_eq_true hm; omega)))
          clear hm
          go_wp2_with fail
          exact pnc_end rfl HE.out
        · have HE := Lib.hid (HOk.out (by rw [H1'.out]; have := of_decide_eq_false hm; omega))
          clear hm
          go_wp2_with fail
          go_end0
          exact HE.out
      · have d1 : (f.ty != 1) = true := by simp [h1]
        have HE := Lib.hid (HEr.out (.inl h1))
        clear h1
        go_wp2_with fail
        refine (refuse_yes _ _ _).mono ?_
        rintro e v2 ⟨rfl, rfl⟩
        go_wp2_with fail
        exact pnc_end rfl HE.out
end Go.Proofs.YtfaoiajhoifalaaGreatDoor
