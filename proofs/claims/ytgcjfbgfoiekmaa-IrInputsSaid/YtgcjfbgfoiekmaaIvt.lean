/-
  Layer ir: an instruction is run: elements of arrays.
-/
import Derived.Test.YtgcjfbgfoiekmaaIvs
namespace Go.Proofs.Ytgcjfbgfoiekmaa
open Go Go.RowKit Go.Maps
set_option linter.unusedVariables false
set_option linter.unusedSimpArgs false

theorem isMap_of {w : World} {R : Value → Option (DataW Unit × List MemPlace)} {b n : Nat} {D : DataW Unit} (h : w.ownsMap Try.prog tEl R b n D) : IsMap D := by
  obtain ⟨es, cl, _, _, _, rfl⟩ := h
  exact ⟨_, rfl⟩
section
variable {X : Mc} {w : World} {s : Mst} {ov : Value} {rb : Nat} {r : List Int} {i : Ins} {av : Value} {g p : Nat}
theorem McV.elem (h : McV X 1 w s ov) {w1 w2 : World} {n : Nat} {D : DataW Unit} {a j v : Int} {kl : Lit} (he : ElD D s.el) (hn : (n : Int) + s.st + 1 ≤ X.cap) (hv : iw v) (hkl : eKey a j = some kl) (hD : IsMap D)
    (hB : Below w.heap.size w w1) (hown : w2.ownsMap Try.prog tEl (plainElem Try.prog tI1) X.mb (n + 1) (D.put kl (.lit (.int .i64 v)))) (hg : w1.grownBy w2 (some X.mb)) :
    McV X 0 w2 { s with el := setEl s.el a j v } ov ∧ Km X w ov w2 ov := by
  obtain ⟨iv, hb, hi⟩ := h.blk
  have hbb := h.bb
  have hne := h.ne
  have hbl := hb.lt
  have hsl := h.sc.lt
  have hsz := hB.size
  have hsz2 := hg.size
  have old : ∀ i, i < w.heap.size → i ≠ X.mb → w2.heap[i]? = w.heap[i]? := fun i hi hne => (hg.block i (by omega) (by simpa using hne)).trans (hB.block i hi)
  have hB2 : Below X.base w w2 := ⟨hg.os.trans hB.os, hg.tape.trans hB.tape, hg.output.trans hB.output, by omega, fun i hi => old i (by omega) (by omega)⟩
  have hbnd := h.bnd
  refine ⟨⟨⟨iv, (old X.b hbl hne.2.1).trans hb, hi.below hB2⟩, h.mod.below hB2, rowKeep h.out fun i hi => old i (h.own i hi).2.1 (h.own i hi).2.2.2.2, (old X.sb hsl hne.2.2).trans h.sc, h.scl, h.scw, ⟨n + 1, _, hown, ?_, by simp only; omega⟩, ?_, h.bb, h.ne, h.nos, by simp only; omega, h.cap, h.st, h.ca⟩, ?_⟩
  · intro a' i' kl' ha' hi' hk'
    by_cases hc : a' = a ∧ i' = j
    · obtain ⟨rfl, rfl⟩ := hc
      obtain rfl : kl = kl' := Option.some.inj (hkl.symm.trans hk')
      rw [atKey_put_same hD (elKeyed.key hkl)]
      simp [setEl]
    · rw [atKey_put_other (eKey_ne hk' hkl hc), he a' i' kl' ha' hi' hk']
      simp [setEl, hc]
  · intro x y
    simp only [setEl]
    split
    · exact hv
    · exact h.elw x y
  · exact ⟨hg.os.trans hB.os, hg.tape.trans hB.tape, hg.output.trans hB.output, by omega, fun i hi _ _ h3 _ => old i hi h3, .inl rfl⟩
set_option maxHeartbeats 1000000 in
set_option maxRecDepth 100000 in
theorem do5_any (h : McV X 1 w s ov) (hr : RgV X w rb r ov) (hi : InA w X.base g p i av) (hop : i.op = 5) (ha : inR r i.a = true) (hb : inR X.m.g i.n = true) :
    Calls Try.prog 44 #[mcp X, rgs rb r.length, .pointer (some ⟨g, p, none⟩)] w (RnP X 0 w ov en1 (doM X.m r i s)) := by
  have c0 : w.cell? ⟨g, p, none⟩ = some (.int .i64 5) := by rw [← hop]; exact hi.2.2 0 _ rfl
  have c3 : w.cell? ⟨g, p + 3, none⟩ = some (.int .i64 i.a) := hi.2.2 3 _ rfl
  have c5 : w.cell? ⟨g, p + 5, none⟩ = some (.int .i64 i.n) := hi.2.2 5 _ rfl
  have hg := World.block_lt_of_cell? w _ c0
  simp only at hg
  obtain ⟨k, hk, hlt⟩ := inR_nat ha
  obtain ⟨x0, hlt', hw0⟩ := hr.cell hlt
  have hrl := hr.blk.lt
  obtain ⟨A, c, hbk, -, -, -⟩ := h.iv
  have m6 : w.cell? ⟨X.b, 7, none⟩ = some (.map (some X.mb)) := hbk.cell 7
  have ml := hbk.lt
  have H1 := Lib.hid (h.less (k' := 0) (by omega))
  have e : doM X.m r i s = if at0 r i.a < 0 ∨ (gAt X.m i.n).sz ≤ at0 r i.a then .er 2 3 s else .ok [s.el i.n (at0 r i.a)] s := by unfold doM; rw [if_neg (by omega), if_neg (by omega), if_neg (by omega), if_neg (by omega), if_pos hop]
  rw [e]
  have hnw := hi.1.n
  rw [hk] at c3 ⊢
  obtain ⟨kl, hkl⟩ := eKey_some hnw hw0
  obtain ⟨n, D, hmp, hel, hn⟩ := h.mp
  have hat := hel _ _ _ hnw hw0 hkl
  generalize at0 r (k : Int) = v at *
  generalize r.length = rn at *
  obtain ⟨M, hM⟩ : ∃ M, (if v < 0 ∨ (gAt X.m i.n).sz ≤ v then Rn.er 2 3 s else .ok [s.el i.n v] s) = M := ⟨_, rfl⟩
  have HM := Lib.hid hM
  rw [hM]
  have HEL : Hid (∀ W, Below w.heap.size w W → Calls Try.prog 59 #[.pointer (some ⟨X.b, 0, none⟩), .int .i64 i.n, .int .i64 v] W fun e w' => (M = .er 2 3 s ∧ e = PanE 2 3 ∧ Below w.heap.size w w') ∨ (M = .ok [s.el i.n v] s ∧ e = .returned (.agg #[.int .i64 i.n, .int .i64 v]) ∧ Below w.heap.size w w')) := Lib.hid fun W hW => by
    rw [← HM.out]
    by_cases hc : v < 0 ∨ (gAt X.m i.n).sz ≤ v
    · rw [if_pos hc]
      exact (element_er (h.below hW) i.n v hb hc).mono fun e w' h => .inl ⟨rfl, h.1, hW.trans (h.2.mono hW.size)⟩
    · rw [if_neg hc]
      exact (element_ok (h.below hW) i.n v hb hc).mono fun e w' h => .inr ⟨rfl, h.1, hW.trans (h.2.mono hW.size)⟩
  have HLK : Hid (∀ W, Below w.heap.size w W → (Instr.lookup 70 (.map (some X.mb)) (.agg #[.int .i64 i.n, .int .i64 v]) false).run Try.prog W = .ok (.int .i64 (s.el i.n v)) W) := Lib.hid fun W hW => by
    obtain ⟨c, hrun, hat2, -⟩ := (mapKeep hmp (hW.block _ hmp.lt)).lookup_int elKeyed Try.underlying70 Try.underlying3 (zeroInt _) hkl
    rw [hat] at hat2
    obtain rfl : s.el i.n v = c := by simpa using hat2
    exact hrun
  generalize s.el i.n v = res at *
  generalize i.n = nn at *
  have HS : Hid (∀ Wx, Below w.heap.size w Wx → Wx.cell? ⟨g, p + 3, none⟩ = some (.int .i64 k) ∧ Wx.cell? ⟨g, p + 5, none⟩ = some (.int .i64 nn) ∧ Wx.cell? ⟨rb, k, none⟩ = some (.int .i64 v) ∧ Wx.cell? ⟨X.b, 7, none⟩ = some (.map (some X.mb)) ∧ g < Wx.heap.size ∧ rb < Wx.heap.size ∧ X.b < Wx.heap.size) := Lib.hid fun Wx h => by
    have hz := h.size
    exact ⟨(h.cell (p := ⟨g, p + 3, none⟩) hg).trans c3, (h.cell (p := ⟨g, p + 5, none⟩) hg).trans c5, (h.cell (p := ⟨rb, k, none⟩) hrl).trans x0, (h.cell (p := ⟨X.b, 7, none⟩) ml).trans m6, by omega, by omega, by omega⟩
  have J0 : Below w.heap.size w w := Below.refl _ _
  clear h hi hop e ha hb hk hr hw0 hM HM hbk hnw hkl hmp hel hn hat
  unfold mcp rgs
  go_enter Try.func44, Try.ntmps44
  go_wp2_with fail
  go_region_held2 (fun Wx => Wx.cell? ⟨g, p + 3, none⟩ = some (.int .i64 k) ∧ Wx.cell? ⟨g, p + 5, none⟩ = some (.int .i64 nn) ∧ Wx.cell? ⟨rb, k, none⟩ = some (.int .i64 v) ∧ Wx.cell? ⟨X.b, 7, none⟩ = some (.map (some X.mb)) ∧ g < Wx.heap.size ∧ rb < Wx.heap.size ∧ X.b < Wx.heap.size)
    (first | exact ⟨c3, c5, x0, m6, hg, hrl, ml⟩ | exact HS.out _ J1)
    (first
      | (go_at_call 59; (with_reducible refine Calls.mono (HEL.out _ (by first | exact J0.drew | exact J0)) ?_); intro e v1 hR; rcases hR with ⟨hm, rfl, J1⟩ | ⟨hm, rfl, J1⟩; (refine pan_end rfl ?_; rw [hm]; exact ⟨rfl, _, H1.out.below J1, .of J1⟩); have HM := Lib.hid hm; have hrun := HLK.out _ J1; clear hm))
  all_goals
    have HJ := Lib.hid J1
    clear J0 J1
    go_wp2_with fail
    go_ret
    rw [HM.out]
    exact ⟨rfl, _, H1.out.below HJ.out, .of HJ.out⟩
set_option maxHeartbeats 4000000 in
set_option maxRecDepth 100000 in
theorem do6_any (h : McV X 1 w s ov) (hst : 0 ≤ s.st) (hr : RgV X w rb r ov) (hi : InA w X.base g p i av) (hop : i.op = 6) (ha : inR r i.a = true) (hb2 : inR r i.b = true) (hb : inR X.m.g i.n = true) :
    Calls Try.prog 44 #[mcp X, rgs rb r.length, .pointer (some ⟨g, p, none⟩)] w (RnP X 0 w ov en1 (doM X.m r i s)) := by
  have c0 : w.cell? ⟨g, p, none⟩ = some (.int .i64 6) := by rw [← hop]; exact hi.2.2 0 _ rfl
  have c3 : w.cell? ⟨g, p + 3, none⟩ = some (.int .i64 i.a) := hi.2.2 3 _ rfl
  have c4 : w.cell? ⟨g, p + 4, none⟩ = some (.int .i64 i.b) := hi.2.2 4 _ rfl
  have c5 : w.cell? ⟨g, p + 5, none⟩ = some (.int .i64 i.n) := hi.2.2 5 _ rfl
  have hg := World.block_lt_of_cell? w _ c0
  simp only at hg
  obtain ⟨k, hk, hlt⟩ := inR_nat ha
  obtain ⟨x0, hlt', hw0⟩ := hr.cell hlt
  obtain ⟨k2, hk2, hlt2⟩ := inR_nat hb2
  obtain ⟨x2, hlt2', hw2⟩ := hr.cell hlt2
  have hrl := hr.blk.lt
  obtain ⟨A, c, hbk, -, -, -⟩ := h.iv
  have m6 : w.cell? ⟨X.b, 7, none⟩ = some (.map (some X.mb)) := hbk.cell 7
  have ml := hbk.lt
  have H1 := Lib.hid h
  have e : doM X.m r i s = if at0 r i.a < 0 ∨ (gAt X.m i.n).sz ≤ at0 r i.a then .er 2 3 s else .ok [0] { s with el := setEl s.el i.n (at0 r i.a) (wr (gAt X.m i.n).ty (at0 r i.b)) } := by unfold doM; rw [if_neg (by omega), if_neg (by omega), if_neg (by omega), if_neg (by omega), if_neg (by omega), if_pos hop]
  rw [e]
  have hnw := hi.1.n
  rw [hk] at c3 ⊢
  rw [hk2] at c4 ⊢
  obtain ⟨kl, hkl⟩ := eKey_some hnw hw0
  obtain ⟨n, D, hmp, hel, hn⟩ := h.mp
  generalize at0 r (k : Int) = v at *
  generalize at0 r (k2 : Int) = v2 at *
  generalize r.length = rn at *
  obtain ⟨j, hj, hjlt⟩ := inR_nat hb
  obtain ⟨gg, go, gc, hgv, hgg, -, -, hgx, hgc⟩ := h.mod.g.at hjlt
  have hggw : gg < w.heap.size := by have := h.bb; omega
  have m0 : w.cell? ⟨X.b, 0, none⟩ = some (.slice (some ⟨gg, go, none⟩) X.m.g.length gc) := by rw [← hgv]; exact hbk.cell 0
  have t0 : w.cell? ⟨gg, go + j * 4 + 1, none⟩ = some (.int .i64 (gAt X.m i.n).ty) := by rw [hj, gAt_lt hjlt]; exact hgc 1 _ rfl
  have hjlt' : (j : Int) < X.m.g.length := by omega
  have htw : iw (gAt X.m i.n).ty := by rw [hj, gAt_lt hjlt]; exact hgx.1
  obtain ⟨res, hres⟩ : ∃ res, wr (gAt X.m i.n).ty v2 = res := ⟨_, rfl⟩
  have hresw : iw res := by rw [← hres]; exact wr_iw _ _
  rw [hres]
  obtain ⟨M, hM⟩ : ∃ M, (if v < 0 ∨ (gAt X.m i.n).sz ≤ v then Rn.er 2 3 s else .ok [0] { s with el := setEl s.el i.n v res }) = M := ⟨_, rfl⟩
  have HM := Lib.hid hM
  rw [hM]
  have HEL : Hid (∀ W, Below w.heap.size w W → Calls Try.prog 59 #[.pointer (some ⟨X.b, 0, none⟩), .int .i64 j, .int .i64 v] W fun e w' => (M = .er 2 3 s ∧ e = PanE 2 3 ∧ Below w.heap.size w w') ∨ (M = .ok [0] { s with el := setEl s.el i.n v res } ∧ e = .returned (.agg #[.int .i64 j, .int .i64 v]) ∧ Below w.heap.size w w')) := Lib.hid fun W hW => by
    rw [← HM.out, ← hj]
    by_cases hc : v < 0 ∨ (gAt X.m i.n).sz ≤ v
    · rw [if_pos hc]
      exact (element_er (h.below hW) i.n v hb hc).mono fun e w' h => .inl ⟨rfl, h.1, hW.trans (h.2.mono hW.size)⟩
    · rw [if_neg hc]
      exact (element_ok (h.below hW) i.n v hb hc).mono fun e w' h => .inr ⟨rfl, h.1, hW.trans (h.2.mono hW.size)⟩
  have HWR : Hid (∀ W, Below w.heap.size w W → Calls Try.prog 54 #[.int .i64 (gAt X.m i.n).ty, .int .i64 v2] W fun e w' => e = .returned (.int .i64 res) ∧ Below w.heap.size w w') := Lib.hid fun W hW => by
    rw [← hres]
    exact (wrap_any _ _ W htw).mono fun e w' h => ⟨h.1, hW.trans (h.2.mono hW.size)⟩
  have HUP : Hid (∀ W, Below w.heap.size w W → ∃ w', (Instr.mapUpdate 70 (.map (some X.mb)) (.agg #[.int .i64 j, .int .i64 v]) (.int .i64 res)).run Try.prog W = .ok () w' ∧ (McV X 0 w' { s with el := setEl s.el i.n v res } ov ∧ Km X w ov w' ov) ∧ w.heap.size ≤ w'.heap.size ∧ ∀ i, i < w.heap.size → i ≠ X.mb → w'.heap[i]? = w.heap[i]?) := Lib.hid fun W hW => by
    have hcap := h.cap
    obtain ⟨w', hrun, h1, h2⟩ := (mapKeep hmp (hW.block _ hmp.lt)).update elKeyed Try.underlying70 (by unfold maxLen; omega) (key := .agg #[.int .i64 i.n, .int .i64 v]) (val := .int .i64 res) hkl (plainElem_int Try.underlying3 hresw)
    rw [hj] at hrun
    have := h.elem hel hn hresw hkl (isMap_of hmp) hW h1 h2
    exact ⟨w', hrun, this, Nat.le_trans hW.size h2.size, fun i hi hne => (h2.block i (Nat.lt_of_lt_of_le hi hW.size) (by simpa using hne)).trans (hW.block i hi)⟩
  rw [hj] at c5
  generalize (gAt X.m i.n).ty = ty at *
  generalize hs' : ({ s with el := setEl s.el i.n v res } : Mst) = s' at *
  clear hgv hgx hgc
  generalize X.m.g.length = gn at *
  have HNE : Hid (X.base ≤ X.mb ∧ g < X.base ∧ gg < X.base ∧ rb ≠ X.mb ∧ X.b ≠ X.mb) := Lib.hid ⟨H1.out.bb.2.2, hi.2.1, hgg, hr.ne.2.2, H1.out.ne.2.1⟩
  have HS : Hid (∀ Wx : World, w.heap.size ≤ Wx.heap.size → (∀ i, i < w.heap.size → i ≠ X.mb → Wx.heap[i]? = w.heap[i]?) → Wx.cell? ⟨g, p + 3, none⟩ = some (.int .i64 k) ∧ Wx.cell? ⟨g, p + 4, none⟩ = some (.int .i64 k2) ∧ Wx.cell? ⟨g, p + 5, none⟩ = some (.int .i64 j) ∧ Wx.cell? ⟨rb, k, none⟩ = some (.int .i64 v) ∧ Wx.cell? ⟨rb, k2, none⟩ = some (.int .i64 v2) ∧ Wx.cell? ⟨X.b, 7, none⟩ = some (.map (some X.mb)) ∧ Wx.cell? ⟨X.b, 0, none⟩ = some (.slice (some ⟨gg, go, none⟩) gn gc) ∧ Wx.cell? ⟨gg, go + j * 4 + 1, none⟩ = some (.int .i64 ty) ∧ g < Wx.heap.size ∧ rb < Wx.heap.size ∧ X.b < Wx.heap.size ∧ gg < Wx.heap.size) := Lib.hid fun Wx hz hk => by
    have hbb := HNE.out
    have h : ∀ {p : Addr}, p.block < w.heap.size → p.block ≠ X.mb → Wx.cell? p = w.cell? p := fun {p} h1 h2 => World.cell?_of_block (w := w) (hk p.block h1 h2)
    exact ⟨(h (p := ⟨g, p + 3, none⟩) hg (by simp only; omega)).trans c3, (h (p := ⟨g, p + 4, none⟩) hg (by simp only; omega)).trans c4, (h (p := ⟨g, p + 5, none⟩) hg (by simp only; omega)).trans c5, (h (p := ⟨rb, k, none⟩) hrl (by simp only; omega)).trans x0, (h (p := ⟨rb, k2, none⟩) hrl (by simp only; omega)).trans x2, (h (p := ⟨X.b, 7, none⟩) ml (by simp only; omega)).trans m6, (h (p := ⟨X.b, 0, none⟩) ml (by simp only; omega)).trans m0, (h (p := ⟨gg, go + j * 4 + 1, none⟩) hggw (by simp only; omega)).trans t0, by omega, by omega, by omega, by omega⟩
  have J0 : Below w.heap.size w w := Below.refl _ _
  clear h hi hop e ha hb hb2 hk hk2 hr hw0 hw2 hM HM hbk hnw hkl hmp hel hn hj hgg htw hres hresw hst hs'
  unfold mcp rgs
  go_enter Try.func44, Try.ntmps44
  go_wp2_with fail
  go_region_held2 (fun Wx => Wx.cell? ⟨g, p + 3, none⟩ = some (.int .i64 k) ∧ Wx.cell? ⟨g, p + 4, none⟩ = some (.int .i64 k2) ∧ Wx.cell? ⟨g, p + 5, none⟩ = some (.int .i64 j) ∧ Wx.cell? ⟨rb, k, none⟩ = some (.int .i64 v) ∧ Wx.cell? ⟨rb, k2, none⟩ = some (.int .i64 v2) ∧ Wx.cell? ⟨X.b, 7, none⟩ = some (.map (some X.mb)) ∧ Wx.cell? ⟨X.b, 0, none⟩ = some (.slice (some ⟨gg, go, none⟩) gn gc) ∧ Wx.cell? ⟨gg, go + j * 4 + 1, none⟩ = some (.int .i64 ty) ∧ g < Wx.heap.size ∧ rb < Wx.heap.size ∧ X.b < Wx.heap.size ∧ gg < Wx.heap.size)
    (first | exact ⟨c3, c4, c5, x0, x2, m6, m0, t0, hg, hrl, ml, hggw⟩ | exact HS.out _ K9.1 K9.2 | exact HS.out _ J1.size (fun i hi _ => J1.block i hi))
    (first
      | (go_at_call 59; (with_reducible refine Calls.mono (HEL.out _ (by first | exact J1 | exact J1.drew | exact J0.drew | exact J0)) ?_); intro e v1 hR; rcases hR with ⟨hm, rfl, J1⟩ | ⟨hm, rfl, J1⟩; (refine pan_end rfl ?_; rw [hm]; exact ⟨rfl, _, (H1.out.less (by omega)).below J1, .of J1⟩); have HM := Lib.hid hm; obtain ⟨w9, hrun, hq9, K9⟩ := HUP.out _ J1; have HQ := Lib.hid hq9; clear hm hq9)
      | (go_at_call 54; (with_reducible refine Calls.mono (HWR.out _ (by first | exact J1 | exact J1.drew | exact J0.drew | exact J0)) ?_); rintro e v1 ⟨rfl, J1⟩; obtain ⟨w9, hrun, hq9, K9⟩ := HUP.out _ J1; have HQ := Lib.hid hq9; clear hq9))
  all_goals
    go_wp2_with fail
    go_ret
    rw [HM.out]
    exact ⟨rfl, _, HQ.out.1, HQ.out.2⟩
end
end Go.Proofs.Ytgcjfbgfoiekmaa
