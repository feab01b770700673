/-
  Layer ir: the checker in memory; walks of the closures that tell what is required of a register's type.
-/
import Derived.Test.YtgcjfbgfoiekmaaIvb
namespace Go.Proofs.Ytgcjfbgfoiekmaa
open Go Go.RowKit
set_option linter.unusedVariables false
set_option linter.unusedSimpArgs false

abbrev tCp : TypeId := 74
theorem inR_nat {α : Type} {l : List α} {i : Int} (h : inR l i = true) : ∃ k : Nat, i = k ∧ k < l.length := by
  simp only [inR, Bool.and_eq_true, decide_eq_true_eq] at h
  exact ⟨i.toNat, by omega, by omega⟩
theorem at0_nat (l : List Int) (k : Nat) : at0 l (k : Int) = l.getD k 0 := rfl
theorem at0_lt {l : List Int} {k : Nat} (h : k < l.length) : at0 l (k : Int) = l[k] := by rw [at0_nat, List.getD_eq_getElem?_getD, List.getElem?_eq_getElem h]; rfl
theorem gAt_lt {m : Mdl} {k : Nat} (h : k < m.g.length) : gAt m (k : Int) = m.g[k] := by unfold gAt; rw [List.getD_eq_getElem?_getD, Int.toNat_natCast, List.getElem?_eq_getElem h]; rfl
theorem fAt_lt {m : Mdl} {k : Nat} (h : k < m.f.length) : fAt m (k : Int) = m.f[k] := by unfold fAt; rw [List.getD_eq_getElem?_getD, Int.toNat_natCast, List.getElem?_eq_getElem h]; rfl
/-- The checker of a function, in memory. -/
structure CkV (w : World) (b : Nat) (m : Mdl) (f : Cod) : Prop where
  x : ∃ gv fv rv bv, Blk w b tCk #[gv, fv, .string (str f.nm), .int .i64 f.ty, .int .i64 f.pr, rv, bv] ∧ IsM w w.heap.size gv fv m ∧ IsI w w.heap.size rv f.regs ∧ IsB w w.heap.size bv f.bl
theorem CkV.on {w w' : World} {b : Nat} {m : Mdl} {f : Cod} (h : CkV w b m f) (hb : Below w.heap.size w w') : CkV w' b m f := by
  obtain ⟨gv, fv, rv, bv, h1, h2, h3, h4⟩ := h.x
  exact ⟨gv, fv, rv, bv, (hb.block _ h1.lt).trans h1, h2.on hb, h3.on hb, h4.on hb⟩

theorem is1_any (t v : Int) (b : Nat) (w : World) (h : Blk w b tI1 #[.int .i64 v]) : Calls Try.prog 57 #[.int .i64 t, .pointer (some ⟨b, 0, none⟩)] w fun e w' => e = .returned (.bool (t == v)) ∧ Below w.heap.size w w' := by
  have c0 : w.cell? ⟨b, 0, none⟩ = some (.int .i64 v) := h.cell 0
  have cl := h.lt
  clear h
  go_enter Try.func57, Try.ntmps57
  go_wp2
  go_ret
  exact ⟨rfl, Below.refl _ _⟩
set_option maxHeartbeats 400000 in
theorem copy1_any (t : Int) (m : Mdl) (f : Cod) (i : Ins) (av : Value) (cb b2 b3 : Nat) (w : World) (hr : inR f.regs i.a = true) (hc : CkV w cb m f) (h2 : Blk w b2 tCp #[.pointer (some ⟨cb, 0, none⟩)]) (h3 : Blk w b3 tIn (insA i av)) :
    Calls Try.prog 48 #[.int .i64 t, .pointer (some ⟨b2, 0, none⟩), .pointer (some ⟨b3, 0, none⟩)] w fun e w' => e = .returned (.bool (t == at0 f.regs i.a)) ∧ Below w.heap.size w w' := by
  obtain ⟨gv, fv, rv, bv, hb, -, hri, -⟩ := hc.x
  obtain ⟨k, hk, hlt⟩ := inR_nat hr
  obtain ⟨g, o, c, rfl, hg, hlc, hcm, hx, -⟩ := hri.at hlt
  have i3 : w.cell? ⟨b3, 3, none⟩ = some (.int .i64 k) := by rw [← hk]; exact h3.cell 3
  have il := h3.lt
  have c0 : w.cell? ⟨b2, 0, none⟩ = some (.pointer (some ⟨cb, 0, none⟩)) := h2.cell 0
  have cl := h2.lt
  have k5 : w.cell? ⟨cb, 5, none⟩ = some (.slice (some ⟨g, o, none⟩) f.regs.length c) := hb.cell 5
  have kl := hb.lt
  rw [hk, at0_lt hlt]
  generalize f.regs[k] = v at *
  have hx' : w.cell? ⟨g, o + k, none⟩ = some (.int .i64 v) := by simpa using hx
  have hlt' : (k : Int) < f.regs.length := by omega
  clear hc hb hri hr hk h2 h3 hx
  go_enter Try.func48, Try.ntmps48
  go_wp2
  go_quiet (fail)
  go_wp2
  go_ret
  exact ⟨rfl, below_drewN _ _ _⟩
set_option maxHeartbeats 400000 in
theorem elem1_any (t n : Int) (m : Mdl) (f : Cod) (cb b2 b3 : Nat) (w : World) (hr : inR m.g n = true) (hc : CkV w cb m f) (h2 : Blk w b2 tCp #[.pointer (some ⟨cb, 0, none⟩)]) (h3 : Blk w b3 tI1 #[.int .i64 n]) :
    Calls Try.prog 63 #[.int .i64 t, .pointer (some ⟨b2, 0, none⟩), .pointer (some ⟨b3, 0, none⟩)] w fun e w' => e = .returned (.bool (t == held (gAt m n).ty)) ∧ Below w.heap.size w w' := by
  obtain ⟨gv, fv, rv, bv, hb, hm, -, -⟩ := hc.x
  obtain ⟨k, rfl, hlt⟩ := inR_nat hr
  obtain ⟨g, o, c, rfl, hg, hlc, hcm, -, hx⟩ := hm.g.at hlt
  have i3 : w.cell? ⟨b3, 0, none⟩ = some (.int .i64 k) := h3.cell 0
  have il := h3.lt
  have c0 : w.cell? ⟨b2, 0, none⟩ = some (.pointer (some ⟨cb, 0, none⟩)) := h2.cell 0
  have cl := h2.lt
  have k0 : w.cell? ⟨cb, 0, none⟩ = some (.slice (some ⟨g, o, none⟩) m.g.length c) := hb.cell 0
  have kl := hb.lt
  rw [gAt_lt hlt]
  have hx' : w.cell? ⟨g, o + k * 4 + 1, none⟩ = some (.int .i64 m.g[k].ty) := hx 1 _ rfl
  generalize m.g[k].ty = v at *
  have hlt' : (k : Int) < m.g.length := by omega
  clear hc hb hm hr h2 h3 hx
  go_enter Try.func63, Try.ntmps63
  go_wp2
  go_quiet ((go_at_call 50; exact Calls.quiet_of_same ((held_any _ _).mono fun _ _ h => ⟨h.1, h.2.symm⟩)))
  go_wp2
  go_ret
  exact ⟨rfl, below_drewN _ _ _⟩
set_option maxHeartbeats 400000 in
theorem scal1_any (t n : Int) (m : Mdl) (f : Cod) (cb b2 b3 : Nat) (w : World) (hr : inR m.g n = true) (hc : CkV w cb m f) (h2 : Blk w b2 tCp #[.pointer (some ⟨cb, 0, none⟩)]) (h3 : Blk w b3 tI1 #[.int .i64 n]) :
    Calls Try.prog 64 #[.int .i64 t, .pointer (some ⟨b2, 0, none⟩), .pointer (some ⟨b3, 0, none⟩)] w fun e w' => e = .returned (.bool (t == (gAt m n).ty)) ∧ Below w.heap.size w w' := by
  obtain ⟨gv, fv, rv, bv, hb, hm, -, -⟩ := hc.x
  obtain ⟨k, rfl, hlt⟩ := inR_nat hr
  obtain ⟨g, o, c, rfl, hg, hlc, hcm, -, hx⟩ := hm.g.at hlt
  have i3 : w.cell? ⟨b3, 0, none⟩ = some (.int .i64 k) := h3.cell 0
  have il := h3.lt
  have c0 : w.cell? ⟨b2, 0, none⟩ = some (.pointer (some ⟨cb, 0, none⟩)) := h2.cell 0
  have cl := h2.lt
  have k0 : w.cell? ⟨cb, 0, none⟩ = some (.slice (some ⟨g, o, none⟩) m.g.length c) := hb.cell 0
  have kl := hb.lt
  rw [gAt_lt hlt]
  have hx' : w.cell? ⟨g, o + k * 4 + 1, none⟩ = some (.int .i64 m.g[k].ty) := hx 1 _ rfl
  generalize m.g[k].ty = v at *
  have hlt' : (k : Int) < m.g.length := by omega
  clear hc hb hm hr h2 h3 hx
  go_enter Try.func64, Try.ntmps64
  go_wp2
  go_quiet (fail)
  go_wp2
  go_ret
  exact ⟨rfl, below_drewN _ _ _⟩
set_option maxHeartbeats 400000 in
theorem call2_any (t : Int) (m : Mdl) (f : Cod) (i : Ins) (av : Value) (cb b2 b3 : Nat) (w : World) (hr : inR m.f i.n = true) (hc : CkV w cb m f) (h2 : Blk w b2 tCp #[.pointer (some ⟨cb, 0, none⟩)]) (h3 : Blk w b3 tIn (insA i av)) :
    Calls Try.prog 66 #[.int .i64 t, .pointer (some ⟨b2, 0, none⟩), .pointer (some ⟨b3, 0, none⟩)] w fun e w' => e = .returned (.bool (t == (fAt m i.n).ty)) ∧ Below w.heap.size w w' := by
  obtain ⟨gv, fv, rv, bv, hb, hm, -, -⟩ := hc.x
  obtain ⟨k, hk, hlt⟩ := inR_nat hr
  obtain ⟨g, o, c, rfl, hg, hlc, hcm, -, rv', bv', -, -, hx⟩ := hm.f.at hlt
  have i3 : w.cell? ⟨b3, 5, none⟩ = some (.int .i64 k) := by rw [← hk]; exact h3.cell 5
  have il := h3.lt
  have c0 : w.cell? ⟨b2, 0, none⟩ = some (.pointer (some ⟨cb, 0, none⟩)) := h2.cell 0
  have cl := h2.lt
  have k0 : w.cell? ⟨cb, 1, none⟩ = some (.slice (some ⟨g, o, none⟩) m.f.length c) := hb.cell 1
  have kl := hb.lt
  rw [hk, fAt_lt hlt]
  have hx' : w.cell? ⟨g, o + k * 5 + 1, none⟩ = some (.int .i64 m.f[k].ty) := hx 1 _ rfl
  generalize m.f[k].ty = v at *
  have hlt' : (k : Int) < m.f.length := by omega
  clear hc hb hm hr h2 h3 hx hk
  go_enter Try.func66, Try.ntmps66
  go_wp2
  go_quiet (fail)
  go_wp2
  go_ret
  exact ⟨rfl, below_drewN _ _ _⟩
set_option maxHeartbeats 400000 in
theorem call1_any (t : Int) (m : Mdl) (f : Cod) (i : Ins) (av : Value) (cb b2 b3 b4 j : Nat) (w : World) (hr : inR m.f i.n = true) (hj : j < (fAt m i.n).regs.length) (hc : CkV w cb m f) (h2 : Blk w b2 tCp #[.pointer (some ⟨cb, 0, none⟩)]) (h3 : Blk w b3 tIn (insA i av)) (h4 : Blk w b4 tI1 #[.int .i64 j]) :
    Calls Try.prog 65 #[.int .i64 t, .pointer (some ⟨b2, 0, none⟩), .pointer (some ⟨b3, 0, none⟩), .pointer (some ⟨b4, 0, none⟩)] w fun e w' => e = .returned (.bool (t == at0 (fAt m i.n).regs j)) ∧ Below w.heap.size w w' := by
  obtain ⟨gv, fv, rv, bv, hb, hm, -, -⟩ := hc.x
  obtain ⟨k, hk, hlt⟩ := inR_nat hr
  obtain ⟨g, o, c, rfl, hg, hlc, hcm, -, rv', bv', hri, -, hx⟩ := hm.f.at hlt
  rw [hk, fAt_lt hlt] at hj ⊢
  obtain ⟨g2, o2, c2, rfl, hg2, hlc2, hcm2, hy, -⟩ := hri.at hj
  have i3 : w.cell? ⟨b3, 5, none⟩ = some (.int .i64 k) := by rw [← hk]; exact h3.cell 5
  have il := h3.lt
  have c0 : w.cell? ⟨b2, 0, none⟩ = some (.pointer (some ⟨cb, 0, none⟩)) := h2.cell 0
  have cl := h2.lt
  have j0 : w.cell? ⟨b4, 0, none⟩ = some (.int .i64 j) := h4.cell 0
  have jl := h4.lt
  have k0 : w.cell? ⟨cb, 1, none⟩ = some (.slice (some ⟨g, o, none⟩) m.f.length c) := hb.cell 1
  have kl := hb.lt
  have hx' : w.cell? ⟨g, o + k * 5 + 3, none⟩ = some (.slice (some ⟨g2, o2, none⟩) m.f[k].regs.length c2) := hx 3 _ rfl
  rw [at0_lt hj]
  have hy' : w.cell? ⟨g2, o2 + j, none⟩ = some (.int .i64 m.f[k].regs[j]) := by simpa using hy
  have hj' : (j : Int) < m.f[k].regs.length := by omega
  generalize m.f[k].regs[j] = v at *
  generalize m.f[k].regs.length = rl at *
  have hlt' : (k : Int) < m.f.length := by omega
  clear hc hb hm hr h2 h3 h4 hx hk hri hy
  go_enter Try.func65, Try.ntmps65
  go_wp2
  go_quiet (fail)
  go_wp2
  go_ret
  exact ⟨rfl, below_drewN _ _ _⟩

/-! a list of needs in memory -/
/-- Which closures there are. -/
def NeedK (k : Nat) (caps : Array Value) : Prop := (k = 18 ∧ caps = #[]) ∨ (∃ a, k = 57 ∧ caps = #[a]) ∨ (∃ a b, k = 48 ∧ caps = #[a, b]) ∨ (∃ a b, k = 63 ∧ caps = #[a, b]) ∨
  (∃ a b, k = 64 ∧ caps = #[a, b]) ∨ (∃ a b, k = 66 ∧ caps = #[a, b]) ∨ ∃ a b c, k = 65 ∧ caps = #[a, b, c]
def NeedV (w : World) (ok : Prop) (fv : Value) (p : Int → Bool) : Prop := ∃ k caps, fv = .func (.func k) #[] caps ∧ NeedK k caps ∧ (ok → ∀ W, Below w.heap.size w W → ∀ t, Calls Try.prog k (#[.int .i64 t] ++ caps) W fun e w' => e = .returned (.bool (p t)) ∧ Below W.heap.size W w')
theorem NeedV.on {w w' : World} {ok : Prop} {fv : Value} {p : Int → Bool} (h : NeedV w ok fv p) (hb : Below w.heap.size w w') : NeedV w' ok fv p := by
  obtain ⟨k, caps, h1, h2, h3⟩ := h
  exact ⟨k, caps, h1, h2, fun ho W hW => h3 ho W (hb.trans (hW.mono hb.size))⟩
theorem NeedV.imp {w : World} {ok ok' : Prop} {fv : Value} {p : Int → Bool} (h : NeedV w ok fv p) (ho : ok' → ok) : NeedV w ok' fv p := by
  obtain ⟨k, caps, h1, h2, h3⟩ := h
  exact ⟨k, caps, h1, h2, fun h => h3 (ho h)⟩
theorem need_isV (w : World) (ok : Prop) : NeedV w ok (.func (.func 18) #[] #[]) isV :=
  ⟨_, _, rfl, .inl ⟨rfl, rfl⟩, fun _ W _ t => (isValue_any t W).mono fun e w' h => ⟨h.1, by rw [← h.2]; exact Below.refl _ _⟩⟩
theorem need_is (w : World) (ok : Prop) (b : Nat) (v : Int) (h : Blk w b tI1 #[.int .i64 v]) : NeedV w ok (.func (.func 57) #[] #[.pointer (some ⟨b, 0, none⟩)]) (fun t => t == v) :=
  ⟨_, _, rfl, .inr (.inl ⟨_, rfl, rfl⟩), fun _ W hW t => is1_any t v b W (h.on hW)⟩
theorem need_copy (w : World) (m : Mdl) (f : Cod) (i : Ins) (av : Value) (cb b2 b3 : Nat) (hc : CkV w cb m f) (h2 : Blk w b2 tCp #[.pointer (some ⟨cb, 0, none⟩)]) (h3 : Blk w b3 tIn (insA i av)) :
    NeedV w (inR f.regs i.a = true) (.func (.func 48) #[] #[.pointer (some ⟨b2, 0, none⟩), .pointer (some ⟨b3, 0, none⟩)]) (fun t => t == at0 f.regs i.a) :=
  ⟨_, _, rfl, .inr (.inr (.inl ⟨_, _, rfl, rfl⟩)), fun ho W hW t => copy1_any t m f i av cb b2 b3 W ho (hc.on hW) (h2.on hW) (h3.on hW)⟩
theorem need_elem (w : World) (m : Mdl) (f : Cod) (n : Int) (cb b2 b3 : Nat) (hc : CkV w cb m f) (h2 : Blk w b2 tCp #[.pointer (some ⟨cb, 0, none⟩)]) (h3 : Blk w b3 tI1 #[.int .i64 n]) :
    NeedV w (inR m.g n = true) (.func (.func 63) #[] #[.pointer (some ⟨b2, 0, none⟩), .pointer (some ⟨b3, 0, none⟩)]) (fun t => t == held (gAt m n).ty) :=
  ⟨_, _, rfl, .inr (.inr (.inr (.inl ⟨_, _, rfl, rfl⟩))), fun ho W hW t => elem1_any t n m f cb b2 b3 W ho (hc.on hW) (h2.on hW) (h3.on hW)⟩
theorem need_scal (w : World) (m : Mdl) (f : Cod) (n : Int) (cb b2 b3 : Nat) (hc : CkV w cb m f) (h2 : Blk w b2 tCp #[.pointer (some ⟨cb, 0, none⟩)]) (h3 : Blk w b3 tI1 #[.int .i64 n]) :
    NeedV w (inR m.g n = true) (.func (.func 64) #[] #[.pointer (some ⟨b2, 0, none⟩), .pointer (some ⟨b3, 0, none⟩)]) (fun t => t == (gAt m n).ty) :=
  ⟨_, _, rfl, .inr (.inr (.inr (.inr (.inl ⟨_, _, rfl, rfl⟩)))), fun ho W hW t => scal1_any t n m f cb b2 b3 W ho (hc.on hW) (h2.on hW) (h3.on hW)⟩
theorem need_call2 (w : World) (m : Mdl) (f : Cod) (i : Ins) (av : Value) (cb b2 b3 : Nat) (hc : CkV w cb m f) (h2 : Blk w b2 tCp #[.pointer (some ⟨cb, 0, none⟩)]) (h3 : Blk w b3 tIn (insA i av)) :
    NeedV w (inR m.f i.n = true) (.func (.func 66) #[] #[.pointer (some ⟨b2, 0, none⟩), .pointer (some ⟨b3, 0, none⟩)]) (fun t => t == (fAt m i.n).ty) :=
  ⟨_, _, rfl, .inr (.inr (.inr (.inr (.inr (.inl ⟨_, _, rfl, rfl⟩))))), fun ho W hW t => call2_any t m f i av cb b2 b3 W ho (hc.on hW) (h2.on hW) (h3.on hW)⟩
theorem need_call1 (w : World) (m : Mdl) (f : Cod) (i : Ins) (av : Value) (cb b2 b3 b4 j : Nat) (hc : CkV w cb m f) (h2 : Blk w b2 tCp #[.pointer (some ⟨cb, 0, none⟩)]) (h3 : Blk w b3 tIn (insA i av)) (h4 : Blk w b4 tI1 #[.int .i64 j]) :
    NeedV w (inR m.f i.n = true ∧ j < (fAt m i.n).regs.length) (.func (.func 65) #[] #[.pointer (some ⟨b2, 0, none⟩), .pointer (some ⟨b3, 0, none⟩), .pointer (some ⟨b4, 0, none⟩)]) (fun t => t == at0 (fAt m i.n).regs j) :=
  ⟨_, _, rfl, .inr (.inr (.inr (.inr (.inr (.inr ⟨_, _, _, rfl, rfl⟩))))), fun ho W hW t => call1_any t m f i av cb b2 b3 b4 j W ho.1 ho.2 (hc.on hW) (h2.on hW) (h3.on hW) (h4.on hW)⟩
/-- A list of needs as it is read. -/
def IsNd (w : World) (ok : Prop) (v : Value) (l : List (Int × (Int → Bool))) : Prop := IsL w w.heap.size 2 v l fun x cell => cell 0 = some (.int .i64 x.1) ∧ ∃ fv, cell 1 = some fv ∧ NeedV w ok fv x.2
theorem IsNd.on {w w' : World} {ok : Prop} {v : Value} {l : List (Int × (Int → Bool))} (h : IsNd w ok v l) (hb : Below w.heap.size w w') : IsNd w' ok v l :=
  IsL.more (IsL.keep h hb fun x c c' k hp => by
    obtain ⟨h0, fv, h1, h2⟩ := hp
    exact ⟨(k 0 (some_ne h0)).trans h0, fv, (k 1 (some_ne h1)).trans h1, h2.on hb⟩) hb.size fun _ _ h => h
end Go.Proofs.Ytgcjfbgfoiekmaa
