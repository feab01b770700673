/-
  Layer ir: an instruction is run: constants, copies, conversions, scalars, input; keys of elements.
-/
import Derived.Test.YtgcjfbgfoiekmaaIvq
namespace Go.Proofs.Ytgcjfbgfoiekmaa
open Go Go.RowKit Go.Maps
set_option linter.unusedVariables false
set_option linter.unusedSimpArgs false

theorem elKt : Try.prog.keyType tEl = true := by kernel_rfl
theorem elSz : Try.prog.types.size = Try.prog.types.size - 1 + 1 := by kernel_rfl
theorem eKey_some {a i : Int} (ha : iw a) (hi : iw i) : ∃ kl, eKey a i = some kl := by
  refine ⟨.string (keyBytes [.int .i64 a, .int .i64 i]), ?_⟩
  have hu := Try.underlying103
  have hI := Try.underlying3
  have hc : Try.prog.cellsOf tEl = 2 := by kernel_rfl
  have hc1 : Try.prog.cellsOf 3 = 1 := by kernel_rfl
  have ha' : (Lit.int .i64 a).wf = true := ha
  have hi' : (Lit.int .i64 i).wf = true := hi
  unfold eKey keyOf
  simp only [hu]
  rw [if_pos (by simp [elKt, Value.formed, hu, hc]), elSz]
  generalize Try.prog.types.size - 1 = m
  unfold Program.keyLits
  simp only [hu, Value.cells]
  rw [if_pos ⟨by rw [hc]; rfl, by kernel_rfl⟩]
  simp [Program.keyLits, hI, hc1, ha', hi']
theorem eKey_ne {a i b j : Int} {k l : Lit} (h : eKey a i = some k) (h2 : eKey b j = some l) (hne : ¬ (a = b ∧ i = j)) : k ≠ l := by
  rintro rfl
  have := elKeyed.inj h h2
  simp at this
  exact hne this

theorem McV.less {X : Mc} {k k' : Int} {w : World} {s : Mst} {ov : Value} (h : McV X k w s ov) (hk : k' ≤ k) : McV X k' w s ov :=
  { h with mp := (by obtain ⟨n, D, a, b, c⟩ := h.mp; exact ⟨n, D, a, b, by omega⟩), bnd := (by have := h.bnd; omega) }
/-- An instruction at a place of memory. -/
def InA (w : World) (B g p : Nat) (i : Ins) (av : Value) : Prop := i.w ∧ g < B ∧ ∀ j y, (insC i av)[j]? = some y → w.cell? ⟨g, p + j, none⟩ = some y
theorem InA.below {w w' : World} {B g p : Nat} {i : Ins} {av : Value} (h : InA w B g p i av) (hb : Below B w w') : InA w' B g p i av :=
  ⟨h.1, h.2.1, fun j y hj => (hb.cell (p := ⟨g, p + j, none⟩) h.2.1).trans (h.2.2 j y hj)⟩
abbrev en1 : List Int → Value := fun l => .int .i64 (l.getD 0 0)
section
variable {X : Mc} {w : World} {s : Mst} {ov : Value} {rb : Nat} {r : List Int} {i : Ins} {av : Value} {g p : Nat}
set_option maxHeartbeats 400000 in
set_option maxRecDepth 100000 in
theorem do1_any (h : McV X 1 w s ov) (hi : InA w X.base g p i av) (hop : i.op = 1) :
    Calls Try.prog 44 #[mcp X, rgs rb r.length, .pointer (some ⟨g, p, none⟩)] w (RnP X 0 w ov en1 (doM X.m r i s)) := by
  have e : doM X.m r i s = .ok [i.n] s := by unfold doM; rw [if_pos hop]
  rw [e]
  have c0 : w.cell? ⟨g, p, none⟩ = some (.int .i64 1) := by rw [← hop]; exact hi.2.2 0 _ rfl
  have c5 : w.cell? ⟨g, p + 5, none⟩ = some (.int .i64 i.n) := hi.2.2 5 _ rfl
  have hg := World.block_lt_of_cell? w _ c0
  simp only at hg
  have H1 := Lib.hid (h.less (k' := 0) (by omega))
  generalize i.n = n at *
  generalize r.length = rn at *
  clear h hi hop e
  unfold mcp rgs
  go_enter Try.func44, Try.ntmps44
  go_wp2_with fail
  go_ret
  exact ⟨rfl, _, H1.out, .refl _ _ _⟩
set_option maxHeartbeats 400000 in
set_option maxRecDepth 100000 in
theorem do2_any (h : McV X 1 w s ov) (hr : RgV X w rb r ov) (hi : InA w X.base g p i av) (hop : i.op = 2) (ha : inR r i.a = true) :
    Calls Try.prog 44 #[mcp X, rgs rb r.length, .pointer (some ⟨g, p, none⟩)] w (RnP X 0 w ov en1 (doM X.m r i s)) := by
  have e : doM X.m r i s = .ok [at0 r i.a] s := by unfold doM; rw [if_neg (by omega), if_pos hop]
  rw [e]
  have c0 : w.cell? ⟨g, p, none⟩ = some (.int .i64 2) := by rw [← hop]; exact hi.2.2 0 _ rfl
  have c3 : w.cell? ⟨g, p + 3, none⟩ = some (.int .i64 i.a) := hi.2.2 3 _ rfl
  have hg := World.block_lt_of_cell? w _ c0
  simp only at hg
  obtain ⟨k, hk, hlt⟩ := inR_nat ha
  obtain ⟨x0, hlt', -⟩ := hr.cell hlt
  have hrl := hr.blk.lt
  rw [hk] at c3 ⊢
  have H1 := Lib.hid (h.less (k' := 0) (by omega))
  generalize at0 r (k : Int) = v at *
  generalize r.length = rn at *
  clear h hi hop e ha hk hr
  unfold mcp rgs
  go_enter Try.func44, Try.ntmps44
  go_wp2_with fail
  go_ret
  exact ⟨rfl, _, H1.out, .refl _ _ _⟩
set_option maxHeartbeats 400000 in
set_option maxRecDepth 100000 in
theorem do7_any (h : McV X 1 w s ov) (hi : InA w X.base g p i av) (hop : i.op = 7) (ha : inR X.m.g i.n = true) :
    Calls Try.prog 44 #[mcp X, rgs rb r.length, .pointer (some ⟨g, p, none⟩)] w (RnP X 0 w ov en1 (doM X.m r i s)) := by
  have e : doM X.m r i s = .ok [at0 s.sc i.n] s := by unfold doM; rw [if_neg (by omega), if_neg (by omega), if_neg (by omega), if_neg (by omega), if_neg (by omega), if_neg (by omega), if_pos hop]
  rw [e]
  have c0 : w.cell? ⟨g, p, none⟩ = some (.int .i64 7) := by rw [← hop]; exact hi.2.2 0 _ rfl
  have c5 : w.cell? ⟨g, p + 5, none⟩ = some (.int .i64 i.n) := hi.2.2 5 _ rfl
  have hg := World.block_lt_of_cell? w _ c0
  simp only at hg
  obtain ⟨k, hk, hlt⟩ := inR_nat ha
  obtain ⟨A, c, hb, -, -, -⟩ := h.iv
  have m5 : w.cell? ⟨X.b, 6, none⟩ = some (.slice (some ⟨X.sb, 0, none⟩) X.m.g.length X.m.g.length) := hb.cell 6
  have ml := hb.lt
  have hlt' : (k : Int) < X.m.g.length := by omega
  have hls : k < s.sc.length := by rw [h.scl]; exact hlt
  have x0 : w.cell? ⟨X.sb, k, none⟩ = some (.int .i64 (at0 s.sc k)) := by
    rw [at0_lt hls]
    have := h.sc.cell k
    simpa [List.getElem?_eq_getElem hls] using this
  have sl := h.sc.lt
  rw [hk] at c5 ⊢
  have H1 := Lib.hid (h.less (k' := 0) (by omega))
  generalize at0 s.sc (k : Int) = v at *
  generalize X.m.g.length = gn at *
  generalize r.length = rn at *
  clear h hi hop e ha hk hb hls
  unfold mcp rgs
  go_enter Try.func44, Try.ntmps44
  go_wp2_with fail
  go_quiet (fail)
  go_wp2_with fail
  go_ret
  exact ⟨rfl, _, H1.out.below (below_drewN _ _ _), .of (below_drewN _ _ _)⟩
set_option maxHeartbeats 400000 in
set_option maxRecDepth 100000 in
theorem do10_any (h : McV X 1 w s ov) (hi : InA w X.base g p i av) (hop : i.op = 10) :
    Calls Try.prog 44 #[mcp X, rgs rb r.length, .pointer (some ⟨g, p, none⟩)] w (RnP X 0 w ov en1 (doM X.m r i s)) := by
  have e : doM X.m r i s = .ok [s.inp.getD 0 0] { s with inp := s.inp.tail } := by unfold doM; rw [if_neg (by omega), if_neg (by omega), if_neg (by omega), if_neg (by omega), if_neg (by omega), if_neg (by omega), if_neg (by omega), if_neg (by omega), if_pos hop]
  rw [e]
  have c0 : w.cell? ⟨g, p, none⟩ = some (.int .i64 10) := by rw [← hop]; exact hi.2.2 0 _ rfl
  have hg := World.block_lt_of_cell? w _ c0
  simp only at hg
  have HR := Lib.hid (read_any (h.less (k' := 0) (by omega)))
  generalize r.length = rn at *
  clear h hi hop e
  unfold crp at HR
  unfold mcp rgs
  go_enter Try.func44, Try.ntmps44
  go_wp2_with fail
  refine HR.out.mono ?_
  clear HR
  rintro e w1 ⟨rfl, ov', h1, k1⟩
  have H1 := Lib.hid (And.intro h1 k1)
  clear h1 k1
  go_wp2_with fail
  go_ret
  exact ⟨rfl, _, H1.out.1, H1.out.2⟩
end
end Go.Proofs.Ytgcjfbgfoiekmaa
