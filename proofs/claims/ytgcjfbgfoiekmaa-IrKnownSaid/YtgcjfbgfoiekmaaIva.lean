/-
  Layer ir: modules in memory as they are read; modules that came in.
-/
import Derived.Test.YtgcjfbgfoiekmaaIrm
import Derived.Test.YtgcjfbgfoiekmaaProg
import Derived.Test.YtgcjfbgfoiekmaaCm
import Derived.WalkKit
import Derived.Lib.Hide
import Derived.Below
import Derived.Deep.Slices
namespace Go.Proofs.Ytgcjfbgfoiekmaa
open Go Go.ChangeShapes Go.WideShapes Go.RowKit
set_option linter.unusedVariables false
set_option linter.unusedSimpArgs false

def iw (x : Int) : Prop := (Lit.int .i64 x).wf = true
structure Ins.w (i : Ins) : Prop where
  op : iw i.op
  ty : iw i.ty
  dst : iw i.dst
  a : iw i.a
  b : iw i.b
  n : iw i.n
structure Eb.w (e : Eb) : Prop where
  k : iw e.k
  a : iw e.a
  to : iw e.to
  el : iw e.el
/-- The cells of an instruction; of a block; of a function; of a global. -/
def insC (i : Ins) (av : Value) : List Value := [.int .i64 i.op, .int .i64 i.ty, .int .i64 i.dst, .int .i64 i.a, .int .i64 i.b, .int .i64 i.n, .string (str i.s), av]
def bloC (b : Blo) (cv : Value) : List Value := [cv, .int .i64 b.e.k, .int .i64 b.e.a, .int .i64 b.e.to, .int .i64 b.e.el]
def codC (c : Cod) (rv bv : Value) : List Value := [.string (str c.nm), .int .i64 c.ty, .int .i64 c.pr, rv, bv]
def gloC (g : Glo) : List Value := [.string (str g.nm), .int .i64 g.ty, .int .i64 g.sz, .int .i64 g.at_]
/-- A slice that is read at each place of a list. -/
def IsL {α : Type} (w : World) (B n : Nat) (v : Value) (l : List α) (p : α → (Nat → Option Value) → Prop) : Prop :=
  ∃ A c, v = .slice A l.length c ∧ l.length ≤ c ∧ c ≤ maxLen ∧ (A = none → c = 0) ∧ (l = [] ∨ ∃ g o, A = some ⟨g, o, none⟩ ∧ g < B ∧ ∀ i x, l[i]? = some x → p x fun j => w.cell? ⟨g, o + i * n + j, none⟩)
def IsI (w : World) (B : Nat) (v : Value) (l : List Int) : Prop := IsL w B 1 v l fun x cell => cell 0 = some (.int .i64 x) ∧ iw x
def InsV (w : World) (B : Nat) (x : Ins) (cell : Nat → Option Value) : Prop := x.w ∧ ∃ av, IsI w B av x.args ∧ ∀ j y, (insC x av)[j]? = some y → cell j = some y
def IsN (w : World) (B : Nat) (v : Value) (l : List Ins) : Prop := IsL w B 8 v l (InsV w B)
def BloV (w : World) (B : Nat) (x : Blo) (cell : Nat → Option Value) : Prop := x.e.w ∧ ∃ cv, IsN w B cv x.code ∧ ∀ j y, (bloC x cv)[j]? = some y → cell j = some y
def IsB (w : World) (B : Nat) (v : Value) (l : List Blo) : Prop := IsL w B 5 v l (BloV w B)
def CodV (w : World) (B : Nat) (x : Cod) (cell : Nat → Option Value) : Prop := (iw x.ty ∧ iw x.pr) ∧ ∃ rv bv, IsI w B rv x.regs ∧ IsB w B bv x.bl ∧ ∀ j y, (codC x rv bv)[j]? = some y → cell j = some y
def IsF (w : World) (B : Nat) (v : Value) (l : List Cod) : Prop := IsL w B 5 v l (CodV w B)
def GloV (x : Glo) (cell : Nat → Option Value) : Prop := (iw x.ty ∧ iw x.sz ∧ iw x.at_) ∧ ∀ j y, (gloC x)[j]? = some y → cell j = some y
def IsG (w : World) (B : Nat) (v : Value) (l : List Glo) : Prop := IsL w B 4 v l GloV
/-- A module as it is read. -/
structure IsM (w : World) (B : Nat) (gv fv : Value) (m : Mdl) : Prop where
  g : IsG w B gv m.g
  f : IsF w B fv m.f

section
variable {w w' : World} {B : Nat}
theorem IsL.keep {α : Type} {n : Nat} {v : Value} {l : List α} {p p' : α → (Nat → Option Value) → Prop} (h : IsL w B n v l p) (hb : Below B w w') (k : ∀ x c c', (∀ j, c j ≠ none → c' j = c j) → p x c → p' x c') : IsL w' B n v l p' := by
  obtain ⟨A, c, h1, h2, h3, h4, h5⟩ := h
  refine ⟨A, c, h1, h2, h3, h4, h5.imp id ?_⟩
  rintro ⟨g, o, e, hg, hx⟩
  exact ⟨g, o, e, hg, fun i x hi => k x _ _ (fun j _ => hb.cell (p := ⟨g, o + i * n + j, none⟩) hg) (hx i x hi)⟩
theorem some_ne {c : Nat → Option Value} {j : Nat} {y : Value} (h : c j = some y) : c j ≠ none := by rw [h]; simp
theorem IsI.below {v : Value} {l : List Int} (h : IsI w B v l) (hb : Below B w w') : IsI w' B v l := IsL.keep h hb fun x c c' k hp => ⟨(k 0 (some_ne hp.1)).trans hp.1, hp.2⟩
theorem InsV.below {x : Ins} {c c' : Nat → Option Value} (h : InsV w B x c) (hb : Below B w w') (k : ∀ j, c j ≠ none → c' j = c j) : InsV w' B x c' := by
  obtain ⟨h1, av, h2, h3⟩ := h
  exact ⟨h1, av, h2.below hb, fun j y hj => (k j (some_ne (h3 j y hj))).trans (h3 j y hj)⟩
theorem IsN.below {v : Value} {l : List Ins} (h : IsN w B v l) (hb : Below B w w') : IsN w' B v l := IsL.keep h hb fun x c c' k hp => hp.below hb k
theorem BloV.below {x : Blo} {c c' : Nat → Option Value} (h : BloV w B x c) (hb : Below B w w') (k : ∀ j, c j ≠ none → c' j = c j) : BloV w' B x c' := by
  obtain ⟨h1, cv, h2, h3⟩ := h
  exact ⟨h1, cv, h2.below hb, fun j y hj => (k j (some_ne (h3 j y hj))).trans (h3 j y hj)⟩
theorem IsB.below {v : Value} {l : List Blo} (h : IsB w B v l) (hb : Below B w w') : IsB w' B v l := IsL.keep h hb fun x c c' k hp => hp.below hb k
theorem CodV.below {x : Cod} {c c' : Nat → Option Value} (h : CodV w B x c) (hb : Below B w w') (k : ∀ j, c j ≠ none → c' j = c j) : CodV w' B x c' := by
  obtain ⟨h1, rv, bv, h2, h4, h3⟩ := h
  exact ⟨h1, rv, bv, h2.below hb, h4.below hb, fun j y hj => (k j (some_ne (h3 j y hj))).trans (h3 j y hj)⟩
theorem IsF.below {v : Value} {l : List Cod} (h : IsF w B v l) (hb : Below B w w') : IsF w' B v l := IsL.keep h hb fun x c c' k hp => hp.below hb k
theorem IsG.below {v : Value} {l : List Glo} (h : IsG w B v l) (hb : Below B w w') : IsG w' B v l := IsL.keep h hb fun x c c' k hp => ⟨hp.1, fun j y hj => (k j (some_ne (hp.2 j y hj))).trans (hp.2 j y hj)⟩
theorem IsM.below {gv fv : Value} {m : Mdl} (h : IsM w B gv fv m) (hb : Below B w w') : IsM w' B gv fv m := ⟨h.g.below hb, h.f.below hb⟩
theorem IsL.more {α : Type} {n B' : Nat} {v : Value} {l : List α} {p p' : α → (Nat → Option Value) → Prop} (h : IsL w B n v l p) (hB : B ≤ B') (k : ∀ x c, p x c → p' x c) : IsL w B' n v l p' := by
  obtain ⟨A, c, h1, h2, h3, h4, h5⟩ := h
  refine ⟨A, c, h1, h2, h3, h4, h5.imp id ?_⟩
  rintro ⟨g, o, e, hg, hx⟩
  exact ⟨g, o, e, by omega, fun i x hi => k x _ (hx i x hi)⟩
theorem IsI.more {B' : Nat} {v : Value} {l : List Int} (h : IsI w B v l) (hB : B ≤ B') : IsI w B' v l := IsL.more h hB fun _ _ h => h
theorem InsV.more {B' : Nat} {x : Ins} {c : Nat → Option Value} (h : InsV w B x c) (hB : B ≤ B') : InsV w B' x c := by obtain ⟨h1, av, h2, h3⟩ := h; exact ⟨h1, av, h2.more hB, h3⟩
theorem IsN.more {B' : Nat} {v : Value} {l : List Ins} (h : IsN w B v l) (hB : B ≤ B') : IsN w B' v l := IsL.more h hB fun _ _ h => h.more hB
theorem BloV.more {B' : Nat} {x : Blo} {c : Nat → Option Value} (h : BloV w B x c) (hB : B ≤ B') : BloV w B' x c := by obtain ⟨h1, av, h2, h3⟩ := h; exact ⟨h1, av, h2.more hB, h3⟩
theorem IsB.more {B' : Nat} {v : Value} {l : List Blo} (h : IsB w B v l) (hB : B ≤ B') : IsB w B' v l := IsL.more h hB fun _ _ h => h.more hB
theorem CodV.more {B' : Nat} {x : Cod} {c : Nat → Option Value} (h : CodV w B x c) (hB : B ≤ B') : CodV w B' x c := by obtain ⟨h1, rv, bv, h2, h4, h3⟩ := h; exact ⟨h1, rv, bv, h2.more hB, h4.more hB, h3⟩
theorem IsF.more {B' : Nat} {v : Value} {l : List Cod} (h : IsF w B v l) (hB : B ≤ B') : IsF w B' v l := IsL.more h hB fun _ _ h => h.more hB
theorem IsG.more {B' : Nat} {v : Value} {l : List Glo} (h : IsG w B v l) (hB : B ≤ B') : IsG w B' v l := IsL.more h hB fun _ _ h => h
theorem IsM.more {B' : Nat} {gv fv : Value} {m : Mdl} (h : IsM w B gv fv m) (hB : B ≤ B') : IsM w B' gv fv m := ⟨h.g.more hB, h.f.more hB⟩
/-- On to a later world. -/
theorem IsM.on {gv fv : Value} {m : Mdl} (h : IsM w w.heap.size gv fv m) (hb : Below w.heap.size w w') : IsM w' w'.heap.size gv fv m := (h.below hb).more hb.size
theorem IsI.on {v : Value} {l : List Int} (h : IsI w w.heap.size v l) (hb : Below w.heap.size w w') : IsI w' w'.heap.size v l := (h.below hb).more hb.size
theorem IsN.on {v : Value} {l : List Ins} (h : IsN w w.heap.size v l) (hb : Below w.heap.size w w') : IsN w' w'.heap.size v l := (h.below hb).more hb.size
theorem IsB.on {v : Value} {l : List Blo} (h : IsB w w.heap.size v l) (hb : Below w.heap.size w w') : IsB w' w'.heap.size v l := (h.below hb).more hb.size
end

/-! what came in -/
section
variable {H : Type} {enc : TypeId × Value → H} {W : World} {sp : Nat → Bool}
theorem open_L {α : Type} [Inhabited α] {t e : TypeId} {n fuel : Nat} {cs : List Value} {x : DataW H × List MemPlace} {p : α → (Nat → Option Value) → Prop} (ht : Try.prog.underlying t = some (.slice e)) (hc : Try.prog.cellsOf e = n) (hn : 0 < n)
    (h : DataW.trod enc Try.prog W 0 sp true fuel t cs = some x)
    (each : ∀ (fuel : Nat) (cs : List Value) (y : DataW H × List MemPlace), DataW.trod enc Try.prog W 0 sp true fuel e cs = some y → cs.length = n → ∃ z : α, p z fun j => cs[j]?)
    (hp : ∀ z c c', (∀ j, c j ≠ none → c' j = c j) → p z c → p z c') : ∃ v l, cs = [v] ∧ IsL W W.heap.size n v l p := by
  rcases Deep.open_slice ht h with ⟨rfl, rfl⟩ | ⟨a, len, cap, m, k, D, Pl, rfl, hb, hl, hm, hmm, rfl, hx⟩
  · exact ⟨_, [], rfl, none, 0, rfl, Nat.le_refl _, by simp, fun _ => rfl, .inl rfl⟩
  · have hlm : len ≤ m := by rw [hmm]; split <;> omega
    have e1 : ∀ i, i < len → ∃ z : α, p z (fun j => W.cell? (a.add (i * n + j))) ∧ W.cell? (a.add (i * n)) ≠ none := by
      intro i hi
      obtain ⟨cs', h1, h2⟩ := hx i (by omega)
      rw [hc] at h1
      obtain ⟨_, hlen, hcell⟩ := World.cells?_some h1
      obtain ⟨z, hz⟩ := each _ _ _ h2 hlen
      refine ⟨z, hp _ _ _ (fun j hj => ?_) hz, ?_⟩
      · by_cases hjn : j < n
        · have := hcell j hjn
          rw [Deep.add_add] at this
          exact this
        · exact absurd (List.getElem?_eq_none (by omega)) hj
      · have := hcell 0 hn
        rw [Deep.add_add, Nat.add_zero] at this
        rw [this, List.getElem?_eq_getElem (by omega)]
        simp
    obtain ⟨q, hq⟩ := Deep.choose_lt (α := α) e1
    refine ⟨_, (List.range len).map q, rfl, some a, cap, by simp, by simpa using hl, hm, fun h => (by cases h), ?_⟩
    by_cases h0 : len = 0
    · exact .inl (by simp [h0])
    · obtain ⟨g, o, spt⟩ := a
      have hne := (hq 0 (by omega)).2
      obtain ⟨y, hy⟩ := Option.ne_none_iff_exists'.1 hne
      have hspot : spt = none := by simpa [Addr.add] using World.cell?_spot hy
      subst hspot
      refine .inr ⟨g, o, rfl, ?_, ?_⟩
      · have := World.block_lt_of_cell? W _ hy
        simpa [Addr.add] using this
      · intro i z hz
        have hi : i < len := by
          have := (List.getElem?_eq_some_iff.1 hz).1
          simpa using this
        simp [hi] at hz
        subst hz
        have := (hq i hi).1
        simp only [Addr.add_mid] at this
        refine hp _ _ _ (fun j _ => ?_) this
        simp only [Nat.add_assoc]
theorem cI : Try.prog.cellsOf 3 = 1 := by kernel_rfl
theorem cS1 : Try.prog.cellsOf 9 = 1 := by kernel_rfl
theorem cIs : Try.prog.cellsOf 26 = 1 := by kernel_rfl
theorem cIn : Try.prog.cellsOf 43 = 8 := by kernel_rfl
theorem cIns : Try.prog.cellsOf 46 = 1 := by kernel_rfl
theorem cEn : Try.prog.cellsOf 49 = 4 := by kernel_rfl
theorem cBl : Try.prog.cellsOf 51 = 5 := by kernel_rfl
theorem cBls : Try.prog.cellsOf 52 = 1 := by kernel_rfl
theorem cCo : Try.prog.cellsOf 57 = 5 := by kernel_rfl
theorem cGl : Try.prog.cellsOf 54 = 4 := by kernel_rfl
theorem open_I {fuel : Nat} {cs : List Value} {x : DataW H × List MemPlace} (h : DataW.trod enc Try.prog W 0 sp true fuel 26 cs = some x) : ∃ v l, cs = [v] ∧ IsI W W.heap.size v l :=
  open_L Try.underlying26 cI (by omega) h (fun fuel cs y hy hl => by
    obtain ⟨z, rfl, -, hz⟩ := DataW.trod_int Try.underlying3 hy
    exact ⟨z, rfl, hz⟩) fun z c c' k hp => ⟨(k 0 (some_ne hp.1)).trans hp.1, hp.2⟩
set_option maxRecDepth 10000 in
theorem open_N {fuel : Nat} {cs : List Value} {x : DataW H × List MemPlace} (h : DataW.trod enc Try.prog W 0 sp true fuel 46 cs = some x) : ∃ v l, cs = [v] ∧ IsN W W.heap.size v l :=
  open_L Try.underlying46 cIn (by omega) h (fun fuel cs y hy hl => by
    obtain ⟨xs, k, hk, hxy, _, hxl, hf⟩ := DataW.trod_struct Try.underlying43 hy
    have hxl8 : xs.length = 8 := hxl
    match cs, hl with
    | [v0, v1, v2, v3, v4, v5, v6, v7], _ =>
      match xs, hxl8 with
      | [x0, x1, x2, x3, x4, x5, x6, x7], _ =>
        have g0 := hf 0 _ rfl; have g1 := hf 1 _ rfl; have g2 := hf 2 _ rfl; have g3 := hf 3 _ rfl; have g4 := hf 4 _ rfl; have g5 := hf 5 _ rfl; have g6 := hf 6 _ rfl; have g7 := hf 7 _ rfl
        clear hf
        simp [cI, cS1, cIs] at g0 g1 g2 g3 g4 g5 g6 g7
        obtain ⟨z0, f0, -, e0⟩ := DataW.trod_int Try.underlying3 g0
        obtain ⟨z1, f1, -, e1⟩ := DataW.trod_int Try.underlying3 g1
        obtain ⟨z2, f2, -, e2⟩ := DataW.trod_int Try.underlying3 g2
        obtain ⟨z3, f3, -, e3⟩ := DataW.trod_int Try.underlying3 g3
        obtain ⟨z4, f4, -, e4⟩ := DataW.trod_int Try.underlying3 g4
        obtain ⟨z5, f5, -, e5⟩ := DataW.trod_int Try.underlying3 g5
        obtain ⟨z6, f6, -, -⟩ := DataW.trod_string Try.underlying9 g6
        obtain ⟨av, l, f7, e7⟩ := open_I g7
        simp only [List.cons.injEq, and_true] at f0 f1 f2 f3 f4 f5 f6 f7
        subst f0 f1 f2 f3 f4 f5 f6 f7
        exact ⟨⟨z0, z1, z2, z3, z4, z5, z6.data.toList, l⟩, ⟨e0, e1, e2, e3, e4, e5⟩, _, e7, fun j y hj => hj⟩) fun z c c' k hp => hp.below (Below.refl _ _) k
set_option maxRecDepth 10000 in
theorem open_B {fuel : Nat} {cs : List Value} {x : DataW H × List MemPlace} (h : DataW.trod enc Try.prog W 0 sp true fuel 52 cs = some x) : ∃ v l, cs = [v] ∧ IsB W W.heap.size v l :=
  open_L Try.underlying52 cBl (by omega) h (fun fuel cs y hy hl => by
    obtain ⟨xs, k, hk, hxy, _, hxl, hf⟩ := DataW.trod_struct Try.underlying51 hy
    have hxl2 : xs.length = 2 := hxl
    match cs, hl with
    | [v0, v1, v2, v3, v4], _ =>
      match xs, hxl2 with
      | [x0, x1], _ =>
        have g0 := hf 0 _ rfl; have g1 := hf 1 _ rfl
        clear hf
        simp [cIns, cEn] at g0 g1
        obtain ⟨cv, l, f0, e0⟩ := open_N g0
        obtain ⟨xs, k, hk, hxy, _, hxl, hf⟩ := DataW.trod_struct Try.underlying49 g1
        have hxl4 : xs.length = 4 := hxl
        match xs, hxl4 with
        | [x0, x1, x2, x3], _ =>
          have g0 := hf 0 _ rfl; have g1 := hf 1 _ rfl; have g2 := hf 2 _ rfl; have g3 := hf 3 _ rfl
          clear hf
          simp [cI] at g0 g1 g2 g3
          obtain ⟨z1, f1, -, e1⟩ := DataW.trod_int Try.underlying3 g0
          obtain ⟨z2, f2, -, e2⟩ := DataW.trod_int Try.underlying3 g1
          obtain ⟨z3, f3, -, e3⟩ := DataW.trod_int Try.underlying3 g2
          obtain ⟨z4, f4, -, e4⟩ := DataW.trod_int Try.underlying3 g3
          simp only [List.cons.injEq, and_true] at f0 f1 f2 f3 f4
          subst f0 f1 f2 f3 f4
          exact ⟨⟨l, z1, z2, z3, z4⟩, ⟨e1, e2, e3, e4⟩, _, e0, fun j y hj => hj⟩) fun z c c' k hp => hp.below (Below.refl _ _) k
set_option maxRecDepth 10000 in
theorem open_F {fuel : Nat} {cs : List Value} {x : DataW H × List MemPlace} (h : DataW.trod enc Try.prog W 0 sp true fuel 23 cs = some x) : ∃ v l, cs = [v] ∧ IsF W W.heap.size v l :=
  open_L Try.underlying23 cCo (by omega) h (fun fuel cs y hy hl => by
    obtain ⟨xs, k, hk, hxy, _, hxl, hf⟩ := DataW.trod_struct Try.underlying57 hy
    have hxl5 : xs.length = 5 := hxl
    match cs, hl with
    | [v0, v1, v2, v3, v4], _ =>
      match xs, hxl5 with
      | [x0, x1, x2, x3, x4], _ =>
        have g0 := hf 0 _ rfl; have g1 := hf 1 _ rfl; have g2 := hf 2 _ rfl; have g3 := hf 3 _ rfl; have g4 := hf 4 _ rfl
        clear hf
        simp [cI, cS1, cIs, cBls] at g0 g1 g2 g3 g4
        obtain ⟨z0, f0, -, -⟩ := DataW.trod_string Try.underlying9 g0
        obtain ⟨z1, f1, -, e1⟩ := DataW.trod_int Try.underlying3 g1
        obtain ⟨z2, f2, -, e2⟩ := DataW.trod_int Try.underlying3 g2
        obtain ⟨rv, l, f3, e3⟩ := open_I g3
        obtain ⟨bv, k, f4, e4⟩ := open_B g4
        simp only [List.cons.injEq, and_true] at f0 f1 f2 f3 f4
        subst f0 f1 f2 f3 f4
        exact ⟨⟨z0.data.toList, z1, z2, l, k⟩, ⟨e1, e2⟩, _, _, e3, e4, fun j y hj => hj⟩) fun z c c' k hp => hp.below (Below.refl _ _) k
set_option maxRecDepth 10000 in
theorem open_G {fuel : Nat} {cs : List Value} {x : DataW H × List MemPlace} (h : DataW.trod enc Try.prog W 0 sp true fuel 22 cs = some x) : ∃ v l, cs = [v] ∧ IsG W W.heap.size v l :=
  open_L Try.underlying22 cGl (by omega) h (fun fuel cs y hy hl => by
    obtain ⟨xs, k, hk, hxy, _, hxl, hf⟩ := DataW.trod_struct Try.underlying54 hy
    have hxl4 : xs.length = 4 := hxl
    match cs, hl with
    | [v0, v1, v2, v3], _ =>
      match xs, hxl4 with
      | [x0, x1, x2, x3], _ =>
        have g0 := hf 0 _ rfl; have g1 := hf 1 _ rfl; have g2 := hf 2 _ rfl; have g3 := hf 3 _ rfl
        clear hf
        simp [cI, cS1] at g0 g1 g2 g3
        obtain ⟨z0, f0, -, -⟩ := DataW.trod_string Try.underlying9 g0
        obtain ⟨z1, f1, -, e1⟩ := DataW.trod_int Try.underlying3 g1
        obtain ⟨z2, f2, -, e2⟩ := DataW.trod_int Try.underlying3 g2
        obtain ⟨z3, f3, -, e3⟩ := DataW.trod_int Try.underlying3 g3
        simp only [List.cons.injEq, and_true] at f0 f1 f2 f3
        subst f0 f1 f2 f3
        exact ⟨⟨z0.data.toList, z1, z2, z3⟩, ⟨e1, e2, e3⟩, fun j y hj => hj⟩) fun z c c' k hp => ⟨hp.1, fun j y hj => (k j (some_ne (hp.2 j y hj))).trans (hp.2 j y hj)⟩
end
end Go.Proofs.Ytgcjfbgfoiekmaa
