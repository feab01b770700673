/-
  Modules that came in: no list of arguments is longer than what reaches.
-/
import Derived.Test.YtgcjfbgfoiekmaaIvk
import GoSem.ClaimJoined
namespace Go.Proofs.Ytgcjfbgfoiekmaa
open Go Go.ChangeShapes Go.WideShapes Go.RowKit
set_option linter.unusedVariables false
set_option linter.unusedSimpArgs false

abbrev argMax : Nat := 17592186043904
theorem bI : Try.prog.bytesOf 3 = 8 := by kernel_rfl
theorem weights_all {H : Type} {P : Program} {e : TypeId} {d : DataW H} {n : Nat} (hn : n ∈ d.weights P e) : ∀ l : List (DataW H), d ∈ l → n ∈ DataW.weightsAll P e l := by
  intro l
  induction l with
  | nil => intro h; cases h
  | cons x l ih =>
    intro h
    simp only [DataW.weightsAll, List.mem_append]
    rcases List.mem_cons.1 h with rfl | h
    · exact .inl hn
    · exact .inr (ih h)
section
variable {H : Type} {enc : TypeId × Value → H} {W : World} {sp : Nat → Bool}
theorem openz_L {α : Type} [Inhabited α] {t e : TypeId} {n fuel : Nat} {cs : List Value} {x : DataW H × List MemPlace} {p : α → (Nat → Option Value) → Prop} {R : α → Prop} (ht : Try.prog.underlying t = some (.slice e)) (hc : Try.prog.cellsOf e = n) (hn : 0 < n)
    (h : DataW.trod enc Try.prog W 0 sp true fuel t cs = some x) (hw : ∀ n ∈ x.1.weights Try.prog t, n ≤ reachBytes)
    (each : ∀ (fuel : Nat) (cs : List Value) (y : DataW H × List MemPlace), DataW.trod enc Try.prog W 0 sp true fuel e cs = some y → cs.length = n → (∀ n ∈ y.1.weights Try.prog e, n ≤ reachBytes) → ∃ z : α, p z (fun j => cs[j]?) ∧ R z)
    (hp : ∀ z c c', (∀ j, c j ≠ none → c' j = c j) → p z c → p z c') : ∃ v l, cs = [v] ∧ IsL W W.heap.size n v l p ∧ (∀ z ∈ l, R z) ∧ l.length * Try.prog.bytesOf e ≤ reachBytes := by
  rcases Deep.open_slice ht h with ⟨rfl, rfl⟩ | ⟨a, len, cap, m, k, D, Pl, rfl, hb, hl, hm, hmm, rfl, hx⟩
  · exact ⟨_, [], rfl, ⟨none, 0, rfl, Nat.le_refl _, by simp, fun _ => rfl, .inl rfl⟩, by simp, by simp⟩
  · have hlm : len ≤ m := by rw [hmm]; split <;> omega
    simp only [DataW.weights, ht] at hw
    have hw1 := hw _ (List.mem_cons_self ..)
    have hwD : ∀ i, i < len → ∀ n ∈ (D i).weights Try.prog e, n ≤ reachBytes := fun i hi n hn => hw n (List.mem_cons_of_mem _ (List.mem_append_left _ (weights_all hn _ (List.mem_map.2 ⟨i, List.mem_range.2 hi, rfl⟩))))
    have e1 : ∀ i, i < len → ∃ z : α, (p z (fun j => W.cell? (a.add (i * n + j))) ∧ R z) ∧ W.cell? (a.add (i * n)) ≠ none := by
      intro i hi
      obtain ⟨cs', h1, h2⟩ := hx i (by omega)
      rw [hc] at h1
      obtain ⟨_, hlen, hcell⟩ := World.cells?_some h1
      obtain ⟨z, hz, hzs⟩ := each _ _ _ h2 hlen (hwD i hi)
      refine ⟨z, ⟨hp _ _ _ (fun j hj => ?_) hz, hzs⟩, ?_⟩
      · by_cases hjn : j < n
        · have := hcell j hjn
          rw [Deep.add_add] at this
          exact this
        · exact absurd (List.getElem?_eq_none (by omega)) hj
      · have := hcell 0 hn
        rw [Deep.add_add, Nat.add_zero] at this
        rw [this, List.getElem?_eq_getElem (by omega)]
        simp
    obtain ⟨q, hq⟩ := Deep.choose_lt (α := α) e1
    refine ⟨_, (List.range len).map q, rfl, ⟨some a, cap, by simp, by simpa using hl, hm, fun h => (by cases h), ?_⟩, ?_, ?_⟩
    · by_cases h0 : len = 0
      · exact .inl (by simp [h0])
      · obtain ⟨g, o, spt⟩ := a
        have hne := (hq 0 (by omega)).2
        obtain ⟨y, hy⟩ := Option.ne_none_iff_exists'.1 hne
        have hspot : spt = none := by simpa [Addr.add] using World.cell?_spot hy
        subst hspot
        refine .inr ⟨g, o, rfl, ?_, ?_⟩
        · have := World.block_lt_of_cell? W _ hy
          simpa [Addr.add] using this
        · intro i z hz
          have hi : i < len := by
            have := (List.getElem?_eq_some_iff.1 hz).1
            simpa using this
          simp [hi] at hz
          subst hz
          have := (hq i hi).1.1
          simp only [Addr.add_mid] at this
          refine hp _ _ _ (fun j _ => ?_) this
          simp only [Nat.add_assoc]
    · intro z hz
      obtain ⟨i, hi, rfl⟩ := List.mem_map.1 hz
      exact (hq i (List.mem_range.1 hi)).1.2
    · rw [List.length_map, List.length_range]
      refine Nat.le_trans (Nat.mul_le_mul_right _ ?_) hw1
      simp
theorem openz_I {fuel : Nat} {cs : List Value} {x : DataW H × List MemPlace} (h : DataW.trod enc Try.prog W 0 sp true fuel 26 cs = some x) (hw : ∀ n ∈ x.1.weights Try.prog 26, n ≤ reachBytes) : ∃ v l, cs = [v] ∧ IsI W W.heap.size v l ∧ l.length ≤ argMax :=
  let ⟨v, l, h1, h2, _, h4⟩ := openz_L (R := (fun _ => True)) Try.underlying26 cI (by omega) h hw (fun fuel cs y hy hl hy9 => by
    obtain ⟨z, rfl, -, hz⟩ := DataW.trod_int Try.underlying3 hy
    exact ⟨z, ⟨rfl, hz⟩, trivial⟩) fun z c c' k hp => ⟨(k 0 (some_ne hp.1)).trans hp.1, hp.2⟩
  ⟨v, l, h1, h2, by rw [bI] at h4; unfold reachBytes at h4; unfold argMax; omega⟩
set_option maxRecDepth 10000 in
theorem openz_N {fuel : Nat} {cs : List Value} {x : DataW H × List MemPlace} (h : DataW.trod enc Try.prog W 0 sp true fuel 46 cs = some x) (hw : ∀ n ∈ x.1.weights Try.prog 46, n ≤ reachBytes) : ∃ v l, cs = [v] ∧ IsN W W.heap.size v l ∧ ∀ i ∈ l, i.args.length ≤ argMax :=
  let ⟨v, l, h1, h2, h3, _⟩ := openz_L (R := (fun i => i.args.length ≤ argMax)) Try.underlying46 cIn (by omega) h hw (fun fuel cs y hy hl hy9 => by
    obtain ⟨xs, k, hk, hxy, _, hxl, hf⟩ := DataW.trod_struct Try.underlying43 hy
    have hxl8 : xs.length = 8 := hxl
    match cs, hl with
    | [v0, v1, v2, v3, v4, v5, v6, v7], _ =>
      match xs, hxl8 with
      | [x0, x1, x2, x3, x4, x5, x6, x7], _ =>
        have g0 := hf 0 _ rfl; have g1 := hf 1 _ rfl; have g2 := hf 2 _ rfl; have g3 := hf 3 _ rfl; have g4 := hf 4 _ rfl; have g5 := hf 5 _ rfl; have g6 := hf 6 _ rfl; have g7 := hf 7 _ rfl
        clear hf
        simp [cI, cS1, cIs] at g0 g1 g2 g3 g4 g5 g6 g7
        obtain ⟨z0, f0, -, e0⟩ := DataW.trod_int Try.underlying3 g0
        obtain ⟨z1, f1, -, e1⟩ := DataW.trod_int Try.underlying3 g1
        obtain ⟨z2, f2, -, e2⟩ := DataW.trod_int Try.underlying3 g2
        obtain ⟨z3, f3, -, e3⟩ := DataW.trod_int Try.underlying3 g3
        obtain ⟨z4, f4, -, e4⟩ := DataW.trod_int Try.underlying3 g4
        obtain ⟨z5, f5, -, e5⟩ := DataW.trod_int Try.underlying3 g5
        obtain ⟨z6, f6, -, -⟩ := DataW.trod_string Try.underlying9 g6
        rw [hxy] at hy9
        obtain ⟨av, l, f7, e7, b7⟩ := openz_I g7 fun n hn => hy9 n (by simp [DataW.weights, Try.underlying43, DataW.weightsEach]; simp [hn])
        simp only [List.cons.injEq, and_true] at f0 f1 f2 f3 f4 f5 f6 f7
        subst f0 f1 f2 f3 f4 f5 f6 f7
        exact ⟨⟨z0, z1, z2, z3, z4, z5, z6.data.toList, l⟩, ⟨⟨e0, e1, e2, e3, e4, e5⟩, _, e7, fun j y hj => hj⟩, b7⟩) fun z c c' k hp => hp.below (Below.refl _ _) k
  ⟨v, l, h1, h2, h3⟩
set_option maxRecDepth 10000 in
theorem openz_B {fuel : Nat} {cs : List Value} {x : DataW H × List MemPlace} (h : DataW.trod enc Try.prog W 0 sp true fuel 52 cs = some x) (hw : ∀ n ∈ x.1.weights Try.prog 52, n ≤ reachBytes) : ∃ v l, cs = [v] ∧ IsB W W.heap.size v l ∧ ∀ b ∈ l, ∀ i ∈ b.code, i.args.length ≤ argMax :=
  let ⟨v, l, h1, h2, h3, _⟩ := openz_L (R := (fun b => ∀ i ∈ b.code, i.args.length ≤ argMax)) Try.underlying52 cBl (by omega) h hw (fun fuel cs y hy hl hy9 => by
    obtain ⟨xs, k, hk, hxy0, _, hxl, hf⟩ := DataW.trod_struct Try.underlying51 hy
    have hxl2 : xs.length = 2 := hxl
    match cs, hl with
    | [v0, v1, v2, v3, v4], _ =>
      match xs, hxl2 with
      | [x0, x1], _ =>
        have g0 := hf 0 _ rfl; have g1 := hf 1 _ rfl
        clear hf
        simp [cIns, cEn] at g0 g1
        rw [hxy0] at hy9
        obtain ⟨cv, l, f0, e0, b0⟩ := openz_N g0 fun n hn => hy9 n (by simp [DataW.weights, Try.underlying51, DataW.weightsEach]; simp [hn])
        obtain ⟨xs, k, hk, hxy, _, hxl, hf⟩ := DataW.trod_struct Try.underlying49 g1
        have hxl4 : xs.length = 4 := hxl
        match xs, hxl4 with
        | [x0, x1, x2, x3], _ =>
          have g0 := hf 0 _ rfl; have g1 := hf 1 _ rfl; have g2 := hf 2 _ rfl; have g3 := hf 3 _ rfl
          clear hf
          simp [cI] at g0 g1 g2 g3
          obtain ⟨z1, f1, -, e1⟩ := DataW.trod_int Try.underlying3 g0
          obtain ⟨z2, f2, -, e2⟩ := DataW.trod_int Try.underlying3 g1
          obtain ⟨z3, f3, -, e3⟩ := DataW.trod_int Try.underlying3 g2
          obtain ⟨z4, f4, -, e4⟩ := DataW.trod_int Try.underlying3 g3
          simp only [List.cons.injEq, and_true] at f0 f1 f2 f3 f4
          subst f0 f1 f2 f3 f4
          exact ⟨⟨l, z1, z2, z3, z4⟩, ⟨⟨e1, e2, e3, e4⟩, _, e0, fun j y hj => hj⟩, b0⟩) fun z c c' k hp => hp.below (Below.refl _ _) k
  ⟨v, l, h1, h2, h3⟩
set_option maxRecDepth 10000 in
theorem openz_F {fuel : Nat} {cs : List Value} {x : DataW H × List MemPlace} (h : DataW.trod enc Try.prog W 0 sp true fuel 23 cs = some x) (hw : ∀ n ∈ x.1.weights Try.prog 23, n ≤ reachBytes) : ∃ v l, cs = [v] ∧ IsF W W.heap.size v l ∧ ∀ f ∈ l, SmC f :=
  let ⟨v, l, h1, h2, h3, _⟩ := openz_L (R := SmC) Try.underlying23 cCo (by omega) h hw (fun fuel cs y hy hl hy9 => by
    obtain ⟨xs, k, hk, hxy, _, hxl, hf⟩ := DataW.trod_struct Try.underlying57 hy
    have hxl5 : xs.length = 5 := hxl
    match cs, hl with
    | [v0, v1, v2, v3, v4], _ =>
      match xs, hxl5 with
      | [x0, x1, x2, x3, x4], _ =>
        have g0 := hf 0 _ rfl; have g1 := hf 1 _ rfl; have g2 := hf 2 _ rfl; have g3 := hf 3 _ rfl; have g4 := hf 4 _ rfl
        clear hf
        simp [cI, cS1, cIs, cBls] at g0 g1 g2 g3 g4
        obtain ⟨z0, f0, -, -⟩ := DataW.trod_string Try.underlying9 g0
        obtain ⟨z1, f1, -, e1⟩ := DataW.trod_int Try.underlying3 g1
        obtain ⟨z2, f2, -, e2⟩ := DataW.trod_int Try.underlying3 g2
        rw [hxy] at hy9
        obtain ⟨rv, l, f3, e3, b3⟩ := openz_I g3 fun n hn => hy9 n (by simp [DataW.weights, Try.underlying57, DataW.weightsEach]; simp [hn])
        obtain ⟨bv, k, f4, e4, b4⟩ := openz_B g4 fun n hn => hy9 n (by simp [DataW.weights, Try.underlying57, DataW.weightsEach]; simp [hn])
        simp only [List.cons.injEq, and_true] at f0 f1 f2 f3 f4
        subst f0 f1 f2 f3 f4
        exact ⟨⟨z0.data.toList, z1, z2, l, k⟩, ⟨⟨e1, e2⟩, _, _, e3, e4, fun j y hj => hj⟩, b4⟩) fun z c c' k hp => hp.below (Below.refl _ _) k
  ⟨v, l, h1, h2, h3⟩
set_option maxRecDepth 10000 in
theorem openz_G {fuel : Nat} {cs : List Value} {x : DataW H × List MemPlace} (h : DataW.trod enc Try.prog W 0 sp true fuel 22 cs = some x) (hw : ∀ n ∈ x.1.weights Try.prog 22, n ≤ reachBytes) : ∃ v l, cs = [v] ∧ IsG W W.heap.size v l ∧ True :=
  let ⟨v, l, h1, h2, h3, _⟩ := openz_L (R := (fun _ => True)) Try.underlying22 cGl (by omega) h hw (fun fuel cs y hy hl hy9 => by
    obtain ⟨xs, k, hk, hxy, _, hxl, hf⟩ := DataW.trod_struct Try.underlying54 hy
    have hxl4 : xs.length = 4 := hxl
    match cs, hl with
    | [v0, v1, v2, v3], _ =>
      match xs, hxl4 with
      | [x0, x1, x2, x3], _ =>
        have g0 := hf 0 _ rfl; have g1 := hf 1 _ rfl; have g2 := hf 2 _ rfl; have g3 := hf 3 _ rfl
        clear hf
        simp [cI, cS1] at g0 g1 g2 g3
        obtain ⟨z0, f0, -, -⟩ := DataW.trod_string Try.underlying9 g0
        obtain ⟨z1, f1, -, e1⟩ := DataW.trod_int Try.underlying3 g1
        obtain ⟨z2, f2, -, e2⟩ := DataW.trod_int Try.underlying3 g2
        obtain ⟨z3, f3, -, e3⟩ := DataW.trod_int Try.underlying3 g3
        simp only [List.cons.injEq, and_true] at f0 f1 f2 f3
        subst f0 f1 f2 f3
        exact ⟨⟨z0.data.toList, z1, z2, z3⟩, ⟨⟨e1, e2, e3⟩, fun j y hj => hj⟩, trivial⟩) fun z c c' k hp => ⟨hp.1, fun j y hj => (k j (some_ne (hp.2 j y hj))).trans (hp.2 j y hj)⟩
  ⟨v, l, h1, h2, trivial⟩
end
end Go.Proofs.Ytgcjfbgfoiekmaa
