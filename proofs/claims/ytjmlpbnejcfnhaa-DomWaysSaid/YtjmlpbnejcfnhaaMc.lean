/-
  Is a module greater than the statements go through? Layer dom: has a module a function of more blocks than the statements go through? Modules that came in: no list of arguments is longer than what reaches.
-/
import Derived.Test.YtjmlpbnejcfnhaaMb
import GoSem.ClaimJoined
/-! Iwf -/
namespace Go.Proofs.Ytjmlpbnejcfnhaa
open Go Go.RowKit Go.Maps
set_option linter.unusedVariables false
set_option linter.unusedSimpArgs false

theorem IsL.kle {α : Type} {w : World} {B n : Nat} {A : Option Addr} {k c : Nat} {l : List α} {p : α → (Nat → Option Value) → Prop} (h : IsL w B n (.slice A k c) l p) : k ≤ 2 ^ 63 - 1 := by
  obtain ⟨A', c', e, h1, h2, _, _⟩ := h
  simp only [Value.slice.injEq] at e
  obtain ⟨rfl, rfl, rfl⟩ := e
  unfold maxLen at h2
  omega

set_option maxHeartbeats 8000000 in
set_option maxRecDepth 100000 in
theorem big_any (m : Mdl) (gv fv : Value) (w : World) (hm : IsM w w.heap.size gv fv m) : Calls Try.prog 19 #[.agg #[gv, fv]] w fun e w' => (e = .returned (.bool true) ∨ (e = .returned (.bool false) ∧ m.g.length ≤ 20)) ∧ Below w.heap.size w w' := by
  obtain ⟨gA, gc, rfl, hgl, hgm, -⟩ := hm.g.sl
  obtain ⟨fA, fc, rfl, hfl, hfm, -⟩ := hm.f.sl
  unfold maxLen at hgm hfm
  have hb : Below w.heap.size w (w.alloc (.cells #[.slice gA m.g.length gc, .slice fA m.f.length fc] tMo)) := (Below.refl _ _).alloc (Nat.le_refl _) _
  have hq := Blk.new w tMo #[.slice gA m.g.length gc, .slice fA m.f.length fc]
  have hm1 := hm.on hb
  obtain ⟨gn, hgn⟩ : ∃ n, m.g.length = n := ⟨_, rfl⟩
  obtain ⟨fn, hfn⟩ : ∃ n, m.f.length = n := ⟨_, rfl⟩
  have HGN := Lib.hid hgn
  have HFN := Lib.hid hfn
  rw [hgn] at hb hq hm1 hgl
  rw [hfn] at hb hq hm1 hfl
  have HB := Lib.hid hb
  have HQ := Lib.hid hq
  have HM := Lib.hid hm1
  obtain ⟨P, hP⟩ : ∃ P : Prop, (m.g.length ≤ 20) = P := ⟨_, rfl⟩
  rw [hP, hgn, hfn]
  have HP := Lib.hid hP
  clear hm hb hq hm1 hgn hfn hP
  go_enter Try.func19, Try.ntmps19
  go_upto_region 1 with (fail)
  generalize w.alloc (.cells #[.slice gA gn gc, .slice fA fn fc] tMo) = W1 at *
  have p0 : W1.cell? ⟨w.heap.size, 0, none⟩ = some (.slice gA gn gc) := HQ.out.cell 0
  have p1 : W1.cell? ⟨w.heap.size, 1, none⟩ = some (.slice fA fn fc) := HQ.out.cell 1
  have pl := HQ.out.lt
  by_cases h20 : (20 : Int) < gn
  · go_wp2_with fail
    go_ret
    exact ⟨.inl rfl, HB.out⟩
  by_cases h12 : (12 : Int) < fn
  · go_wp2_with fail
    go_ret
    exact ⟨.inl rfl, HB.out⟩
  go_wp2_with fail
  go_loopw [4] (fun v wr => wr = W1 ∧ ∃ j : Nat, j ≤ gn ∧ v = .int .i64 j) (fun v _ => gn - (intOf v).toNat)
  case atStart => exact ⟨by first | rfl | trivial, 0, by omega, rfl⟩
  case round =>
    obtain ⟨rfl, j, hj, rfl⟩ := hrel
    by_cases hlt : j < gn
    · have hjl : j < m.g.length := by rw [HGN.out]; exact hlt
      obtain ⟨g, o, c9, hv9, hg, -, -, -, hx⟩ := HM.out.g.at hjl
      simp only [Value.slice.injEq] at hv9
      obtain ⟨rfl, -, -⟩ := hv9
      have y2 := hx 2 (.int .i64 m.g[j].sz) rfl
      simp only at y2
      have hlt' : (j : Int) < gn := by omega
      clear hx
      generalize m.g[j].sz = sz at *
      by_cases hs : (1024 : Int) < sz
      · go_wp2_with fail
        go_ret
        exact ⟨.inl rfl, HB.out⟩
      · go_wp2_with fail
        go_roundw
        case rel => exact ⟨by first | rfl | trivial, j + 1, by omega, by go_num⟩
        case measure => simp [intOf]; omega
    · obtain rfl : gn = j := by omega
      go_wp2_with fail
      obtain ⟨w2, hw2⟩ : ∃ w2, w2 = wr := ⟨_, rfl⟩
      subst hw2
      go_loopw [3, 5] (fun v3 v wr => ∃ (j : Nat) (N : Int), j ≤ fn ∧ v = .int .i64 j ∧ v3 = .int .i64 N ∧ Below w2.heap.size w2 wr) (fun _ v _ => fn - (intOf v).toNat)
      case atStart => exact ⟨0, 0, by omega, rfl, rfl, Below.refl _ _⟩
      case round =>
        obtain ⟨j, N, hj2, rfl, rfl, hbw⟩ := hrel
        have HBW := Lib.hid hbw
        have hq3 := HQ.out.on hbw
        have p1 : wr.cell? ⟨w.heap.size, 1, none⟩ = some (.slice fA fn fc) := hq3.cell 1
        have pl3 := hq3.lt
        have HM3 := Lib.hid (HM.out.on hbw)
        have HQ3 := Lib.hid hq3
        clear hbw hq3
        by_cases hlt : j < fn
        · have hjl : j < m.f.length := by rw [HFN.out]; exact hlt
          obtain ⟨g, o, c9, hv9, hg, -, -, -, rv, bv, hrv, hbv, hx⟩ := HM3.out.f.at hjl
          simp only [Value.slice.injEq] at hv9
          obtain ⟨rfl, -, -⟩ := hv9
          obtain ⟨rA, rc, rfl, -⟩ := hrv.sl
          obtain ⟨bA, bc, rfl, -⟩ := hbv.sl
          have y0 := hx 0 (.string (str m.f[j].nm)) rfl; have y1 := hx 1 (.int .i64 m.f[j].ty) rfl; have y2 := hx 2 (.int .i64 m.f[j].pr) rfl; have y3 := hx 3 (.slice rA m.f[j].regs.length rc) rfl; have y4 := hx 4 (.slice bA m.f[j].bl.length bc) rfl
          simp only [Nat.add_zero] at y0
          simp only at y1 y2 y3 y4
          have hlt' : (j : Int) < fn := by omega
          clear hx hrv
          generalize m.f[j] = cod at *
          obtain ⟨bn, hbn⟩ : ∃ n, cod.bl.length = n := ⟨_, rfl⟩
          have HBN := Lib.hid hbn
          rw [hbn] at y4
          obtain ⟨rn, hrn⟩ : ∃ n, cod.regs.length = n := ⟨_, rfl⟩
          rw [hrn] at y3
          have HBV := Lib.hid hbv
          rw [hbn] at HBV
          have hbm : bn ≤ 2 ^ 63 - 1 := HBV.out.kle
          clear hbn hrn hbv
          generalize cod.nm = nm at *
          generalize cod.ty = ty at *
          generalize cod.pr = pr at *
          go_upto_region 13 with (fail)
          have hbb : Below wr.heap.size wr (wr.alloc (.cells #[.string (str nm), .int .i64 ty, .int .i64 pr, .slice rA rn rc, .slice bA bn bc] tCo)) := (Below.refl wr.heap.size wr).alloc (Nat.le_refl _) _
          have hbk := Blk.new wr tCo #[.string (str nm), .int .i64 ty, .int .i64 pr, .slice rA rn rc, .slice bA bn bc]
          generalize wr.alloc (.cells #[.string (str nm), .int .i64 ty, .int .i64 pr, .slice rA rn rc, .slice bA bn bc] tCo) = W5 at *
          have c3 : W5.cell? ⟨wr.heap.size, 3, none⟩ = some (.slice rA rn rc) := hbk.cell 3
          have c4 : W5.cell? ⟨wr.heap.size, 4, none⟩ = some (.slice bA bn bc) := hbk.cell 4
          have cl := hbk.lt
          have HW5 := Lib.hid (HBW.out.trans (hbb.mono HBW.out.size))
          have HALL := Lib.hid (HB.out.trans (HW5.out.mono HB.out.size))
          have HBV5 := Lib.hid (HBV.out.on hbb)
          clear hbb hbk y0 y1 y2 y3 y4 p1 p0 pl pl3 HBV
          go_wp2_with fail
          go_loopw [3, 7] (fun v3 v w9 => w9 = W5 ∧ ∃ (k : Nat) (S : Int), k ≤ bn ∧ v = .int .i64 k ∧ v3 = .int .i64 S) (fun _ v _ => bn - (intOf v).toNat)
          case atStart => exact ⟨by first | rfl | trivial, 0, _, by omega, rfl, rfl⟩
          case round =>
            obtain ⟨rfl, k, S, hk, rfl, rfl⟩ := hrel
            by_cases hlk : k < bn
            · have hkl : k < cod.bl.length := by rw [HBN.out]; exact hlk
              obtain ⟨g1, o1, c8, hv8, hg1, -, -, -, cv, hcv, hx⟩ := HBV5.out.at hkl
              simp only [Value.slice.injEq] at hv8
              obtain ⟨rfl, -, -⟩ := hv8
              obtain ⟨cA, cc, rfl, -⟩ := hcv.sl
              have y0 := hx 0 (.slice cA cod.bl[k].code.length cc) rfl
              simp only [Nat.add_zero] at y0
              have hlk' : (k : Int) < bn := by omega
              have HCV := Lib.hid hcv
              clear hx hcv
              generalize cod.bl[k] = blo at *
              obtain ⟨cn, hcn⟩ : ∃ n, blo.code.length = n := ⟨_, rfl⟩
              have HCN := Lib.hid hcn
              rw [hcn] at y0 HCV
              have hcm : cn ≤ 2 ^ 63 - 1 := HCV.out.kle
              clear hcn
              go_wp2_with fail
              go_loopw [3, 8] (fun v3 v w9 => w9 = wr ∧ ∃ (j : Nat) (U : Int), j ≤ cn ∧ v = .int .i64 j ∧ v3 = .int .i64 U) (fun _ v _ => cn - (intOf v).toNat)
              case atStart => exact ⟨by first | rfl | trivial, 0, _, by omega, rfl, rfl⟩
              case round =>
                obtain ⟨rfl, i, U, hi, rfl, rfl⟩ := hrel
                by_cases hli : i < cn
                · have hil : i < blo.code.length := by rw [HCN.out]; exact hli
                  obtain ⟨g2, o2, c7, hv7, hg2, -, -, -, av, hav, hx⟩ := HCV.out.at hil
                  simp only [Value.slice.injEq] at hv7
                  obtain ⟨rfl, -, -⟩ := hv7
                  obtain ⟨aA, ac, rfl, -⟩ := hav.sl
                  have z7 := hx 7 (.slice aA blo.code[i].args.length ac) rfl
                  simp only at z7
                  have hli' : (i : Int) < cn := by omega
                  clear hx hav
                  generalize blo.code[i].args.length = an at *
                  go_wp2_with fail
                  go_roundw
                  case rel => exact ⟨by first | rfl | trivial, i + 1, _, by omega, by go_num, rfl⟩
                  case measure => simp [intOf]; omega
                · obtain rfl : cn = i := by omega
                  go_wp2_with fail
                  go_roundw
                  case rel => exact ⟨by first | rfl | trivial, k + 1, U, by omega, by go_num, rfl⟩
                  case measure => simp [intOf]; omega
            · obtain rfl : bn = k := by omega
              by_cases h3 : (3000 : Int) < S
              · go_wp2_with fail
                go_ret
                exact ⟨.inl rfl, HALL.out⟩
              · go_wp2_with fail
                go_roundw
                case rel => exact ⟨j + 1, S, by omega, by go_num, rfl, HW5.out⟩
                case measure => simp [intOf]; omega
        · obtain rfl : fn = j := by omega
          have hPP : P := by
            rw [← HP.out, HGN.out]
            omega
          have HPP := Lib.hid hPP
          clear hPP
          go_wp2_with fail
          go_ret
          exact ⟨.inr ⟨rfl, HPP.out⟩, HB.out.trans (HBW.out.mono HB.out.size)⟩
end Go.Proofs.Ytjmlpbnejcfnhaa
/-! Dnf -/
namespace Go.Proofs.Ytjmlpbnejcfnhaa
open Go Go.RowKit Go.Maps
set_option linter.unusedVariables false
set_option linter.unusedSimpArgs false

set_option maxHeartbeats 4000000 in
set_option maxRecDepth 100000 in
theorem big10_any (m : Mdl) (gv fv : Value) (w : World) (hm : IsM w w.heap.size gv fv m) : Calls Try.prog 5 #[.agg #[gv, fv]] w fun e w' => (e = .returned (.bool true) ∨ (e = .returned (.bool false) ∧ ∀ (i : Nat) (f : Cod), m.f[i]? = some f → f.bl.length ≤ 40)) ∧ Below w.heap.size w w' := by
  obtain ⟨gA, gc, rfl, hgl, hgm, -⟩ := hm.g.sl
  obtain ⟨fA, fc, rfl, hfl, hfm, -⟩ := hm.f.sl
  unfold maxLen at hgm hfm
  have hb : Below w.heap.size w (w.alloc (.cells #[.slice gA m.g.length gc, .slice fA m.f.length fc] tMo)) := (Below.refl _ _).alloc (Nat.le_refl _) _
  have hq := Blk.new w tMo #[.slice gA m.g.length gc, .slice fA m.f.length fc]
  have hm1 := hm.on hb
  obtain ⟨gn, hgn⟩ : ∃ n, m.g.length = n := ⟨_, rfl⟩
  obtain ⟨fn, hfn⟩ : ∃ n, m.f.length = n := ⟨_, rfl⟩
  have HFN := Lib.hid hfn
  rw [hgn] at hb hq hm1 hgl
  rw [hfn] at hb hq hm1 hfl
  have HB := Lib.hid hb
  have HQ := Lib.hid hq
  have HM := Lib.hid hm1
  rw [hgn, hfn]
  clear hm hb hq hm1 hgn hfn
  go_enter Try.func5, Try.ntmps5
  go_upto_region 1 with (fail)
  generalize w.alloc (.cells #[.slice gA gn gc, .slice fA fn fc] tMo) = W1 at *
  have p0 : W1.cell? ⟨w.heap.size, 0, none⟩ = some (.slice gA gn gc) := HQ.out.cell 0
  have p1 : W1.cell? ⟨w.heap.size, 1, none⟩ = some (.slice fA fn fc) := HQ.out.cell 1
  have pl := HQ.out.lt
  go_wp2_with fail
  refine (big_any m _ _ W1 HM.out).mono ?_
  rintro e w2 ⟨rfl | ⟨rfl, -⟩, hb2⟩
  · have hbb := Lib.hid (HB.out.trans (hb2.mono HB.out.size))
    clear hb2 p0 p1 pl
    go_wp2_with fail
    go_ret
    exact ⟨.inl rfl, hbb.out⟩
  · have hbb := Lib.hid (HB.out.trans (hb2.mono HB.out.size))
    have hq2 := HQ.out.on hb2
    have HM2 := Lib.hid (HM.out.on hb2)
    clear p0 p1 pl hb2
    have p1 : w2.cell? ⟨w.heap.size, 1, none⟩ = some (.slice fA fn fc) := hq2.cell 1
    have pl := hq2.lt
    clear hq2
    go_wp2_with fail
    go_loopw [3] (fun v wr => wr = w2 ∧ ∃ j : Nat, j ≤ fn ∧ v = .int .i64 j ∧ ∀ (i : Nat) (f : Cod), i < j → m.f[i]? = some f → f.bl.length ≤ 40) (fun v _ => fn - (intOf v).toNat)
    case atStart => exact ⟨by first | rfl | trivial, 0, by omega, rfl, fun i f h => by omega⟩
    case round =>
      obtain ⟨rfl, j, hj, rfl, hall⟩ := hrel
      have HA := Lib.hid hall
      clear hall
      by_cases hlt : j < fn
      · have hjl : j < m.f.length := by rw [HFN.out]; exact hlt
        have HJ := Lib.hid (show m.f[j]? = some m.f[j] from List.getElem?_eq_getElem hjl)
        obtain ⟨g, o, c9, hv9, hg, -, -, -, rv, bv, hrv, hbv, hx⟩ := HM2.out.f.at hjl
        simp only [Value.slice.injEq] at hv9
        obtain ⟨rfl, -, -⟩ := hv9
        obtain ⟨bA, bc, rfl, -, hbm⟩ := hbv.sl
        have y4 := hx 4 (.slice bA m.f[j].bl.length bc) rfl
        simp only at y4
        have hlt' : (j : Int) < fn := by omega
        clear hx hrv hbv
        generalize m.f[j] = cod at *
        obtain ⟨bn, hbn⟩ : ∃ n, cod.bl.length = n := ⟨_, rfl⟩
        have HBN := Lib.hid hbn
        rw [hbn] at y4
        clear hbn
        by_cases hs : (40 : Int) < bn
        · go_wp2_with fail
          go_ret
          exact ⟨.inl rfl, hbb.out⟩
        · go_wp2_with fail
          go_roundw
          case rel =>
            refine ⟨by first | rfl | trivial, j + 1, by omega, by go_num, fun i f hi hf => ?_⟩
            by_cases e : i = j
            · subst e
              rw [HJ.out] at hf
              cases hf
              rw [HBN.out]
              omega
            · exact HA.out i f (by omega) hf
          case measure => simp [intOf]; omega
      · obtain rfl : fn = j := by omega
        go_wp2_with fail
        go_ret
        exact ⟨.inr ⟨rfl, fun i f hf => HA.out i f (by have := (List.getElem?_eq_some_iff.1 hf).1; rw [HFN.out] at this; exact this) hf⟩, hbb.out⟩
end Go.Proofs.Ytjmlpbnejcfnhaa
/-! Iwe -/
namespace Go.Proofs.Ytjmlpbnejcfnhaa
open Go Go.ChangeShapes Go.WideShapes Go.RowKit
set_option linter.unusedVariables false
set_option linter.unusedSimpArgs false

abbrev argMax : Nat := 17592186043904
theorem bI : Try.prog.bytesOf 3 = 8 := by kernel_rfl
theorem weights_all {H : Type} {P : Program} {e : TypeId} {d : DataW H} {n : Nat} (hn : n ∈ d.weights P e) : ∀ l : List (DataW H), d ∈ l → n ∈ DataW.weightsAll P e l := by
  intro l
  induction l with
  | nil => intro h; cases h
  | cons x l ih =>
    intro h
    simp only [DataW.weightsAll, List.mem_append]
    rcases List.mem_cons.1 h with rfl | h
    · exact .inl hn
    · exact .inr (ih h)
section
variable {H : Type} {enc : TypeId × Value → H} {W : World} {sp : Nat → Bool}
theorem openz_L {α : Type} [Inhabited α] {t e : TypeId} {n fuel : Nat} {cs : List Value} {x : DataW H × List MemPlace} {p : α → (Nat → Option Value) → Prop} {R : α → Prop} (ht : Try.prog.underlying t = some (.slice e)) (hc : Try.prog.cellsOf e = n) (hn : 0 < n)
    (h : DataW.trod enc Try.prog W 0 sp true fuel t cs = some x) (hw : ∀ n ∈ x.1.weights Try.prog t, n ≤ reachBytes)
    (each : ∀ (fuel : Nat) (cs : List Value) (y : DataW H × List MemPlace), DataW.trod enc Try.prog W 0 sp true fuel e cs = some y → cs.length = n → (∀ n ∈ y.1.weights Try.prog e, n ≤ reachBytes) → ∃ z : α, p z (fun j => cs[j]?) ∧ R z)
    (hp : ∀ z c c', (∀ j, c j ≠ none → c' j = c j) → p z c → p z c') : ∃ v l, cs = [v] ∧ IsL W W.heap.size n v l p ∧ (∀ z ∈ l, R z) ∧ l.length * Try.prog.bytesOf e ≤ reachBytes := by
  rcases Deep.open_slice ht h with ⟨rfl, rfl⟩ | ⟨a, len, cap, m, k, D, Pl, rfl, hb, hl, hm, hmm, rfl, hx⟩
  · exact ⟨_, [], rfl, ⟨none, 0, rfl, Nat.le_refl _, by simp, fun _ => rfl, .inl rfl⟩, by simp, by simp⟩
  · have hlm : len ≤ m := by rw [hmm]; split <;> omega
    simp only [DataW.weights, ht] at hw
    have hw1 := hw _ (List.mem_cons_self ..)
    have hwD : ∀ i, i < len → ∀ n ∈ (D i).weights Try.prog e, n ≤ reachBytes := fun i hi n hn => hw n (List.mem_cons_of_mem _ (List.mem_append_left _ (weights_all hn _ (List.mem_map.2 ⟨i, List.mem_range.2 hi, rfl⟩))))
    have e1 : ∀ i, i < len → ∃ z : α, (p z (fun j => W.cell? (a.add (i * n + j))) ∧ R z) ∧ W.cell? (a.add (i * n)) ≠ none := by
      intro i hi
      obtain ⟨cs', h1, h2⟩ := hx i (by omega)
      rw [hc] at h1
      obtain ⟨_, hlen, hcell⟩ := World.cells?_some h1
      obtain ⟨z, hz, hzs⟩ := each _ _ _ h2 hlen (hwD i hi)
      refine ⟨z, ⟨hp _ _ _ (fun j hj => ?_) hz, hzs⟩, ?_⟩
      · by_cases hjn : j < n
        · have := hcell j hjn
          rw [Deep.add_add] at this
          exact this
        · exact absurd (List.getElem?_eq_none (by omega)) hj
      · have := hcell 0 hn
        rw [Deep.add_add, Nat.add_zero] at this
        rw [this, List.getElem?_eq_getElem (by omega)]
        simp
    obtain ⟨q, hq⟩ := Deep.choose_lt (α := α) e1
    refine ⟨_, (List.range len).map q, rfl, ⟨some a, cap, by simp, by simpa using hl, hm, fun h => (by cases h), ?_⟩, ?_, ?_⟩
    · by_cases h0 : len = 0
      · exact .inl (by simp [h0])
      · obtain ⟨g, o, spt⟩ := a
        have hne := (hq 0 (by omega)).2
        obtain ⟨y, hy⟩ := Option.ne_none_iff_exists'.1 hne
        have hspot : spt = none := by simpa [Addr.add] using World.cell?_spot hy
        subst hspot
        refine .inr ⟨g, o, rfl, ?_, ?_⟩
        · have := World.block_lt_of_cell? W _ hy
          simpa [Addr.add] using this
        · intro i z hz
          have hi : i < len := by
            have := (List.getElem?_eq_some_iff.1 hz).1
            simpa using this
          simp [hi] at hz
          subst hz
          have := (hq i hi).1.1
          simp only [Addr.add_mid] at this
          refine hp _ _ _ (fun j _ => ?_) this
          simp only [Nat.add_assoc]
    · intro z hz
      obtain ⟨i, hi, rfl⟩ := List.mem_map.1 hz
      exact (hq i (List.mem_range.1 hi)).1.2
    · rw [List.length_map, List.length_range]
      refine Nat.le_trans (Nat.mul_le_mul_right _ ?_) hw1
      simp
theorem openz_I {fuel : Nat} {cs : List Value} {x : DataW H × List MemPlace} (h : DataW.trod enc Try.prog W 0 sp true fuel 31 cs = some x) (hw : ∀ n ∈ x.1.weights Try.prog 31, n ≤ reachBytes) : ∃ v l, cs = [v] ∧ IsI W W.heap.size v l ∧ l.length ≤ argMax :=
  let ⟨v, l, h1, h2, _, h4⟩ := openz_L (R := (fun _ => True)) Try.underlying31 cI (by omega) h hw (fun fuel cs y hy hl hy9 => by
    obtain ⟨z, rfl, -, hz⟩ := DataW.trod_int Try.underlying3 hy
    exact ⟨z, ⟨rfl, hz⟩, trivial⟩) fun z c c' k hp => ⟨(k 0 (some_ne hp.1)).trans hp.1, hp.2⟩
  ⟨v, l, h1, h2, by rw [bI] at h4; unfold reachBytes at h4; unfold argMax; omega⟩
set_option maxRecDepth 10000 in
theorem openz_N {fuel : Nat} {cs : List Value} {x : DataW H × List MemPlace} (h : DataW.trod enc Try.prog W 0 sp true fuel 44 cs = some x) (hw : ∀ n ∈ x.1.weights Try.prog 44, n ≤ reachBytes) : ∃ v l, cs = [v] ∧ IsN W W.heap.size v l ∧ ∀ i ∈ l, i.args.length ≤ argMax :=
  let ⟨v, l, h1, h2, h3, _⟩ := openz_L (R := (fun i => i.args.length ≤ argMax)) Try.underlying44 cIn (by omega) h hw (fun fuel cs y hy hl hy9 => by
    obtain ⟨xs, k, hk, hxy, _, hxl, hf⟩ := DataW.trod_struct Try.underlying72 hy
    have hxl8 : xs.length = 8 := hxl
    match cs, hl with
    | [v0, v1, v2, v3, v4, v5, v6, v7], _ =>
      match xs, hxl8 with
      | [x0, x1, x2, x3, x4, x5, x6, x7], _ =>
        have g0 := hf 0 _ rfl; have g1 := hf 1 _ rfl; have g2 := hf 2 _ rfl; have g3 := hf 3 _ rfl; have g4 := hf 4 _ rfl; have g5 := hf 5 _ rfl; have g6 := hf 6 _ rfl; have g7 := hf 7 _ rfl
        clear hf
        simp [cI, cS1, cIs] at g0 g1 g2 g3 g4 g5 g6 g7
        obtain ⟨z0, f0, -, e0⟩ := DataW.trod_int Try.underlying3 g0
        obtain ⟨z1, f1, -, e1⟩ := DataW.trod_int Try.underlying3 g1
        obtain ⟨z2, f2, -, e2⟩ := DataW.trod_int Try.underlying3 g2
        obtain ⟨z3, f3, -, e3⟩ := DataW.trod_int Try.underlying3 g3
        obtain ⟨z4, f4, -, e4⟩ := DataW.trod_int Try.underlying3 g4
        obtain ⟨z5, f5, -, e5⟩ := DataW.trod_int Try.underlying3 g5
        obtain ⟨z6, f6, -, -⟩ := DataW.trod_string Try.underlying9 g6
        rw [hxy] at hy9
        obtain ⟨av, l, f7, e7, b7⟩ := openz_I g7 fun n hn => hy9 n (by simp [DataW.weights, Try.underlying72, DataW.weightsEach]; simp [hn])
        simp only [List.cons.injEq, and_true] at f0 f1 f2 f3 f4 f5 f6 f7
        subst f0 f1 f2 f3 f4 f5 f6 f7
        exact ⟨⟨z0, z1, z2, z3, z4, z5, z6.data.toList, l⟩, ⟨⟨e0, e1, e2, e3, e4, e5⟩, _, e7, fun j y hj => hj⟩, b7⟩) fun z c c' k hp => hp.below (Below.refl _ _) k
  ⟨v, l, h1, h2, h3⟩
set_option maxRecDepth 10000 in
theorem openz_B {fuel : Nat} {cs : List Value} {x : DataW H × List MemPlace} (h : DataW.trod enc Try.prog W 0 sp true fuel 32 cs = some x) (hw : ∀ n ∈ x.1.weights Try.prog 32, n ≤ reachBytes) : ∃ v l, cs = [v] ∧ IsB W W.heap.size v l ∧ ∀ b ∈ l, ∀ i ∈ b.code, i.args.length ≤ argMax :=
  let ⟨v, l, h1, h2, h3, _⟩ := openz_L (R := (fun b => ∀ i ∈ b.code, i.args.length ≤ argMax)) Try.underlying32 cBl (by omega) h hw (fun fuel cs y hy hl hy9 => by
    obtain ⟨xs, k, hk, hxy0, _, hxl, hf⟩ := DataW.trod_struct Try.underlying46 hy
    have hxl2 : xs.length = 2 := hxl
    match cs, hl with
    | [v0, v1, v2, v3, v4], _ =>
      match xs, hxl2 with
      | [x0, x1], _ =>
        have g0 := hf 0 _ rfl; have g1 := hf 1 _ rfl
        clear hf
        simp [cIns, cEn] at g0 g1
        rw [hxy0] at hy9
        obtain ⟨cv, l, f0, e0, b0⟩ := openz_N g0 fun n hn => hy9 n (by simp [DataW.weights, Try.underlying46, DataW.weightsEach]; simp [hn])
        obtain ⟨xs, k, hk, hxy, _, hxl, hf⟩ := DataW.trod_struct Try.underlying37 g1
        have hxl4 : xs.length = 4 := hxl
        match xs, hxl4 with
        | [x0, x1, x2, x3], _ =>
          have g0 := hf 0 _ rfl; have g1 := hf 1 _ rfl; have g2 := hf 2 _ rfl; have g3 := hf 3 _ rfl
          clear hf
          simp [cI] at g0 g1 g2 g3
          obtain ⟨z1, f1, -, e1⟩ := DataW.trod_int Try.underlying3 g0
          obtain ⟨z2, f2, -, e2⟩ := DataW.trod_int Try.underlying3 g1
          obtain ⟨z3, f3, -, e3⟩ := DataW.trod_int Try.underlying3 g2
          obtain ⟨z4, f4, -, e4⟩ := DataW.trod_int Try.underlying3 g3
          simp only [List.cons.injEq, and_true] at f0 f1 f2 f3 f4
          subst f0 f1 f2 f3 f4
          exact ⟨⟨l, z1, z2, z3, z4⟩, ⟨⟨e1, e2, e3, e4⟩, _, e0, fun j y hj => hj⟩, b0⟩) fun z c c' k hp => hp.below (Below.refl _ _) k
  ⟨v, l, h1, h2, h3⟩
set_option maxRecDepth 10000 in
theorem openz_F {fuel : Nat} {cs : List Value} {x : DataW H × List MemPlace} (h : DataW.trod enc Try.prog W 0 sp true fuel 23 cs = some x) (hw : ∀ n ∈ x.1.weights Try.prog 23, n ≤ reachBytes) : ∃ v l, cs = [v] ∧ IsF W W.heap.size v l ∧ ∀ f ∈ l, SmC f :=
  let ⟨v, l, h1, h2, h3, _⟩ := openz_L (R := SmC) Try.underlying23 cCo (by omega) h hw (fun fuel cs y hy hl hy9 => by
    obtain ⟨xs, k, hk, hxy, _, hxl, hf⟩ := DataW.trod_struct Try.underlying34 hy
    have hxl5 : xs.length = 5 := hxl
    match cs, hl with
    | [v0, v1, v2, v3, v4], _ =>
      match xs, hxl5 with
      | [x0, x1, x2, x3, x4], _ =>
        have g0 := hf 0 _ rfl; have g1 := hf 1 _ rfl; have g2 := hf 2 _ rfl; have g3 := hf 3 _ rfl; have g4 := hf 4 _ rfl
        clear hf
        simp [cI, cS1, cIs, cBls] at g0 g1 g2 g3 g4
        obtain ⟨z0, f0, -, -⟩ := DataW.trod_string Try.underlying9 g0
        obtain ⟨z1, f1, -, e1⟩ := DataW.trod_int Try.underlying3 g1
        obtain ⟨z2, f2, -, e2⟩ := DataW.trod_int Try.underlying3 g2
        rw [hxy] at hy9
        obtain ⟨rv, l, f3, e3, b3⟩ := openz_I g3 fun n hn => hy9 n (by simp [DataW.weights, Try.underlying34, DataW.weightsEach]; simp [hn])
        obtain ⟨bv, k, f4, e4, b4⟩ := openz_B g4 fun n hn => hy9 n (by simp [DataW.weights, Try.underlying34, DataW.weightsEach]; simp [hn])
        simp only [List.cons.injEq, and_true] at f0 f1 f2 f3 f4
        subst f0 f1 f2 f3 f4
        exact ⟨⟨z0.data.toList, z1, z2, l, k⟩, ⟨⟨e1, e2⟩, _, _, e3, e4, fun j y hj => hj⟩, b4⟩) fun z c c' k hp => hp.below (Below.refl _ _) k
  ⟨v, l, h1, h2, h3⟩
set_option maxRecDepth 10000 in
theorem openz_G {fuel : Nat} {cs : List Value} {x : DataW H × List MemPlace} (h : DataW.trod enc Try.prog W 0 sp true fuel 22 cs = some x) (hw : ∀ n ∈ x.1.weights Try.prog 22, n ≤ reachBytes) : ∃ v l, cs = [v] ∧ IsG W W.heap.size v l ∧ True :=
  let ⟨v, l, h1, h2, h3, _⟩ := openz_L (R := (fun _ => True)) Try.underlying22 cGl (by omega) h hw (fun fuel cs y hy hl hy9 => by
    obtain ⟨xs, k, hk, hxy, _, hxl, hf⟩ := DataW.trod_struct Try.underlying51 hy
    have hxl4 : xs.length = 4 := hxl
    match cs, hl with
    | [v0, v1, v2, v3], _ =>
      match xs, hxl4 with
      | [x0, x1, x2, x3], _ =>
        have g0 := hf 0 _ rfl; have g1 := hf 1 _ rfl; have g2 := hf 2 _ rfl; have g3 := hf 3 _ rfl
        clear hf
        simp [cI, cS1] at g0 g1 g2 g3
        obtain ⟨z0, f0, -, -⟩ := DataW.trod_string Try.underlying9 g0
        obtain ⟨z1, f1, -, e1⟩ := DataW.trod_int Try.underlying3 g1
        obtain ⟨z2, f2, -, e2⟩ := DataW.trod_int Try.underlying3 g2
        obtain ⟨z3, f3, -, e3⟩ := DataW.trod_int Try.underlying3 g3
        simp only [List.cons.injEq, and_true] at f0 f1 f2 f3
        subst f0 f1 f2 f3
        exact ⟨⟨z0.data.toList, z1, z2, z3⟩, ⟨⟨e1, e2, e3⟩, fun j y hj => hj⟩, trivial⟩) fun z c c' k hp => ⟨hp.1, fun j y hj => (k j (some_ne (hp.2 j y hj))).trans (hp.2 j y hj)⟩
  ⟨v, l, h1, h2, trivial⟩
end
end Go.Proofs.Ytjmlpbnejcfnhaa
