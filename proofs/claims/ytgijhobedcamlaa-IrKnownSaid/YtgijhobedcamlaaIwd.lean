/-
  The kit's small functions over lists of numbers: Cut, SameInts, SameRun, CopyInts.
-/
import Derived.Test.YtgijhobedcamlaaIwc
import Derived.Deep.AppendLies
import Derived.RangeFuncBox
namespace Go.Proofs.Ytgijhobedcamlaa
open Go Go.RowKit Go.Maps
set_option linter.unusedVariables false
set_option linter.unusedSimpArgs false

/-- A list of numbers that can be read, whatever they are. -/
def RdV (w : World) (B : Nat) (v : Value) (l : List Int) : Prop := IsL w B 1 v l fun x cell => cell 0 = some (.int .i64 x)
theorem IsI.rd {w : World} {B : Nat} {v : Value} {l : List Int} (h : IsI w B v l) : RdV w B v l := IsL.keep h (Below.refl _ _) fun x c c' k hp => (k 0 (some_ne hp.1)).trans hp.1
theorem RdV.below {w w' : World} {B : Nat} {v : Value} {l : List Int} (h : RdV w B v l) (hb : Below B w w') : RdV w' B v l := IsL.keep h hb fun x c c' k hp => (k 0 (some_ne hp)).trans hp
theorem RdV.more {w : World} {B B' : Nat} {v : Value} {l : List Int} (h : RdV w B v l) (hB : B ≤ B') : RdV w B' v l := IsL.more h hB fun _ _ h => h
theorem RdV.on {w w' : World} {v : Value} {l : List Int} (h : RdV w w.heap.size v l) (hb : Below w.heap.size w w') : RdV w' w'.heap.size v l := (h.below hb).more hb.size
theorem RdV.drewN {w : World} {B : Nat} {v : Value} {l : List Int} (h : RdV w B v l) (d : Nat) : RdV (w.drewN d) B v l := h
theorem rdV_row {w : World} {base : Nat} {v : Value} {l : List Int} (h : w.ownsRow base tI1 1 v l.length (l.map (Value.int .i64))) : RdV w w.heap.size v l := by
  obtain ⟨h0, ⟨rfl, hn⟩ | ⟨g, cap, cur, rfl, hb, hg, hnc, hcm, hsz, hcur⟩⟩ := h
  · obtain rfl := List.length_eq_zero_iff.1 hn
    exact ⟨none, 0, rfl, Nat.le_refl _, by simp, fun _ => rfl, .inl rfl⟩
  · refine ⟨_, cap, rfl, hnc, hcm, fun h => (by cases h), .inr ⟨g, 0, rfl, (Array.getElem?_eq_some_iff.1 hg).1, fun i x hi => ?_⟩⟩
    show w.cell? ⟨g, 0 + i * 1 + 0, none⟩ = _
    rw [cell_of_row w g _ cur tI1 (0, 0) hg]
    have hil : i < l.length := (List.getElem?_eq_some_iff.1 hi).1
    have e : (cur.toList.take (l.length * 1))[i]? = some (Value.int .i64 x) := by rw [hcur, List.getElem?_map, hi]; rfl
    rw [List.getElem?_take_of_lt (by omega), Array.getElem?_toList] at e
    rw [show 0 + i * 1 + 0 = i by omega]
    exact e
/-- The first ones of a list. -/
theorem RdV.take {w : World} {B : Nat} {A : Option Addr} {n c : Nat} {l : List Int} (h : RdV w B (.slice A n c) l) {k : Nat} (hk : k ≤ n) : RdV w B (.slice A k c) (l.take k) := by
  obtain ⟨A', c', e, h1, h2, h3, h4⟩ := h
  simp only [Value.slice.injEq] at e
  obtain ⟨rfl, rfl, rfl⟩ := e
  refine ⟨A, c, by rw [List.length_take, Nat.min_eq_left hk], by rw [List.length_take]; omega, h2, h3, ?_⟩
  rcases h4 with rfl | ⟨g, o, e, hg, hx⟩
  · exact .inl (by simp)
  · refine .inr ⟨g, o, e, hg, fun i x hi => hx i x ?_⟩
    have hik : i < k := by
      have := (List.getElem?_eq_some_iff.1 hi).1
      rw [List.length_take] at this
      omega
    rwa [List.getElem?_take_of_lt hik] at hi
theorem isI_row {w : World} {base : Nat} {v : Value} {l : List Int} (h : w.ownsRow base tI1 1 v l.length (l.map (Value.int .i64))) (hw : ∀ x ∈ l, iw x) : IsI w w.heap.size v l := by
  obtain ⟨A, c, e, h1, h2, h3, h4⟩ := rdV_row h
  refine ⟨A, c, e, h1, h2, h3, h4.imp id ?_⟩
  rintro ⟨g, o, e, hg, hx⟩
  exact ⟨g, o, e, hg, fun i x hi => ⟨hx i x hi, hw x (List.mem_of_getElem? hi)⟩⟩
theorem IsI.all {w : World} {B : Nat} {v : Value} {l : List Int} (h : IsI w B v l) : ∀ x ∈ l, iw x := by
  obtain ⟨A, c, e, h1, h2, h3, h4⟩ := h
  rcases h4 with rfl | ⟨g, o, e, hg, hx⟩
  · simp
  · intro x hx'
    obtain ⟨i, hi⟩ := List.getElem?_of_mem hx'
    exact (hx i x hi).2
/-- Where the numbers of a list lie. -/
theorem RdV.at {w : World} {B : Nat} {A : Option Addr} {n c : Nat} {l : List Int} (h : RdV w B (.slice A n c) l) {k : Nat} (hk : k < n) : ∃ g o x, A = some ⟨g, o, none⟩ ∧ g < B ∧ l[k]? = some x ∧ w.cell? ⟨g, o + k, none⟩ = some (.int .i64 x) := by
  obtain ⟨A', c', e, h1, h2, h3, h4⟩ := h
  simp only [Value.slice.injEq] at e
  obtain ⟨rfl, rfl, rfl⟩ := e
  rcases h4 with rfl | ⟨g, o, e, hg, hx⟩
  · simp at hk
  · refine ⟨g, o, l[k], e, hg, List.getElem?_eq_getElem hk, ?_⟩
    have := hx k _ (List.getElem?_eq_getElem hk)
    simpa using this

theorem cut_any (v a b : Int) (w : World) : Calls Try.prog 9 #[.int .i64 v, .int .i64 a, .int .i64 b] w fun e w' => e = .returned (.int .i64 (max a (min v b))) ∧ Below w.heap.size w w' := by
  go_enter Try.func9, Try.ntmps9
  go_wp2
  all_goals go_ret
  all_goals refine ⟨?_, Below.refl _ _⟩
  all_goals first | rfl | (congr 2; omega) | (simp; omega)

set_option maxHeartbeats 2000000 in
set_option maxRecDepth 100000 in
theorem sameI_any (l : List Int) (va vb : Value) (B B' : Nat) (w : World) (h1 : RdV w B va l) (h2 : RdV w B' vb l) :
    Calls Try.prog 11 #[va, vb] w fun e w' => e = .returned (.bool true) ∧ ∃ d, w' = w.drewN d := by
  obtain ⟨A, c, rfl, hlc, hcm, -⟩ := h1.sl
  obtain ⟨A', c', rfl, hlc', hcm', -⟩ := h2.sl
  obtain ⟨n, hn⟩ : ∃ n, l.length = n := ⟨_, rfl⟩
  rw [hn] at hlc hlc' h1 h2 ⊢
  unfold maxLen at hcm hcm'
  have H1 := Lib.hid h1
  have H2 := Lib.hid h2
  clear h1 h2 hn
  go_enter Try.func11, Try.ntmps11
  go_wp2
  go_loopw [5] (fun v wr => ∃ k : Nat, k ≤ n ∧ v = .int .i64 k ∧ ∃ d, wr = w.drewN d) (fun v _ => n - (intOf v).toNat)
  case atStart => exact ⟨0, by omega, rfl, 0, rfl⟩
  case round =>
    obtain ⟨k, hk, rfl, d, rfl⟩ := hrel
    by_cases hlt : k < n
    · obtain ⟨g, o, x, rfl, hg, hx, hc1⟩ := H1.out.at hlt
      obtain ⟨g', o', x', rfl, hg', hx', hc2⟩ := H2.out.at hlt
      obtain rfl : x = x' := by rw [hx] at hx'; exact Option.some.inj hx'
      clear hx hx'
      go_wp2
      go_quiet (fail)
      go_wp2
      go_roundw
      case rel => exact ⟨k + 1, by omega, by go_num, _, rfl⟩
      case measure => simp [intOf]; omega
    · go_wp2
      go_ret
      exact ⟨rfl, d, rfl⟩

theorem boxes (w : World) (a b : Array Value) (t t' : TypeId) : Below w.heap.size w ((w.alloc (.cells a t)).alloc (.cells b t')) := ((Below.refl _ _).alloc (Nat.le_refl _) _).alloc (by simp) _

set_option maxHeartbeats 2000000 in
set_option maxRecDepth 100000 in
theorem sameR_any (r : Ran) (va vb : Value) (B B' : Nat) (w : World) (hB : B ≤ w.heap.size) (hB' : B' ≤ w.heap.size) (h1 : RdV w B va r.out) (h2 : RdV w B' vb r.out) :
    Calls Try.prog 12 #[ranV va r, ranV vb r] w fun e w' => e = .returned (.bool true) ∧ Below w.heap.size w w' := by
  obtain ⟨A, c, rfl, hlc, hcm, -⟩ := h1.sl
  obtain ⟨A', c', rfl, hlc', hcm', -⟩ := h2.sl
  obtain ⟨out, st, co⟩ := r
  unfold ranV
  simp only at *
  have hb := boxes w #[.slice A out.length c, .int .i64 st, .int .i64 co] #[.slice A' out.length c', .int .i64 st, .int .i64 co] tRn tRn
  have b1 : Blk ((w.alloc (.cells #[.slice A out.length c, .int .i64 st, .int .i64 co] tRn)).alloc (.cells #[.slice A' out.length c', .int .i64 st, .int .i64 co] tRn)) w.heap.size tRn #[.slice A out.length c, .int .i64 st, .int .i64 co] := (Blk.new w tRn _).alloc _
  have b2 := Blk.new (w.alloc (.cells #[.slice A out.length c, .int .i64 st, .int .i64 co] tRn)) tRn #[.slice A' out.length c', .int .i64 st, .int .i64 co]
  have e1 : (w.alloc (.cells #[.slice A out.length c, .int .i64 st, .int .i64 co] tRn)).heap.size = w.heap.size + 1 := by simp
  rw [e1] at b2
  have H1 := Lib.hid (h1.below (hb.mono hB))
  have H2 := Lib.hid (h2.below (hb.mono hB'))
  have HB := Lib.hid (And.intro hb (And.intro b1 b2))
  clear h1 h2 hb b1 b2 e1 hcm hcm' hlc hlc'
  go_enter Try.func12, Try.ntmps12
  go_upto_region 1 with (fail)
  generalize (w.alloc (.cells #[.slice A out.length c, .int .i64 st, .int .i64 co] tRn)).alloc (.cells #[.slice A' out.length c', .int .i64 st, .int .i64 co] tRn) = W1 at *
  have p0 : W1.cell? ⟨w.heap.size, 0, none⟩ = some (.slice A out.length c) := HB.out.2.1.cell 0
  have p1 : W1.cell? ⟨w.heap.size, 1, none⟩ = some (.int .i64 st) := HB.out.2.1.cell 1
  have p2 : W1.cell? ⟨w.heap.size, 2, none⟩ = some (.int .i64 co) := HB.out.2.1.cell 2
  have q0 : W1.cell? ⟨w.heap.size + 1, 0, none⟩ = some (.slice A' out.length c') := HB.out.2.2.cell 0
  have q1 : W1.cell? ⟨w.heap.size + 1, 1, none⟩ = some (.int .i64 st) := HB.out.2.2.cell 1
  have q2 : W1.cell? ⟨w.heap.size + 1, 2, none⟩ = some (.int .i64 co) := HB.out.2.2.cell 2
  have pl := HB.out.2.1.lt
  have ql := HB.out.2.2.lt
  have HS := Lib.hid (sameI_any out _ _ B B' W1 H1.out H2.out)
  go_wp2_with fail
  refine HS.out.mono ?_
  rintro e W2 ⟨rfl, d, rfl⟩
  go_wp2_with fail
  go_ret
  exact ⟨rfl, HB.out.1.trans ((below_drewN _ _ _))⟩

theorem appI {ops : Array Oper} {rest : List Oper} {op : Oper} {a : Act} {Q : Exit → Act → World → Prop}
    (B : Nat) (w0 W : World) (H : Nat) (hH : W.heap.size = H) (v : Value) (n : Nat) (xs : List Value) (x : Int) (s y : Operand)
    (hgd : op.guard = none) (ho : op.op = .call { callee := .builtin .append, args := #[s, y], argTypes := #[26, 26] }) (hs : a.eval s = v) (hy : a.eval y = .slice (some ⟨H, 0, none⟩) 1 1)
    (hrow : W.ownsRow B tI1 1 v n xs) (hb : Below B w0 W) (hB : B ≤ w0.heap.size) (hn : n ≤ 1400000)
    (h : ∀ v' w1, w1.ownsRow B tI1 1 v' (n + 1) (xs ++ [.int .i64 x]) → Below B w0 w1 → (∃ g cap, v' = .slice (some ⟨g, 0, none⟩) (n + 1) cap) → wpList Try.prog ops Q rest (a.put op.dst v') w1) :
    wpList Try.prog ops Q (op :: rest) a (W.alloc (.cells #[.int .i64 x] tI1)) := by
  subst hH
  obtain ⟨i0, hi, hz0, hz1, hz2⟩ := info_parts intInfo
  have hBW : B ≤ W.heap.size := Nat.le_trans hB hb.size
  have hnews : ∀ j u, (#[Value.int .i64 x]).toList[j]? = some u → (W.alloc (.cells #[.int .i64 x] tI1)).cell? ((⟨W.heap.size, 0, none⟩ : Addr).add j) = some u :=
    World.news_of_block (cs := #[.int .i64 x]) (heap_alloc_new W _)
  refine wpList_append_own _ hgd s y 26 ho B tI1 i0 (.int .i64 0) 1 8 Try.underlying26 hi hz0 hz1 hz2 rfl (by omega) v n _ hs (hrow.alloc _) ⟨W.heap.size, 0, none⟩ 1 1 [.int .i64 x] hy (by simp) hnews (by simp [Value.oneCell']) (by unfold maxLen; omega) ?_ (by simp; omega) ?_
  · omega
  · intro v' w1 hown hgrow _
    refine h v' w1 hown (hb.trans (((Below.refl _ W).alloc hBW _).grown hgrow (by simp; omega) (fun j ej => ?_))) (ownsRow_succ hown)
    rcases hrow.2 with ⟨rfl, _⟩ | ⟨g, cap, cur, rfl, hbg, _, _⟩
    · simp [Value.ownBlock] at ej
    · obtain rfl : g = j := by simpa [Value.ownBlock] using ej
      exact hbg

set_option maxHeartbeats 2000000 in
set_option maxRecDepth 100000 in
theorem copyI_any (l : List Int) (hl : l.length ≤ 1400000) (va : Value) (w : World) (h1 : RdV w w.heap.size va l) :
    Calls Try.prog 13 #[va] w fun e w' => ∃ v, e = .returned v ∧ w'.ownsRow w.heap.size tI1 1 v l.length (l.map (Value.int .i64)) ∧ Below w.heap.size w w' := by
  obtain ⟨A, c, rfl, hlc, hcm, -⟩ := h1.sl
  obtain ⟨n, hn⟩ : ∃ n, l.length = n := ⟨_, rfl⟩
  rw [hn] at hlc h1 hl ⊢
  unfold maxLen at hcm
  have H1 := Lib.hid h1
  have HN := Lib.hid hn
  clear h1 hn
  go_enter Try.func13, Try.ntmps13
  go_wp2
  go_loopw [3, 4] (fun v3 v wr => ∃ k : Nat, k ≤ n ∧ v = .int .i64 k ∧ wr.ownsRow w.heap.size tI1 1 v3 k ((l.take k).map (Value.int .i64)) ∧ Below w.heap.size w wr) (fun _ v _ => n - (intOf v).toNat)
  case atStart => exact ⟨0, by omega, rfl, World.ownsRow_nil _ _ _ _, Below.refl _ _⟩
  case round =>
    obtain ⟨k, hk, rfl, hrow, hb⟩ := hrel
    by_cases hlt : k < n
    · obtain ⟨g, o, x, rfl, hg, hx, hc1⟩ := H1.out.at hlt
      have hc2 : wr.cell? ⟨g, o + k, none⟩ = some (.int .i64 x) := (hb.cell (p := ⟨g, o + k, none⟩) hg).trans hc1
      have HT : Hid ((l.take (k + 1)).map (Value.int .i64) = (l.take k).map (Value.int .i64) ++ [.int .i64 x]) := Lib.hid (by
        obtain ⟨hkl, rfl⟩ := List.getElem?_eq_some_iff.1 hx
        rw [List.take_succ_eq_append_getElem hkl, List.map_append]
        rfl)
      have hgw : g < wr.heap.size := by have := hb.size; omega
      clear hx hc1
      go_wp2_with (at_builtin; refine appI w.heap.size w wr _ rfl _ k _ x _ _ rfl rfl rfl rfl hrow hb (Nat.le_refl _) (by omega) ?_; intro v' w1 hr1 hb1 hsh)
      go_roundw
      case rel => exact ⟨k + 1, by omega, by go_num, by rw [HT.out]; assumption, by assumption⟩
      case measure => simp [intOf]; omega
    · obtain rfl : k = n := by omega
      have e9 : l.take k = l := by rw [← HN.out, List.take_length]
      rw [e9] at hrow
      go_wp2
      go_ret
      exact ⟨_, rfl, hrow, hb⟩
end Go.Proofs.Ytgijhobedcamlaa
