/-
  Layer parse: types' words, a node that is finished.
-/
import Derived.Test.YtfaoiajhoifalaaGreatDoorPara
import Derived.Deep.RegionWith
namespace Go.Proofs.YtfaoiajhoifalaaGreatDoor
open Go.RowKit
set_option linter.unusedVariables false
set_option linter.unusedSimpArgs false

set_option maxHeartbeats 1000000 in
theorem index_any (L : List Int) (n c : Nat) (hn : L.length = n) (hn2 : n ≤ 1000) (g : Nat) (cs : Array Value) (w : World) (hg : Blk w g tI cs) (hcs : ∀ (j : Nat) (x : Int), L[j]? = some x → cs[j]? = some (Value.int .i64 x)) (x : Int) :
    Calls Tryz.prog 148 #[.slice (some ⟨g, 0, none⟩) n c, .int .i64 x] w fun e w' => (∃ r : Int, e = .returned (.int .i64 r) ∧ decide (0 ≤ r) = decide (x ∈ L)) ∧ w' = w := by
  have hgl := hg.lt
  go_enter Tryz.func148, Tryz.ntmps148
  go_wp2_with fail
  go_loopw [8] (fun v wr => ∃ k : Nat, k ≤ n ∧ v = .int .i64 k ∧ wr = w ∧ ∀ j, (hj : j < L.length) → j < k → L[j] ≠ x) (fun v _ => n - (intOf v).toNat)
  case atStart => exact ⟨0, by omega, rfl, rfl, fun j _ h => by omega⟩
  case round =>
    obtain ⟨k, hk, rfl, rfl, hl⟩ := hrel
    by_cases hlt : k < n
    · have hLk : L[k]? = some (L[k]'(by omega)) := List.getElem?_eq_getElem _
      have hcell := (hg.cell k).trans (hcs k _ hLk)
      have hin : L[k]'(by omega) = x → decide (x ∈ L) = true := fun e => by rw [← e]; simp
      have hno : L[k]'(by omega) ≠ x → ∀ j, (hj : j < L.length) → j < k + 1 → L[j] ≠ x := fun hp j hj hjk => by
        rcases (by omega : j < k ∨ j = k) with h | rfl
        · exact hl j hj h
        · exact hp
      generalize L[k]'(by omega) = y at *
      have HI := Lib.hid hin
      have HN := Lib.hid hno
      clear hin hno hLk hcs hl
      by_cases hp : y = x
      · subst hp
        have e := HI.out rfl
        have HE := Lib.hid e
        clear e
        go_wp2_with fail
        go_ret
        exact ⟨⟨_, rfl, by have hm := HE.out; simp only [decide_eq_true_eq] at hm; simp [hm]⟩, rfl⟩
      · have e := HN.out hp
        have hp' : ¬ x = y := Ne.symm hp
        have HE := Lib.hid e
        clear e
        go_wp2_with fail
        go_roundw
        case rel => exact ⟨k + 1, by omega, by go_num, trivial, HE.out⟩
        case measure => simp [intOf]; omega
    · obtain rfl : k = n := by omega
      have e : decide (x ∈ L) = false := by
        simp only [decide_eq_false_iff_not]
        intro hx
        obtain ⟨j, hj, e⟩ := List.getElem_of_mem hx
        exact hl j hj (by omega) e
      have HE := Lib.hid e
      clear e hl
      go_wp2_with fail
      go_ret
      exact ⟨⟨_, rfl, by have hm := HE.out; simp only [decide_eq_false_iff_not] at hm; simp [hm]⟩, rfl⟩

set_option maxHeartbeats 1000000 in
theorem contains_any (L : List Int) (n c : Nat) (hn : L.length = n) (hn2 : n ≤ 1000) (g : Nat) (cs : Array Value) (w : World) (hg : Blk w g tI cs) (hcs : ∀ (j : Nat) (x : Int), L[j]? = some x → cs[j]? = some (Value.int .i64 x)) (x : Int) :
    Calls Tryz.prog 118 #[.slice (some ⟨g, 0, none⟩) n c, .int .i64 x] w fun e w' => e = .returned (.bool (decide (x ∈ L))) ∧ w' = w := by
  go_enter Tryz.func118, Tryz.ntmps118
  go_wp2_with fail
  refine (index_any L n c hn hn2 g cs w hg hcs x).mono ?_
  rintro e w1 ⟨⟨r, rfl, hr⟩, rfl⟩
  have HR := Lib.hid hr
  clear hr
  go_wp2_with fail
  go_ret
  exact ⟨ret_bool HR.out, rfl⟩

set_option maxHeartbeats 2000000 in
set_option maxRecDepth 100000 in
theorem typed_any {X : Rdr} {w : World} {s : St} {ns : List NV} {v : Value} (h : At X w s ns v) (L : List Int) (n c : Nat) (hn : L.length = n) (hn2 : n ≤ 1000) (g : Nat) (cs : Array Value)
    (hg : Blk w g tI cs) (hcs : ∀ (j : Nat) (x : Int), L[j]? = some x → cs[j]? = some (Value.int .i64 x)) :
    Calls Tryz.prog 80 #[rd X, .slice (some ⟨g, 0, none⟩) n c] w (R0 X w ns v (fun k => .int .i64 k) (typedM X.e L s)) := by
  go_enter Tryz.func80, Tryz.ntmps80
  go_wp2_with fail
  refine (peek_any h).mono ?_
  rintro e w1 ⟨rfl, b1⟩
  go_wp2_with fail
  refine (quoted_any _ w1).mono ?_
  rintro e w2 ⟨rfl, b2⟩
  have b02 := bb b1 b2
  have h2 := h.below b02
  go_wp2_with fail
  refine (typeNamed_any _ (q (pk X.e s)) (str_list _) w2 h2.env).mono ?_
  rintro e w3 ⟨rfl, rfl⟩
  have hg2 : Blk w2 g tI cs := (b02.block g hg.lt).trans hg
  have hb02 := h.down b02
  have k02 := Kp.of (X := X) (v := v) b02
  clear b1 b2 b02 h
  have hM : typedM X.e L s = if (typeNo (q (pk X.e s))).isSome = true ∧ (typeNo (q (pk X.e s))).getD 0 ∈ L then .ok ((typeNo (q (pk X.e s))).getD 0) s.nx else .er 2 (pk X.e s).p := by
    unfold typedM
    cases typeNo (q (pk X.e s)) with
    | none => simp [wrong_eq]
    | some k => simp [wrong_eq]
  have hne : (typeNo (q (pk X.e s))).isSome = true → s.l ≠ [] := fun h1 e => by
    simp only [pk, e, List.headD_nil, q_end h2.fin] at h1
    simp [typeNo, wVoid, wInt, wLong, wChar] at h1
  generalize hk : (typeNo (q (pk X.e s))).getD 0 = k at *
  cases hb : (typeNo (q (pk X.e s))).isSome
  · rw [hb] at hM
    simp only [Bool.false_eq_true, false_and, if_false] at hM
    have HM := Lib.hid hM
    clear hM hne
    go_wp2_with fail
    refine (wrong_any h2 2).mono ?_
    rintro e w3 ⟨rfl, b3⟩
    have HB := Lib.hid (hb02.trans (h2.down b3))
    go_wp2_with fail
    refine panic_end rfl ?_
    rw [HM.out]
    exact ⟨rfl, HB.out⟩
  · have hne2 := hne hb
    rw [hb] at hM
    simp only [true_and] at hM
    go_wp2_with fail
    refine (contains_any L n c hn hn2 g cs w2 hg2 hcs k).mono ?_
    rintro e w3 ⟨rfl, rfl⟩
    cases hd : decide (k ∈ L)
    · rw [if_neg (by simpa using hd)] at hM
      have HM := Lib.hid hM
      clear hM hne
      go_wp2_with fail
      refine (wrong_any h2 2).mono ?_
      rintro e w3 ⟨rfl, b3⟩
      have HB := Lib.hid (hb02.trans (h2.down b3))
      go_wp2_with fail
      refine panic_end rfl ?_
      rw [HM.out]
      exact ⟨rfl, HB.out⟩
    · rw [if_pos (by simpa using hd)] at hM
      have HM := Lib.hid hM
      clear hM hne
      go_wp2_with fail
      refine (next_any h2 hne2).mono ?_
      rintro e w3 ⟨rfl, h3, k3⟩
      have HH := Lib.hid (And.intro h3 (k02.trans k3))
      clear h2 h3 k3 k02
      go_wp2_with fail
      go_ret
      rw [HM.out]
      exact ⟨rfl, HH.out⟩

def nodeV (x : NV) : Value := .agg (cells8 x).toArray
theorem infoN : (Tryz.prog.info? tN).map (fun i => (i.zero, i.size, i.bytes)) = some (some (.agg #[.int .i64 0, .int .i64 0, .int .i64 0, .string ⟨#[]⟩, .int .i64 0, .slice none 0 0, .int .i64 0, .int .i64 0]), 8, 88) := by kernel_rfl

theorem At.push {X : Rdr} {w w1 w2 : World} {s : St} {ns : List NV} {v v' : Value} {x : NV} (h : At X w s ns v) (hb : Below w.heap.size w w1) (hg : w1.grownBy w2 v.ownBlock)
    (hr : w2.ownsRow X.base tN 8 v' (ns.length + 1) (cellsN ns ++ cells8 x)) (hx : w.ownsRow X.base tI 1 x.v x.kids.length (kidCells x.kids)) (hv : v'.ownBlock = v.ownBlock ∨ ∃ g, v'.ownBlock = some g ∧ w.heap.size ≤ g) (hs : s.c < 4000) :
    At X (w2.setCell ⟨X.b, 6, none⟩ v') ⟨s.l, s.c + 1⟩ (ns ++ [x]) v' ∧ Kp X w v (w2.setCell ⟨X.b, 6, none⟩ v') v' := by
  have hsz : w.heap.size ≤ w2.heap.size := Nat.le_trans hb.size hg.size
  have hk : ∀ i, i < w.heap.size → some i ≠ v.ownBlock → w2.heap[i]? = w.heap[i]? := fun i hi hne => (hg.block i (Nat.lt_of_lt_of_le hi hb.size) hne).trans (hb.block i hi)
  have hbv : some X.b ≠ v.ownBlock := h.blk.not_row (by decide) h.rows
  have hB2 : Blk w2 X.b tR (rdCells X (X.T.length - s.l.length) v) := (hk _ h.blk.lt hbv).trans h.blk
  have hset : ∀ g, g ≠ X.b → (w2.setCell ⟨X.b, 6, none⟩ v').heap[g]? = w2.heap[g]? := fun g hg => Below.heap_setCell w2 _ _ g hg
  have hbase := h.hb
  have hblt := h.blk.lt
  have hv' : some X.b ≠ v'.ownBlock := hB2.not_row (by decide) hr
  have kid : ∀ y : NV, w.ownsRow X.base tI 1 y.v y.kids.length (kidCells y.kids) → (w2.setCell ⟨X.b, 6, none⟩ v').ownsRow X.base tI 1 y.v y.kids.length (kidCells y.kids) := fun y hy => row_keep hy fun g hg => by
    have hlt := (hy.lt g hg).2
    have hn1 : g ≠ X.b := fun e => h.blk.not_row (by decide) hy (by rw [hg, e])
    refine (hset g hn1).trans (hk g hlt fun e => ?_)
    rcases hy.2 with ⟨hv, _⟩ | ⟨g', cap, cur, hv, _, hgb, _⟩
    · rw [hv] at hg; simp [Value.ownBlock] at hg
    · rw [hv] at hg
      simp [Value.ownBlock] at hg
      rcases h.rows.2 with ⟨hv2, _⟩ | ⟨g2, cap2, cur2, hv2, _, hgb2, _⟩
      · rw [hv2] at e; simp [Value.ownBlock] at e
      · rw [hv2] at e
        simp [Value.ownBlock] at e
        rw [hg, e, hgb2] at hgb
        simp at hgb
        exact absurd hgb.2 (by decide)
  refine ⟨{
    blk := by
      have h1 := hB2.set_ 6 v'
      exact h1
    suf := h.suf
    len := h.len
    toks := h.toks.keep fun g o hg => World.cell?_of_block (a := ⟨g, o, none⟩) ((hset g (by omega)).trans (hk g (by omega) fun e => by have := (h.rows.lt g e.symm).1; omega))
    txt := h.txt
    fin := h.fin
    cnt := by simp [h.cnt]
    max := by simp only; omega
    rows := by
      rw [cellsN_snoc, List.length_append]
      exact row_keep hr fun g hg => hset g fun e => hv' (by rw [hg, e])
    kids := fun y hy => by
      rcases List.mem_append.1 hy with hy | hy
      · exact kid y (h.kids y hy)
      · simp at hy; subst hy; exact kid y hx
    hb := h.hb
    env := h.env.same ((hset _ (by have := h.szE; omega)).trans (hk _ h.env.szY fun e => by have := (h.rows.lt _ e.symm).1; have := h.szE; omega)) (by simpa using hsz)
    szE := h.szE
    mph := (hset _ h.mbne).trans ((hk _ (Array.getElem?_eq_some_iff.1 h.mph).1 fun e => by
      rcases h.rows.2 with ⟨hv2, _⟩ | ⟨g2, cap2, cur2, hv2, _, hgb2, _⟩
      · rw [hv2] at e; simp [Value.ownBlock] at e
      · rw [hv2] at e
        simp [Value.ownBlock] at e
        have h1 := h.mph
        rw [e, hgb2] at h1
        have h3 := h.mpc
        rw [← Option.some.inj h1] at h3
        simp [Obj.isCells] at h3).trans h.mph)
    mpc := h.mpc }, ?_⟩
  exact ⟨(hg.os.trans hb.os), (hg.tape.trans hb.tape), (hg.output.trans hb.output), by simpa using hsz, fun i hi h1 h2 => (hset i h1).trans (hk i hi h2), hv⟩

/-- A node more. -/
def RN (X : Rdr) (w : World) (s : St) (ns : List NV) (v : Value) (x : NV) (e : Ending) (w' : World) : Prop :=
  if 4000 ≤ s.c then e = Pan 9 x.h.p ∧ Below X.base w w'
  else ∃ v', e = .returned (.int .i64 ns.length) ∧ At X w' ⟨s.l, s.c + 1⟩ (ns ++ [x]) v' ∧ Kp X w v w' v'

set_option maxHeartbeats 4000000 in
set_option maxRecDepth 100000 in
theorem add_any {X : Rdr} {w : World} {s : St} {ns : List NV} {v : Value} (h : At X w s ns v) (x : NV) (hx : w.ownsRow X.base tI 1 x.v x.kids.length (kidCells x.kids)) :
    Calls Tryz.prog 144 #[rd X, nodeV x] w (RN X w s ns v x) := by
  have hlt := h.blk.lt
  have hmax := h.max
  have hcnt := h.cnt
  have c6 := h.blk.cell 6
  have f6 := h.blk.frozen 6
  simp only [rdCells, List.getElem?_toArray, List.getElem?_cons_zero, List.getElem?_cons_succ] at c6
  obtain ⟨A, cp, hv⟩ : ∃ A cp, v = .slice A ns.length cp := by
    rcases h.rows.2 with ⟨hv, h0⟩ | ⟨g, cap, cur, hv, _⟩
    · exact ⟨none, 0, by rw [hv, h0]⟩
    · exact ⟨_, _, hv⟩
  by_cases h4 : 4000 ≤ s.c
  · have hl4 : (4000 : Int) ≤ (ns.length : Int) := by omega
    have hR : ∀ e w', e = Pan 9 x.h.p → Below X.base w w' → RN X w s ns v x e w' := fun e w' h1 h2 => by unfold RN; rw [if_pos h4]; exact ⟨h1, h2⟩
    have HR := Lib.hid hR
    have HB := Lib.hid h.baselt
    clear hR h
    subst hv
    unfold rd nodeV cells8
    go_enter Tryz.func144, Tryz.ntmps144
    go_wp2_with fail
    exact panic_end rfl (HR.out _ _ rfl ((Below.refl _ w).alloc HB.out _))
  · have hl4 : (ns.length : Int) < 4000 := by omega
    have hn4 : ns.length < 4000 := by omega
    have hR : ∀ e w' v', e = .returned (.int .i64 ns.length) → At X w' ⟨s.l, s.c + 1⟩ (ns ++ [x]) v' ∧ Kp X w v w' v' → RN X w s ns v x e w' := fun e w' v' h1 h2 => by unfold RN; rw [if_neg h4]; exact ⟨v', h1, h2⟩
    have HR := Lib.hid hR
    have hP := fun (w1 w2 : World) (v' : Value) hg hb hr hv => h.push (w1 := w1) (w2 := w2) (v' := v') (x := x) hb hg hr hx hv (by omega)
    have HP := Lib.hid hP
    clear hP
    obtain ⟨i0, hi, hz0, hz1, hz2⟩ := info_parts infoN
    have hrow1 := h.rows.alloc (.cells (cells8 x).toArray tN)
    have hrow2 := hrow1.alloc (.cells (cells8 x).toArray tN)
    have hb1 := (Below.refl _ w).alloc (Nat.le_refl _) (.cells (cells8 x).toArray tN)
    have hb2 := hb1.alloc (by have := hb1.size; exact this) (.cells (cells8 x).toArray tN)
    have hbase := h.baselt
    have hbv : some X.b ≠ v.ownBlock := h.blk.not_row (by decide) h.rows
    have hnews : ∀ j u, (cells8 x)[j]? = some u → ((w.alloc (.cells (cells8 x).toArray tN)).alloc (.cells (cells8 x).toArray tN)).cell? ((⟨w.heap.size + 1, 0, none⟩ : Addr).add j) = some u := by
      have := World.news_of_block (cs := (cells8 x).toArray) (heap_alloc_new (w.alloc (.cells (cells8 x).toArray tN)) (.cells (cells8 x).toArray tN))
      simpa using this
    have h1c : ∀ u ∈ cells8 x, u.oneCell' = true := by
      rcases hx.2 with ⟨hv2, _⟩ | ⟨g, cap, cur, hv2, _⟩ <;> simp [cells8, hv2, Value.oneCell']
    have HN := Lib.hid (And.intro hnews h1c)
    have HB := Lib.hid (And.intro hb1 hb2)
    have HW := Lib.hid hrow2
    clear hR h hnews h1c hb1 hb2 hrow1 hrow2 hx
    subst hv
    have HV := Lib.hid hbv
    clear hbv
    unfold rd nodeV
    simp only [cells8] at *
    go_enter Tryz.func144, Tryz.ntmps144
    go_wp2_with fail
    go_region_law (refine step_append_lies _ rfl (.tmp 19) (.tmp 21) 25 rfl X.base tN i0 _ 8 88 Tryz.underlying25 hi hz0 hz1 hz2 rfl (by decide) _ ns.length (cellsN ns) (by simp [Act.eval, Act.put]) HW.out ⟨w.heap.size + 1, 0, none⟩ 1 1 _ (by simp [Act.eval, Act.put]) rfl HN.out.1 HN.out.2 (by decide) (by unfold maxLen; omega) (by omega) (by simp; omega) (w.heap.size + 1 + 1) (by simp) ?_; intro g cap w2 hown hgrow hgl hlt2; have q6 := (hgrow.cell_far ⟨X.b, 6, none⟩ (by simp; omega) HV.out).trans ((World.cell?_alloc_past _ _ _ (by simp; omega)).trans ((World.cell?_alloc_past _ _ _ hlt).trans c6)); have r6 := (hgrow.frozen_far ⟨X.b, 6, none⟩ (by simp; omega) HV.out).trans ((World.frozen?_alloc_past _ _ _ (by simp; omega)).trans ((World.frozen?_alloc_past _ _ _ hlt).trans f6)); have q1 := HP.out _ w2 _ hgrow (HB.out.2.trans ⟨rfl, rfl, rfl, Nat.le_refl _, fun _ _ => rfl⟩) hown (by rcases hgl with e | e; exact .inl (by rw [e]; rfl); exact .inr ⟨g, rfl, by omega⟩); have HQ := Lib.hid q1; clear q1 hown hgrow)
    all_goals
      go_wp2_with fail
      go_ret
      exact HR.out _ _ _ (ret_int (by omega)) HQ.out
end Go.Proofs.YtfaoiajhoifalaaGreatDoor
