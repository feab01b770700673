/-
  Layer parse: a function's parameters.
-/
import Derived.Test.YtfaoiajhoifalaaGreatDoorParu
namespace Go.Proofs.YtfaoiajhoifalaaGreatDoor
open Go.RowKit
set_option linter.unusedVariables false
set_option linter.unusedSimpArgs false

def pmC (p : Pm) : List Value := [.string (str p.s), .int .i64 p.ty]
def pmCells (l : List Pm) : List Value := l.flatMap pmC
theorem pmCells_snoc (l : List Pm) (x : Pm) : pmCells (l ++ [x]) = pmCells l ++ pmC x := by simp [pmCells]
theorem infoPm : (Tryz.prog.info? tP).map (fun i => (i.zero, i.size, i.bytes)) = some (some (.agg #[.string ⟨#[]⟩, .int .i64 0]), 2, 24) := by kernel_rfl
/-- Parameters in memory that is newer than w. -/
structure AccP (X : Rdr) (w W : World) (g n cp : Nat) (l : List Pm) : Prop where
  row : W.ownsRow X.base tP 2 (.slice (some ⟨g, 0, none⟩) n cp) n (pmCells l)
  new : w.heap.size ≤ g
theorem AccP.lt {X : Rdr} {w W : World} {g n cp : Nat} {l : List Pm} (h : AccP X w W g n cp l) : X.base ≤ g ∧ g < W.heap.size := h.row.lt g rfl
theorem AccP.blk {X : Rdr} {w W : World} {g n cp : Nat} {l : List Pm} (h : AccP X w W g n cp l) : ∃ cs, W.heap[g]? = some (.cells cs tP (0, 0)) := by
  rcases h.row.2 with ⟨hv, _⟩ | ⟨g', cap, cur, hv, _, hb, _⟩
  · cases hv
  · simp at hv; exact ⟨cur, by rw [hv.1]; exact hb⟩
theorem AccP.own {X : Rdr} {w W : World} {s : St} {ns : List NV} {u : Value} {g n cp : Nat} {l : List Pm} (h : AccP X w W g n cp l) (hA : At X W s ns u) : some g ≠ u.ownBlock := fun e => by
  obtain ⟨cs, hb⟩ := h.blk
  rcases hA.rows.2 with ⟨hv, _⟩ | ⟨g', cap, cur, hv, _, hgb, _⟩
  · rw [hv] at e; simp [Value.ownBlock] at e
  · rw [hv] at e
    simp [Value.ownBlock] at e
    rw [← e, hb] at hgb
    simp at hgb
    exact absurd hgb.2 (by decide)
theorem AccP.neb {X : Rdr} {w W : World} {s : St} {ns : List NV} {u : Value} {g n cp : Nat} {l : List Pm} (h : AccP X w W g n cp l) (hA : At X W s ns u) : g ≠ X.b := fun e => by
  obtain ⟨cs, hb⟩ := h.blk
  have h1 := hA.blk
  unfold Blk at h1
  rw [← e, hb] at h1
  simp at h1
  exact absurd h1.2 (by decide)
theorem AccP.kept {X : Rdr} {w W W' : World} {s : St} {ns : List NV} {u u' : Value} {g n cp : Nat} {l : List Pm} (h : AccP X w W g n cp l) (hA : At X W s ns u) (hk : Kp X W u W' u') : AccP X w W' g n cp l :=
  ⟨row_keep h.row fun i hi => hk.block i (h.row.lt i hi).2 (by simp [Value.ownBlock] at hi; rw [← hi]; exact h.neb hA) (by simp [Value.ownBlock] at hi; rw [← hi]; exact h.own hA), h.new⟩
theorem AccP.one {X : Rdr} {w W : World} {v u : Value} {s : St} {ns : List NV} (h : Cur X w v W s ns u) (p : Pm) : AccP X w (W.alloc (.cells (pmA p) tP)) W.heap.size 1 1 [p] :=
  ⟨World.ownsRow_lit (base := X.base) (e := tP) (size := 2) W (pmA p) 1 h.at_.baselt (by decide) rfl, h.kp.size⟩
theorem AccP.push {X : Rdr} {w W w1 : World} {v u : Value} {s : St} {ns : List NV} {g n cp g1 cp1 : Nat} {l : List Pm} {x : Pm} (h : AccP X w W g n cp l) (hC : Cur X w v W s ns u) {o : Obj}
    (hr : w1.ownsRow X.base tP 2 (.slice (some ⟨g1, 0, none⟩) (n + 1) cp1) (n + 1) (pmCells l ++ pmC x)) (hg : (W.alloc o).grownBy w1 (some g)) (hgl : some g = some g1 ∨ g1 = W.heap.size + 1) :
    Cur X w v w1 s ns u ∧ AccP X w w1 g1 (n + 1) cp1 (l ++ [x]) := by
  obtain ⟨cs, hb⟩ := h.blk
  have hb1 : (W.alloc o).heap[g]? = some (.cells cs tP (0, 0)) := (heap_alloc_old _ _ _ h.lt.2).trans hb
  have hA := (hC.alloc o).at_.far hb1 (by decide) h.lt.1 (h.own hC.at_) (fun i hi hne => hg.block i hi (fun e => by cases e; exact hne rfl)) hg.size
  have hlow : Below w.heap.size (W.alloc o) w1 := ⟨hg.os, hg.tape, hg.output, hg.size, fun k hk => hg.block k (Nat.lt_of_lt_of_le hk (hC.alloc o).kp.size) (fun e => by cases e; have := h.new; omega)⟩
  refine ⟨⟨hA, (hC.alloc o).kp.down hlow, (hC.alloc o).low.trans ⟨hg.os, hg.tape, hg.output, hg.size, fun k hk => hg.block k (by have := (hC.alloc o).at_.baselt; omega) (fun e => by cases e; have := h.lt.1; omega)⟩⟩, ⟨by rw [pmCells_snoc]; exact hr, ?_⟩⟩
  rcases hgl with e | e
  · cases e; exact h.new
  · have := hC.kp.size; omega
theorem AccP.len {X : Rdr} {w W : World} {g n cp : Nat} {l : List Pm} (h : AccP X w W g n cp l) : n = l.length := by
  have h1 := h.row.1
  have h2 : ∀ l : List Pm, (pmCells l).length = l.length * 2 := fun l => by
    induction l with
    | nil => rfl
    | cons a l ih => simp [pmCells] at *; rw [ih]; simp [pmC]; omega
  rw [h2] at h1
  omega

/-- The answer of parameters: a list in new memory. -/
def RP (X : Rdr) (w : World) (ns : List NV) (v : Value) (R : Rs (List Pm)) (e : Ending) (w' : World) : Prop :=
  match R with
  | .ok l s => ∃ g n cp, e = .returned (.slice (some ⟨g, 0, none⟩) n cp) ∧ Cur X w v w' s ns v ∧ AccP X w w' g n cp l
  | .er no p => e = Pan no p ∧ Below X.base w w'
  | .out => False

set_option maxHeartbeats 4000000 in
set_option maxRecDepth 100000 in
theorem params_any {X : Rdr} (n : Nat) {w : World} {s : St} {ns : List NV} {v : Value} (h : At X w s ns v) (hno : paramsM X.e n s ≠ .out) :
    Calls Tryz.prog 123 #[rd X] w (RP X w ns v (paramsM X.e n s)) := by
  have C0 := Lib.hid (Cur.start h)
  obtain ⟨i0, hi, hz0, hz1, hz2⟩ := info_parts infoPm
  obtain ⟨M, hM⟩ : ∃ M, paramsM X.e n s = M := ⟨_, rfl⟩
  rw [hM]
  have HM := Lib.hid hM
  have HMo : Hid (M ≠ .out) := Lib.hid (by rw [← hM]; exact hno)
  have HT := Lib.hid h.len
  clear hM hno h
  go_enter Tryz.func123, Tryz.ntmps123
  go_wp2_with fail
  refine (param_any C0.out).mono ?_
  intro e w1 hR
  rcases hR.cases with ⟨no, p, hm, rfl, hb⟩ | ⟨a1, s1, hm, rfl, hC, hK⟩
  · have HH := Lib.hid (And.intro (show M = .er no p by rw [← HM.out]; simp only [paramsM, hm, Rs.bind_er]) hb)
    clear hm hb hR
    go_wp2_with fail
    refine panic_end rfl ?_
    rw [HH.out.1]
    exact ⟨rfl, HH.out.2⟩
  have hM1 : M = moreM X.e n [a1] s1 := by rw [← HM.out]; simp only [paramsM, hm, Rs.bind_ok]
  have HM1 := Lib.hid hM1
  have C1 := Lib.hid hC
  have A1 := Lib.hid (AccP.one hC a1)
  clear hm hC hK hR hM1
  unfold pmV pmA
  go_wp2_with fail
  go_loopg [3] n (fun g s3 wx => ∃ (l : List Pm) (s' : St) (b m cp : Nat), g ≤ n ∧ s3 = .slice (some ⟨b, 0, none⟩) m cp ∧ m + s'.l.length ≤ X.T.length + 1 ∧ Cur X w v wx s' ns v ∧ AccP X w wx b m cp l ∧ M = moreM X.e g l s')
  case atStart => exact ⟨[a1], s1, w1.heap.size, 1, 1, Nat.le_refl _, rfl, by have := C1.out.at_.pos.2; omega, C1.out.alloc _, A1.out, HM1.out⟩
  case round =>
    obtain ⟨l, s', b, m, cp, hg, rfl, hml, hC, hA, hM1⟩ := hrel
    cases gk with
    | zero => exact absurd hM1 HMo.out
    | succ j =>
    have hM2 : M = if isT X.e [44] s' then (paramM X.e s'.nx).bind fun p s => moreM X.e j (l ++ [p]) s else .ok l s' := hM1
    have C2 := Lib.hid hC
    have A2 := Lib.hid hA
    have HM2 := Lib.hid hM2
    have HML := Lib.hid hml
    clear hC hA hM1 hM2 hml
    go_wp2_with fail
    refine (c_accept C2.out [44] (by simp)).mono ?_
    rintro e w3 ⟨rfl, hC, hK⟩
    have C3 := Lib.hid hC
    have A3 := Lib.hid (A2.out.kept C2.out.at_ hK)
    clear hC hK
    cases hq : isT X.e [44] s'
    · have ha : acc X.e [44] s' = s' := by simp [acc, hq]
      rw [ha] at C3
      have HE : Hid (M = .ok l s') := Lib.hid (by rw [HM2.out]; simp [hq])
      clear ha
      go_wp2_with fail
      go_ret
      rw [HE.out]
      exact ⟨b, m, cp, rfl, C3.out, A3.out⟩
    · have ha : acc X.e [44] s' = s'.nx := by simp [acc, hq]
      rw [ha] at C3
      have hM3 : M = (paramM X.e s'.nx).bind fun p s => moreM X.e j (l ++ [p]) s := by rw [HM2.out]; simp only [hq, if_true]
      have HM3 := Lib.hid hM3
      have hne : s'.l ≠ [] := fun e => by
        simp only [isT, pk, e, List.headD_nil, q_end C2.out.at_.fin, decide_eq_true_eq] at hq
        cases hq
      have hnx : s'.nx.l.length + 1 = s'.l.length := by
        cases hs : s'.l with
        | nil => exact absurd hs hne
        | cons t r => simp [St.nx, hs]
      clear ha hM3
      go_wp2_with fail
      refine (param_any C3.out).mono ?_
      intro e w4 hR
      rcases hR.cases with ⟨no, p, hm, rfl, hb⟩ | ⟨a4, s4, hm, rfl, hC, hK⟩
      · have HH := Lib.hid (And.intro (show M = .er no p by rw [HM3.out, hm]; rfl) hb)
        clear hm hb hR
        go_wp2_with fail
        refine panic_end rfl ?_
        rw [HH.out.1]
        exact ⟨rfl, HH.out.2⟩
      have hl4 : s4.l.length ≤ s'.nx.l.length := by
        have h1 := param_ends C2.out.at_.fin s'.nx
        rw [hm] at h1
        simp only [Ends, Rs.Sat] at h1
        omega
      have HM4 : Hid (M = moreM X.e j (l ++ [a4]) s4) := Lib.hid (by rw [HM3.out, hm]; rfl)
      have C4 := Lib.hid hC
      have A4 := Lib.hid (A3.out.kept C3.out.at_ hK)
      have hm2 : m + 1 ≤ 2000001 := by have := HML.out; have := HT.out; omega
      have hbase := hC.at_.baselt
      have HR4 := Lib.hid (A4.out.row.alloc (.cells (pmA a4) tP))
      have HN : Hid (∀ j u, (pmC a4)[j]? = some u → (w4.alloc (.cells (pmA a4) tP)).cell? ((⟨w4.heap.size, 0, none⟩ : Addr).add j) = some u) := Lib.hid (World.news_of_block (cs := pmA a4) (heap_alloc_new w4 _))
      have HML4 : Hid (m + 1 + s4.l.length ≤ X.T.length + 1) := Lib.hid (by have := HML.out; omega)
      clear hm hC hK hR
      unfold pmV pmA
      go_wp2_with (at_builtin; refine wpList_append_lies _ rfl _ _ 39 rfl X.base tP i0 _ 2 24 Tryz.underlying39 hi hz0 hz1 hz2 rfl (by decide) _ m _ rfl HR4.out ⟨w4.heap.size, 0, none⟩ 1 1 (pmC a4) rfl rfl HN.out (by simp [pmC, Value.oneCell']) (by decide) (by unfold maxLen; omega) (by omega) (by simp; omega) (w4.heap.size + 1) (by simp) ?_; intro g1 cp1 w5 hr5 hg5 hgl5 hlt5; have hp := A4.out.push C4.out hr5 hg5 hgl5; have HP := Lib.hid hp; clear hp hr5 hg5 hgl5)
      go_roundg j
      case measure => omega
      case rel => exact ⟨l ++ [a4], s4, g1, m + 1, cp1, by omega, rfl, HML4.out, HP.out.1, HP.out.2, HM4.out⟩
end Go.Proofs.YtfaoiajhoifalaaGreatDoor
