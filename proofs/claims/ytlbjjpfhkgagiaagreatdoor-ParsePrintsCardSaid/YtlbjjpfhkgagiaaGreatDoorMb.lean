/-
  Layer parse, printing: patterns; the pieces of one kid, of all kids. Layer parse, printing: the pieces of all kids; a list of pieces that grows. Layer parse, printing: the pieces of a node. Layer parse, printing: pieces turned round. PLAIN MATHEMATICS of layer parse: what waits to be printed. Layer parse, printing: a tree.
-/
import Derived.Test.YtlbjjpfhkgagiaaGreatDoorPrd
import Derived.Maps.AppendAt
import Derived.Deep.RegionHeld2
import Derived.Deep.RegionLaw
import Derived.Laws.AppendOwnNone
import Derived.Test.YtlbjjpfhkgagiaaGreatDoorPrc
import Derived.Test.YtlbjjpfhkgagiaaGreatDoorParp
import Derived.Deep.Cut
/-! Pre -/
namespace Go.Proofs.YtlbjjpfhkgagiaaGreatDoor
open Go.RowKit Go.Shelf
set_option linter.unusedVariables false
set_option linter.unusedSimpArgs false

theorem patL_any {op : Int} {n : Nat} (h15 : op ≠ 15) (h19 : op ≠ 19) : patL op n = patL op 0 := by
  unfold patL
  simp only [if_neg h15, if_neg h19]
theorem arity_range {op : Int} {n : Nat} (h : arity op n = true) : 1 ≤ op ∧ op ≤ 21 := by
  rcases arity_cases h with ⟨ho, _⟩ | ⟨ho, _⟩ | ⟨ho, _⟩ | ⟨ho, _⟩ | ⟨ho, _⟩ | ⟨ho, _⟩ | ⟨ho, _⟩ | ho <;> omega

set_option maxHeartbeats 4000000 in
set_option maxRecDepth 100000 in
theorem pattern_any {B : Nat} (x : NV) (w : World) (hE : EnvW B w) (ha : arity x.h.op x.kids.length = true) (hv : ∃ A c, x.v = .slice A x.kids.length c) :
    Calls Tryz.prog 136 #[nodeV x] w fun e w' => e = .returned (.string (str (patS (patL x.h.op x.kids.length)))) ∧ Below w.heap.size w w' := by
  obtain ⟨A, c, hv⟩ := hv
  obtain ⟨h, ks, v⟩ := x
  simp only at hv ha ⊢
  subst hv
  have hr := arity_range ha
  have HB : Hid (∀ o : Obj, Below w.heap.size w (w.alloc o)) := Lib.hid (fun o => (Below.refl w.heap.size w).alloc (Nat.le_refl _) o)
  unfold nodeV cells8
  simp only
  generalize hn : ks.length = n at *
  by_cases h15 : h.op = 15
  · have hc : n = 2 ∨ n = 3 := by
      rw [h15] at ha
      simpa [arity] using ha
    rw [h15]
    obtain ⟨pc, pl⟩ := hE.patCell (k := 15) (by omega)
    clear hn ha h15 hr hE
    rcases hc with rfl | rfl
    · have e : patL 15 2 = patL ((15 : Nat) : Int) 0 := rfl
      rw [e]
      generalize patL ((15 : Nat) : Int) 0 = z at pc ⊢
      clear e
      go_enter Tryz.func136, Tryz.ntmps136
      go_wp2
      go_ret
      exact ⟨rfl, HB.out _⟩
    · go_enter Tryz.func136, Tryz.ntmps136
      go_wp2
      go_ret
      exact ⟨rfl, HB.out _⟩
  · by_cases h19 : h.op = 19
    · have hc : n = 0 ∨ n = 1 := by
        rw [h19] at ha
        simpa [arity] using ha
      rw [h19]
      obtain ⟨pc, pl⟩ := hE.patCell (k := 19) (by omega)
      clear hn ha h15 h19 hr hE
      rcases hc with rfl | rfl
      · have e : patL 19 0 = patL ((19 : Nat) : Int) 0 := rfl
        rw [e]
        generalize patL ((19 : Nat) : Int) 0 = z at pc ⊢
        clear e
        go_enter Tryz.func136, Tryz.ntmps136
        go_wp2
        go_ret
        exact ⟨rfl, HB.out _⟩
      · go_enter Tryz.func136, Tryz.ntmps136
        go_wp2
        go_ret
        exact ⟨rfl, HB.out _⟩
    · rw [patL_any h15 h19]
      have d15 : (h.op == 15) = false := by simpa using h15
      have d19 : (h.op == 19) = false := by simpa using h19
      obtain ⟨k, hk⟩ : ∃ k : Nat, h.op = k := ⟨h.op.toNat, by omega⟩
      rw [hk] at d15 d19 ⊢
      have hk22 : k < 22 := by omega
      obtain ⟨pc, pl⟩ := hE.patCell hk22
      clear hn ha h15 h19 hr hE hk
      go_enter Tryz.func136, Tryz.ntmps136
      go_wp2
      go_ret
      exact ⟨rfl, HB.out _⟩

/-! pieces in memory -/
def pzC : Pz → List Value
  | .tk s => [.string (str s), .int .i64 0]
  | .nd _ k c => [.string (str []), .int .i64 (c + k.size : Nat)]
def pzCells (l : List Pz) : List Value := l.flatMap pzC
theorem pzCells_app (a b : List Pz) : pzCells (a ++ b) = pzCells a ++ pzCells b := by simp [pzCells]
theorem pzCells_len (l : List Pz) : (pzCells l).length = l.length * 2 := by
  induction l with
  | nil => rfl
  | cons a l ih => simp only [pzCells, List.flatMap_cons, List.length_append, List.length_cons] at *; rw [ih]; cases a <;> simp [pzC] <;> omega
theorem infoZ : (Tryz.prog.info? tZ).map (fun i => (i.zero, i.size, i.bytes)) = some (some (.agg #[.string ⟨#[]⟩, .int .i64 0]), 2, 24) := by kernel_rfl
/-- The answer of a call that makes pieces. -/
def RZ (w : World) (l : List Pz) (e : Ending) (w' : World) : Prop :=
  ∃ v, e = .returned v ∧ w'.ownsRow w.heap.size tZ 2 v l.length (pzCells l) ∧ Below w.heap.size w w'
theorem RZ.lit {w W : World} {l : List Pz} {cs : Array Value} {n : Nat} (hb : Below w.heap.size w W) (hn : l.length = n) (hn2 : n ≤ 100) (hcs : cs.toList = pzCells l) :
    RZ w l (.returned (.slice (some ⟨W.heap.size, 0, none⟩) n n)) (W.alloc (.cells cs tZ)) := by
  subst hn
  refine ⟨_, rfl, ?_, hb.alloc hb.size _⟩
  rw [← hcs]
  refine World.ownsRow_lit (base := w.heap.size) (e := tZ) (size := 2) W cs l.length hb.size ?_ ?_
  · unfold maxLen; omega
  · rw [← Array.length_toList, hcs, pzCells_len]

set_option maxHeartbeats 4000000 in
set_option maxRecDepth 100000 in
theorem kid_any {B b : Nat} {w : World} {nv : Value} {ns : List NV} (hN : Nds w B nv ns) (hc3 : w.cell? ⟨b, 3, none⟩ = some nv) (hbl : b < w.heap.size) (hB : B ≤ w.heap.size) (x y : NV) (i j : Nat) (hx : NdI w B x) (hj : x.kids[i]? = some j) (hy : ns[j]? = some y)
    (h' : Hd) (k' : Fo) (c' : Nat) (hh : y.h = h') (hjc : j = c' + k'.size) :
    Calls Tryz.prog 138 #[.pointer (some ⟨b, 0, none⟩), nodeV x, .int .i64 i] w (RZ w (kidP x.h i (some (.nd h' k' c')))) := by
  subst hh
  obtain ⟨A, c, hsl, hrd⟩ := hN.sl
  subst hsl
  obtain ⟨g, o, rfl, hg, hcs⟩ : ∃ g o, A = some ⟨g, o, none⟩ ∧ g < B ∧ ∀ i x, ns[i]? = some x → ∀ j, j < 8 → w.cell? ⟨g, o + i * 8 + j, none⟩ = (cells8 x)[j]? := by
    rcases hrd with rfl | h
    · simp at hy
    · exact h
  obtain ⟨A2, c2, hv, hv1, hv2, hri⟩ := hx
  obtain ⟨g2, o2, rfl, hg2, hcs2⟩ : ∃ g o, A2 = some ⟨g, o, none⟩ ∧ g < B ∧ ∀ i k, x.kids[i]? = some k → w.cell? ⟨g, o + i, none⟩ = some (.int .i64 (k : Nat)) := by
    rcases hri with h | h
    · rw [h] at hj; simp at hj
    · exact h
  have y0 := hcs j y hy 0 (by omega)
  have y1 := hcs j y hy 1 (by omega)
  have y2 := hcs j y hy 2 (by omega)
  have y3 := hcs j y hy 3 (by omega)
  have y4 := hcs j y hy 4 (by omega)
  have y5 := hcs j y hy 5 (by omega)
  have y6 := hcs j y hy 6 (by omega)
  have y7 := hcs j y hy 7 (by omega)
  have z0 := hcs2 i j hj
  have hjl : j < ns.length := (List.getElem?_eq_some_iff.1 hy).1
  have hil : i < x.kids.length := (List.getElem?_eq_some_iff.1 hj).1
  have hgl : g < w.heap.size := by omega
  have hgl2 : g2 < w.heap.size := by omega
  simp only [cells8, List.getElem?_cons_zero, List.getElem?_cons_succ, Nat.add_zero] at y0 y1 y2 y3 y4 y5 y6 y7
  generalize hnl : ns.length = nl at *
  generalize hkl : x.kids.length = kl at *
  have HE := Lib.hid hjc
  clear hN hrd hcs hri hcs2 hy hj hnl hkl hjc
  unfold nodeV cells8
  rw [hv]
  clear hv
  go_enter Tryz.func138, Tryz.ntmps138
  cases hq : encl x.h i y.h
  · have hP : kidP x.h i (some (.nd y.h k' c')) = [.nd y.h k' c'] := by simp [kidP, hq]
    rw [hP]
    clear hP
    go_wp2_with fail
    go_region_with (go_at_call 159; refine (enclosed_any' ⟨x.h, x.kids, .slice (some ⟨g2, o2, none⟩) kl c2⟩ y i _).mono ?_; rw [hq]; rintro e w1 ⟨rfl, hb1⟩; obtain ⟨hcl, hfr⟩ := bcell hb1)
    all_goals
      have hb2 : Below w.heap.size w w1 := ((((Below.refl _ w).alloc (Nat.le_refl _) _).alloc (by simp) _).drew).trans (hb1.mono (by simp; omega))
      have HB2 := Lib.hid hb2
      have hs1 : w.heap.size + 1 < w1.heap.size := by have := hb1.size; simp at this; omega
      clear hb1 hb2
      go_wp2
      go_ret
      exact RZ.lit HB2.out rfl (by omega) (by rw [HE.out]; rfl)
  · have hP : kidP x.h i (some (.nd y.h k' c')) = [.tk [40], .nd y.h k' c', .tk [41]] := by simp [kidP, hq]
    rw [hP]
    clear hP
    go_wp2_with fail
    go_region_with (go_at_call 159; refine (enclosed_any' ⟨x.h, x.kids, .slice (some ⟨g2, o2, none⟩) kl c2⟩ y i _).mono ?_; rw [hq]; rintro e w1 ⟨rfl, hb1⟩; obtain ⟨hcl, hfr⟩ := bcell hb1)
    all_goals
      have hb2 : Below w.heap.size w w1 := ((((Below.refl _ w).alloc (Nat.le_refl _) _).alloc (by simp) _).drew).trans (hb1.mono (by simp; omega))
      have HB2 := Lib.hid hb2
      have hs1 : w.heap.size + 1 < w1.heap.size := by have := hb1.size; simp at this; omega
      clear hb1 hb2
      go_wp2
      go_ret
      exact RZ.lit HB2.out rfl (by omega) (by rw [HE.out]; rfl)

end Go.Proofs.YtlbjjpfhkgagiaaGreatDoor
/-! Prf -/
namespace Go.Proofs.YtlbjjpfhkgagiaaGreatDoor
open Go.RowKit Go.Shelf
set_option linter.unusedVariables false
set_option linter.unusedSimpArgs false

theorem below_grown {base : Nat} {W w1 : World} {v : Value} {n : Nat} {l : List Pz} (hbase : base ≤ W.heap.size) (hrow : W.ownsRow base tZ 2 v n (pzCells l)) (hg : W.grownBy w1 v.ownBlock) : Below base W w1 :=
  ⟨hg.os, hg.tape, hg.output, hg.size, fun k hk => hg.block k (by omega) (fun e => by have := (hrow.lt k e.symm).1; omega)⟩
/-- 'l = append(l, p)': the block of the new piece is laid; l is the call's own. -/
theorem appz_law {ops : Array Oper} {rest : List Oper} {op : Oper} {a : Act} {Q : Exit → Act → World → Prop} (base : Nat) (W : World) (H : Nat) (hH : W.heap.size = H) (hbase : base ≤ W.heap.size) (v : Value) (n : Nat) (l : List Pz) (p : Pz) (cs : Array Value) (hcs : cs.toList = pzC p) (s x : Operand)
    (hgd : op.guard = none) (ho : op.op = .call { callee := .builtin .append, args := #[s, x], argTypes := #[142, 142] }) (hs : a.eval s = v) (hx : a.eval x = .slice (some ⟨H, 0, none⟩) 1 1)
    (hrow : W.ownsRow base tZ 2 v n (pzCells l)) (hn : n ≤ 1000000)
    (h : ∀ g cp w1, w1.ownsRow base tZ 2 (.slice (some ⟨g, 0, none⟩) (n + 1) cp) (n + 1) (pzCells (l ++ [p])) → Below base W w1 → wpList Tryz.prog ops Q rest (a.put op.dst (.slice (some ⟨g, 0, none⟩) (n + 1) cp)) w1) :
    wpList Tryz.prog ops Q (op :: rest) a (W.alloc (.cells cs tZ)) := by
  subst hH
  obtain ⟨i0, hi, hz0, hz1, hz2⟩ := info_parts infoZ
  have hnews : ∀ j u, (pzC p)[j]? = some u → (W.alloc (.cells cs tZ)).cell? ((⟨W.heap.size, 0, none⟩ : Addr).add j) = some u := by
    rw [← hcs]; exact World.news_of_block (cs := cs) (heap_alloc_new W _)
  have h1c : ∀ u ∈ pzC p, u.oneCell' = true := by cases p <;> simp [pzC, Value.oneCell']
  have hl1 : (pzC p).length = 1 * 2 := by cases p <;> simp [pzC]
  refine wpList_append_lies _ hgd s x _ ho base tZ i0 (.agg #[.string ⟨#[]⟩, .int .i64 0]) 2 24 Tryz.underlying142 hi hz0 hz1 hz2 rfl (by decide) v n _ hs (hrow.alloc _) ⟨W.heap.size, 0, none⟩ 1 1 (pzC p) hx hl1 hnews h1c (by decide) (by unfold maxLen; omega) (by omega) (by simp; omega) (W.heap.size + 1) (by simp) ?_
  intro g cp w1 hr hg hgl hlt
  refine h g cp w1 (by rw [pzCells_app]; simpa [pzCells] using hr) (((Below.refl _ _).alloc hbase _).trans (below_grown (by simp; omega) (hrow.alloc _) hg))
/-- 'l = append(l, m...)', m made by a call. -/
theorem appn_step {ops : Array Oper} {o : Oper} {a : Act} {K : Act → World → Prop} {Q : Exit → Act → World → Prop} {E : Prop} (base : Nat) (W : World) (hbase : base ≤ W.heap.size) (v u : Value) (n m : Nat) (l l2 : List Pz) (hm : l2.length = m) (hm0 : 0 < m) (hm2 : m ≤ 1000000) (s x : Operand) (B2 : Nat)
    (hgd : o.guard = none) (ho : o.op = .call { callee := .builtin .append, args := #[s, x], argTypes := #[142, 142] }) (hs : a.eval s = v) (hx : a.eval x = u)
    (hrow : W.ownsRow base tZ 2 v n (pzCells l)) (hrow2 : W.ownsRow B2 tZ 2 u m (pzCells l2)) (hn : n ≤ 1000000)
    (h : ∀ g cp w1, w1.ownsRow base tZ 2 (.slice (some ⟨g, 0, none⟩) (n + m) cp) (n + m) (pzCells (l ++ l2)) → Below base W w1 → K (a.put o.dst (.slice (some ⟨g, 0, none⟩) (n + m) cp)) w1) :
    if Region.wanted o (yielded ops a.tmps) = true then Oper.wp Tryz.prog o a W K Q else E := by
  obtain ⟨i0, hi, hz0, hz1, hz2⟩ := info_parts infoZ
  obtain ⟨g2, c2, hu⟩ : ∃ g c, u = .slice (some ⟨g, 0, none⟩) m c := by
    rcases hrow2.2 with ⟨_, h0⟩ | ⟨g, cap, cur, hv, _⟩
    · omega
    · exact ⟨g, cap, hv⟩
  subst hu
  have h1c : ∀ u ∈ pzCells l2, u.oneCell' = true := by
    intro u hu
    obtain ⟨p, _, hp⟩ := List.mem_flatMap.1 hu
    cases p <;> simp [pzC] at hp <;> rcases hp with rfl | rfl <;> rfl
  refine step_append_lies _ hgd s x _ ho base tZ i0 (.agg #[.string ⟨#[]⟩, .int .i64 0]) 2 24 Tryz.underlying142 hi hz0 hz1 hz2 rfl (by decide) v n _ hs hrow ⟨g2, 0, none⟩ m c2 (pzCells l2) hx (by rw [pzCells_len, hm]) (hrow2.cells rfl) h1c hm0 (by unfold maxLen; omega) (by omega) hbase W.heap.size rfl ?_
  intro g cp w1 hr hg hgl hlt
  exact h g cp w1 (by rw [pzCells_app]; exact hr) (below_grown hbase hrow hg)
/-- The same, m being nil. -/
theorem appn_none {ops : Array Oper} {o : Oper} {a : Act} {K : Act → World → Prop} {Q : Exit → Act → World → Prop} {E : Prop} (base : Nat) (W : World) (v : Value) (n : Nat) (l : List Pz) (s x : Operand)
    (hgd : o.guard = none) (ho : o.op = .call { callee := .builtin .append, args := #[s, x], argTypes := #[142, 142] }) (hs : a.eval s = v) (hx : a.eval x = .slice none 0 0)
    (hrow : W.ownsRow base tZ 2 v n (pzCells l)) (h : K (a.put o.dst v) W) :
    if Region.wanted o (yielded ops a.tmps) = true then Oper.wp Tryz.prog o a W K Q else E := by
  obtain ⟨i0, hi, hz0, hz1, hz2⟩ := info_parts infoZ
  have hw : Region.wanted o (yielded ops a.tmps) = true := by simp [Region.wanted, hgd]
  rw [if_pos hw]
  have hrun := run_append_owned_none (P := Tryz.prog) (w := W) base 142 o.type tZ i0 2 Tryz.underlying142 hi v n (pzCells l) hrow
  unfold Oper.wp
  simp [execOp, ho, resolve, invoke, builtin, hs, hx, hrun, Result.andThen]
  exact h

/-- The pieces of a node's kids, each of which has its place; x between any two. -/
def placed : List Pz → List Nat → Prop
  | [], [] => True
  | .nd _ k c :: l, i :: ks => i = c + k.size ∧ placed l ks
  | _, _ => False
theorem placed_at {l : List Pz} : ∀ {ks : List Nat}, placed l ks → ∀ (i k : Nat), ks[i]? = some k → ∃ (h' : Hd) (k' : Fo) (c' : Nat), l[i]? = some (Pz.nd h' k' c') ∧ k = c' + Fo.size k' := by
  induction l with
  | nil => intro ks hp i k h; cases ks with
    | nil => simp at h
    | cons a b => simp [placed] at hp
  | cons p l ih =>
    intro ks hp i k h
    cases ks with
    | nil => cases p <;> simp [placed] at hp
    | cons j ks =>
      cases p with
      | tk s => simp [placed] at hp
      | nd h' k' c' =>
        cases i with
        | zero => simp at h; exact ⟨h', k', c', rfl, by rw [← h]; exact hp.1⟩
        | succ i => simp at h; obtain ⟨a, b, c, h1, h2⟩ := ih hp.2 i k h; exact ⟨a, b, c, by simpa using h1, h2⟩
theorem placed_kids (k : Fo) : ∀ c, placed (kidsP c k) (k.roots c) := by
  induction k with
  | nil => intro c; trivial
  | cons h k r _ ih => intro c; exact ⟨rfl, ih _⟩
theorem placed_len {l : List Pz} : ∀ {ks : List Nat}, placed l ks → l.length = ks.length := by
  induction l with
  | nil => intro ks hp; cases ks with
    | nil => rfl
    | cons a b => simp [placed] at hp
  | cons p l ih =>
    intro ks hp
    cases ks with
    | nil => cases p <;> simp [placed] at hp
    | cons j ks =>
      cases p with
      | tk s => simp [placed] at hp
      | nd h' k' c' => simp [ih hp.2]
/-- The pieces so far. -/
def sepX (x : List UInt8) (l : List Pz) : List Pz := if x = [] then l else sepP x l
theorem sepX_snoc (x : List UInt8) (l : List Pz) (p : Pz) : sepX x (l ++ [p]) = sepX x l ++ (if x ≠ [] ∧ l ≠ [] then [.tk x, p] else [p]) := by
  unfold sepX
  by_cases hx : x = []
  · simp [hx]
  · cases l with
    | nil => simp [hx, sepP]
    | cons a l => simp [hx, sepP]

set_option maxHeartbeats 4000000 in
set_option maxRecDepth 100000 in
theorem kids_any {B : Nat} {w : World} (x : NV) (hx : NdI w B x) (hB : B ≤ w.heap.size) (hl : x.kids.length ≤ 4000) (l : List Pz) (hp : placed l x.kids) (sep : List UInt8) (zz : ByteArray) (hzz : zz.toList = sep) :
    Calls Tryz.prog 139 #[nodeV x, .string zz] w (fun e w' => RZ w (sepX sep l) e w' ∧ (l = [] → e = .returned (.slice none 0 0))) := by
  obtain rfl := eq_list hzz
  clear hzz
  obtain ⟨A, c, hv, hv1, hv2, hri⟩ := hx
  obtain ⟨hh, ks, v⟩ := x
  simp only at hv hv1 hri hl hp ⊢
  subst hv
  have hpl := placed_len hp
  have HP := Lib.hid hp
  obtain ⟨n, hn⟩ : ∃ n, ks.length = n := ⟨_, rfl⟩
  rw [hn] at hv1 hl hpl
  have HN := Lib.hid hn
  have HPL := Lib.hid hpl
  have HRI := Lib.hid hri
  have HZ := Lib.hid (show (str sep).toList = sep from str_list sep)
  unfold nodeV cells8
  simp only
  rw [hn]
  clear hp hn hpl hri
  go_enter Tryz.func139, Tryz.ntmps139
  go_wp2_with fail
  go_loopw [5, 11] (fun y z wr => ∃ (k m : Nat), (k ≤ n ∧ (k = 0 → y = .slice none 0 0)) ∧ z = .int .i64 k ∧ (m = (sepX sep (l.take k)).length ∧ m ≤ 2 * k) ∧ wr.ownsRow w.heap.size tZ 2 y m (pzCells (sepX sep (l.take k))) ∧ Below w.heap.size w wr) (fun _ z _ => n - (intOf z).toNat)
  case atStart => exact ⟨0, 0, ⟨by omega, fun _ => rfl⟩, rfl, ⟨by simp [sepX, sepP], by omega⟩, by simpa [sepX, sepP, pzCells] using World.ownsRow_nil _ _ _ _, (Below.refl _ _).alloc (Nat.le_refl _) _⟩
  case round =>
    obtain ⟨k, m, ⟨hk, hk9⟩, rfl, ⟨hm, hm2⟩, hrow, hb⟩ := hrel
    have HK9 := Lib.hid hk9
    clear hk9
    have HM := Lib.hid hm
    have HROW := Lib.hid hrow
    have HB := Lib.hid hb
    clear hm hrow hb
    by_cases hlt : k < n
    · have hki : k < ks.length := by rw [HN.out]; exact hlt
      obtain ⟨g, o, rfl, hg, hcs⟩ : ∃ g o, A = some ⟨g, o, none⟩ ∧ g < B ∧ ∀ i k, ks[i]? = some k → wr.cell? ⟨g, o + i, none⟩ = some (.int .i64 (k : Nat)) := by
        rcases HRI.out.below (HB.out.mono hB) with h | h
        · rw [h] at hki; simp at hki
        · exact h
      have z0 := hcs k _ (List.getElem?_eq_getElem hki)
      obtain ⟨h', k', c', hlk, hkc⟩ := placed_at HP.out k _ (List.getElem?_eq_getElem hki)
      have hgl : g < wr.heap.size := by have := HB.out.size; omega
      generalize ks[k] = kk at *
      have hts : l.take (k + 1) = l.take k ++ [.nd h' k' c'] := by
        rw [List.take_add_one, hlk]; rfl
      have hz : ∀ cs : Array Value, cs = #[.string ⟨#[]⟩, .int .i64 kk] → cs.toList = pzC (.nd h' k' c') := fun cs e => by rw [e, hkc]; rfl
      have HTS := Lib.hid hts
      have HZC := Lib.hid hz
      have hml : (l.take k = [] ↔ k = 0) := by
        constructor
        · intro h
          have := congrArg List.length h
          rw [List.length_take, HPL.out] at this
          simp at this
          omega
        · intro h; rw [h]; rfl
      have HML := Lib.hid hml
      clear hcs hlk hkc hts hz hml hki
      have hsz := HB.out.size
      by_cases hsep : 0 < k ∧ sep ≠ []
      · have hE : sepX sep (l.take (k + 1)) = (sepX sep (l.take k) ++ [.tk sep]) ++ [.nd h' k' c'] := by
          rw [HTS.out, sepX_snoc, if_pos ⟨hsep.2, fun h => by have := HML.out.1 h; omega⟩, List.append_assoc]
          rfl
        have HE := Lib.hid hE
        have hn1 : m ≤ 1000000 := by omega
        have hn2 : m + 1 ≤ 1000000 := by omega
        have ds : (!sep.isEmpty) = true := by
          cases sep with
          | nil => exact absurd rfl hsep.2
          | cons a b => rfl
        have hk0 := hsep.1
        have dk : decide (0 < (k : Int)) = true := by simp; omega
        have hzt : ∀ cs : Array Value, cs = #[.string (str sep), .int .i64 0] → cs.toList = pzC (.tk sep) := fun cs e => by rw [e]; rfl
        have HZT := Lib.hid hzt
        clear hE hsep hzt
        go_wp2_with (first | (at_builtin; refine appz_law w.heap.size wr _ rfl hsz _ m (sepX sep (l.take k)) (.tk sep) _ (HZT.out _ rfl) _ _ rfl rfl rfl rfl HROW.out hn1 ?_; intro g1 cp1 w1 hr1 hb1; have HR1 := Lib.hid hr1; have HB1 := Lib.hid (HB.out.trans hb1); have hs1 := (HB.out.trans hb1).size; clear hr1 hb1) | (at_builtin; refine appz_law w.heap.size w1 _ rfl hs1 _ (m + 1) (sepX sep (l.take k) ++ [Pz.tk sep]) (.nd h' k' c') _ (HZC.out _ rfl) _ _ rfl rfl rfl rfl HR1.out hn2 ?_; intro g2 cp2 w2 hr2 hb2; have HR2 := Lib.hid hr2; have HB2 := Lib.hid (HB1.out.trans hb2); clear hr2 hb2))
        go_roundw
        case rel => exact ⟨k + 1, m + 1 + 1, ⟨by omega, fun h => by omega⟩, by go_num, ⟨by rw [HE.out, List.length_append, List.length_append, ← HM.out]; rfl, by omega⟩, by rw [HE.out]; exact HR2.out, HB2.out⟩
        case measure => simp [intOf]; omega
      · have hE : sepX sep (l.take (k + 1)) = sepX sep (l.take k) ++ [.nd h' k' c'] := by
          rw [HTS.out, sepX_snoc, if_neg]
          intro h
          refine hsep ⟨?_, h.1⟩
          have := mt HML.out.2 h.2
          omega
        have HE := Lib.hid hE
        have hn1 : m ≤ 1000000 := by omega
        clear hE
        by_cases hk0 : 0 < k
        · have hs0 : sep = [] := by
            by_cases h : sep = []
            · exact h
            · exact absurd ⟨hk0, h⟩ hsep
          subst hs0
          have dk : decide (0 < (k : Int)) = true := by simp; omega
          clear hsep
          go_wp2_with (at_builtin; refine appz_law w.heap.size wr _ rfl hsz _ m (sepX [] (l.take k)) (.nd h' k' c') _ (HZC.out _ rfl) _ _ rfl rfl rfl rfl HROW.out hn1 ?_; intro g1 cp1 w1 hr1 hb1; have HR1 := Lib.hid hr1; have HB1 := Lib.hid (HB.out.trans hb1); clear hr1 hb1)
          go_roundw
          case rel => exact ⟨k + 1, m + 1, ⟨by omega, fun h => by omega⟩, by go_num, ⟨by rw [HE.out, List.length_append, ← HM.out]; rfl, by omega⟩, by rw [HE.out]; exact HR1.out, HB1.out⟩
          case measure => simp [intOf]; omega
        · obtain rfl : k = 0 := by omega
          clear hsep hk0
          rw [Nat.add_zero] at z0
          go_wp2_with (at_builtin; refine appz_law w.heap.size wr _ rfl hsz _ m (sepX sep (l.take 0)) (.nd h' k' c') _ (HZC.out _ rfl) _ _ rfl rfl rfl rfl HROW.out hn1 ?_; intro g1 cp1 w1 hr1 hb1; have HR1 := Lib.hid hr1; have HB1 := Lib.hid (HB.out.trans hb1); clear hr1 hb1)
          go_roundw
          case rel => exact ⟨0 + 1, m + 1, ⟨by omega, fun h => by omega⟩, by go_num, ⟨by rw [HE.out, List.length_append, ← HM.out]; rfl, by omega⟩, by rw [HE.out]; exact HR1.out, HB1.out⟩
          case measure => simp [intOf]; omega
    · obtain rfl : k = n := by omega
      have hfin : l.take k = l := by rw [← HPL.out, List.take_length]
      have HF := Lib.hid hfin
      clear hfin
      go_wp2_with fail
      go_ret
      have h1 := HROW.out
      have h2 := HM.out
      rw [HF.out] at h1 h2
      exact ⟨⟨_, rfl, by rw [← h2]; exact h1, HB.out⟩, fun h => congrArg Ending.returned (HK9.out (by rw [← HPL.out, h]; rfl))⟩
end Go.Proofs.YtlbjjpfhkgagiaaGreatDoor
/-! Prg -/
namespace Go.Proofs.YtlbjjpfhkgagiaaGreatDoor
open Go.RowKit Go.Shelf
set_option linter.unusedVariables false
set_option linter.unusedSimpArgs false

theorem ite_P {α : Type} {P : α → Prop} {c : Prop} [Decidable c] {a b : α} (h1 : P a) (h2 : P b) : P (if c then a else b) := by split <;> assumption
def PatOk (L : Tx) : Prop := Lib.fields (patS L) = L ∧ (∀ b ∈ patS L, b.toNat < 128) ∧ (patS L).length ≤ 100 ∧ L.length ≤ 7
instance (L : Tx) : Decidable (PatOk L) := by unfold PatOk; infer_instance
theorem pat_ok (op : Int) (n : Nat) : PatOk (patL op n) := by
  unfold patL
  repeat' (first | apply ite_P (P := PatOk) | decide)
theorem pat_K {op : Int} {n : Nat} (ha : arity op n = true) : ([48] ∈ patL op n → 0 < n) ∧ ([49] ∈ patL op n → 1 < n) ∧ ([50] ∈ patL op n → 2 < n) := by
  rcases arity_cases ha with ⟨ho, hn⟩ | ⟨ho, hn⟩ | ⟨ho, hn⟩ | ⟨ho, hn⟩ | ⟨ho, hn⟩ | ⟨ho, hn⟩ | ⟨ho, hn⟩ | ho
  · subst hn; rcases ho with rfl | rfl | rfl | rfl <;> decide
  · subst hn; rcases ho with rfl | rfl | rfl | rfl | rfl | rfl | rfl | rfl <;> decide
  · subst hn; rcases ho with rfl | rfl | rfl <;> decide
  · subst hn; subst ho; decide
  · subst hn; subst ho; decide
  · subst hn; subst ho; decide
  · subst hn; subst ho; decide
  · rcases ho with rfl | rfl <;> simp [patL]
theorem part_len (h : Hd) (l : List Pz) (x : List UInt8) : (partP h l x).length ≤ 2 * l.length + 3 := by
  have hk : ∀ i o, (kidP h i o).length ≤ 3 := fun i o => by
    cases o with
    | none => simp [kidP]
    | some p => cases p with
      | tk s => simp [kidP]
      | nd a b c => simp only [kidP]; split <;> simp
  unfold partP
  split; · simp
  split; · simp
  split; · simp
  split; · have := hk 0 l[0]?; omega
  split; · have := hk 1 l[1]?; omega
  split; · have := hk 2 l[2]?; omega
  split; · omega
  split
  · cases l with
    | nil => simp [sepP]
    | cons a l =>
      have : ∀ l : List Pz, (l.flatMap fun b => [Pz.tk [44], b]).length = 2 * l.length := fun l => by
        induction l with
        | nil => rfl
        | cons b l ih => simp only [List.flatMap_cons, List.length_append, ih, List.length_cons, List.length_nil]; omega
      simp only [sepP, List.length_cons, this]
      omega
  · simp
theorem kidP_len3 (h : Hd) (i : Nat) (h' : Hd) (k' : Fo) (c' : Nat) : 0 < (kidP h i (some (Pz.nd h' k' c'))).length ∧ (kidP h i (some (Pz.nd h' k' c'))).length ≤ 3 := by
  simp only [kidP]
  split <;> simp
theorem sepX_nil (x : List UInt8) (l : List Pz) : sepX x l = [] ↔ l = [] := by
  unfold sepX
  split
  · rfl
  · cases l <;> simp [sepP]
theorem sepX_len (x : List UInt8) (l : List Pz) : (sepX x l).length ≤ 2 * l.length := by
  unfold sepX
  split
  · omega
  · cases l with
    | nil => simp [sepP]
    | cons a l =>
      have : ∀ l : List Pz, (l.flatMap fun b => [Pz.tk x, b]).length = 2 * l.length := fun l => by
        induction l with
        | nil => rfl
        | cons b l ih => simp only [List.flatMap_cons, List.length_append, ih, List.length_cons, List.length_nil]; omega
      simp only [sepP, List.length_cons, this]
      omega
theorem RZ.more {w0 w W : World} {l : List Pz} {e : Ending} {w' : World} (h : RZ W l e w') (hb : Below w0.heap.size w0 W) : ∃ v, e = .returned v ∧ w'.ownsRow w0.heap.size tZ 2 v l.length (pzCells l) ∧ Below w0.heap.size w0 w' := by
  obtain ⟨v, h1, h2, h3⟩ := h
  exact ⟨v, h1, by
    refine ⟨h2.1, h2.2.imp id fun ⟨g, cap, cur, a, b, c⟩ => ⟨g, cap, cur, a, Nat.le_trans hb.size b, c⟩⟩, hb.trans (h3.mono hb.size)⟩

theorem Blk.node8 {W : World} {j : Nat} {T : TypeId} {a b c d e f g h : Value} (hb : Blk W j T #[a, b, c, d, e, f, g, h]) :
    W.cell? ⟨j, 0, none⟩ = some a ∧ W.cell? ⟨j, 1, none⟩ = some b ∧ W.cell? ⟨j, 2, none⟩ = some c ∧ W.cell? ⟨j, 3, none⟩ = some d ∧ W.cell? ⟨j, 4, none⟩ = some e ∧ W.cell? ⟨j, 5, none⟩ = some f ∧ W.cell? ⟨j, 6, none⟩ = some g ∧ W.cell? ⟨j, 7, none⟩ = some h ∧ j < W.heap.size :=
  ⟨hb.cell 0, hb.cell 1, hb.cell 2, hb.cell 3, hb.cell 4, hb.cell 5, hb.cell 6, hb.cell 7, hb.lt⟩

set_option maxHeartbeats 8000000 in
set_option maxRecDepth 100000 in
theorem pieces_any {B b : Nat} {w : World} {nv : Value} {ns : List NV} (hE : EnvW B w) (hN : Nds w B nv ns) (hc3 : w.cell? ⟨b, 3, none⟩ = some nv) (hbl : b < w.heap.size) (hB : B ≤ w.heap.size) (x : NV) (hx : NdI w B x) (k : Fo) (c : Nat) (hks : x.kids = k.roots c) (hn : NOk x.h k.len) (hkl : k.len ≤ 4000)
    (hks2 : ∀ (i : Nat) (h' : Hd) (k' : Fo) (c' : Nat), (kidsP c k)[i]? = some (Pz.nd h' k' c') → ∃ y, ns[c' + k'.size]? = some y ∧ y.h = h') :
    Calls Tryz.prog 104 #[.pointer (some ⟨b, 0, none⟩), nodeV x] w (RZ w (pcs x.h k c)) := by
  obtain ⟨xh, ks, xv⟩ := x
  simp only at hks hn ⊢
  have hkn : ks.length = k.len := by rw [hks, Fo.roots_length]
  have hpl : placed (kidsP c k) ks := by rw [hks]; exact placed_kids k c
  have har := hn.ar
  obtain ⟨hp1, hp2, hp3, hp4⟩ := pat_ok xh.op k.len
  obtain ⟨hK0, hK1, hK2⟩ := pat_K har
  have hX : ∃ A cc, xv = .slice A ks.length cc := by obtain ⟨A, cc, h, _⟩ := hx; exact ⟨A, cc, h⟩
  obtain ⟨XA, xc, hxv⟩ := hX
  rw [hkn] at hxv
  subst hxv
  have hx2 : NdI w B ⟨xh, ks, .slice XA k.len xc⟩ := hx
  have HNO := Lib.hid hn
  have HX := Lib.hid hx2
  have HN := Lib.hid hN
  have HE := Lib.hid hE
  have HPL := Lib.hid hpl
  have HKN := Lib.hid hkn
  have HK := Lib.hid (And.intro hK0 (And.intro hK1 hK2))
  have HK2 := Lib.hid hks2
  have HC3 := Lib.hid (And.intro hc3 hbl)
  have HP := Lib.hid (And.intro hp1 (And.intro hp2 (And.intro hp3 hp4)))
  obtain ⟨kl, hklen⟩ : ∃ kl, k.len = kl := ⟨_, rfl⟩
  have HKL := Lib.hid hklen
  have hkl4 : kl ≤ 4000 := by omega
  rw [hklen] at HX HNO HKN HK HP har
  simp only [hklen]
  have hnb : Blk (w.alloc (.cells #[.int .i64 xh.op, .int .i64 xh.p, .int .i64 xh.n, .string (str xh.s), .int .i64 xh.to, .slice XA kl xc, .int .i64 xh.ty, .int .i64 0] tN)) w.heap.size tN #[.int .i64 xh.op, .int .i64 xh.p, .int .i64 xh.n, .string (str xh.s), .int .i64 xh.to, .slice XA kl xc, .int .i64 xh.ty, .int .i64 0] := Blk.new w tN _
  have HNB := Lib.hid hnb
  have HB1 := Lib.hid ((Below.refl w.heap.size w).alloc (Nat.le_refl _) (.cells #[.int .i64 xh.op, .int .i64 xh.p, .int .i64 xh.n, .string (str xh.s), .int .i64 xh.to, .slice XA kl xc, .int .i64 xh.ty, .int .i64 0] tN))
  have HPC := Lib.hid (show pcs xh k c = (patL xh.op kl).flatMap (partP xh (kidsP c k)) by unfold pcs; rw [hklen])
  have HKP := Lib.hid (show (kidsP c k).length = kl by rw [kids_len, hklen])
  clear hks hn hkn hpl hp1 hp2 hp3 hp4 hK0 hK1 hK2 hx hx2 hN hE hks2 hc3 hklen hkl hnb
  unfold nodeV cells8
  simp only
  go_enter Tryz.func104, Tryz.ntmps104
  go_wp2_with fail
  refine (pattern_any (B := B) ⟨xh, ks, .slice XA kl xc⟩ _ (HE.out.below (HB1.out.mono hB)) (by rw [HKN.out]; exact har) ⟨XA, xc, by rw [HKN.out]⟩).mono ?_
  rintro e w1 ⟨rfl, hb1⟩
  simp only [HKN.out]
  have HB2 := Lib.hid (HB1.out.trans (hb1.mono (by simp)))
  have hN1 : Blk w1 w.heap.size tN #[.int .i64 xh.op, .int .i64 xh.p, .int .i64 xh.n, .string (str xh.s), .int .i64 xh.to, .slice XA kl xc, .int .i64 xh.ty, .int .i64 0] := (hb1.block _ (by simp)).trans HNB.out
  have HN1 := Lib.hid hN1
  clear hb1 hN1 HB1
  go_wp2_with fail
  refine (Tryz.strings_Fields (str (patS (patL xh.op kl))) w1 (by rw [str_size]; have := HP.out.2.2.1; omega) (fun j bb hj => HP.out.2.1 bb (List.mem_of_getElem? hj)) (HE.out.below (HB2.out.mono hB)).sp).mono ?_
  have hfl : Lib.fields (str (patS (patL xh.op kl))).data.toList = patL xh.op kl := HP.out.1
  rw [hfl]
  rintro e w2 ⟨rfl, hw2⟩
  have hF2 : Blk w2 w1.heap.size 9 ((patL xh.op kl).map fun l => Value.string ⟨l.toArray⟩).toArray := by rw [hw2]; exact Blk.new _ _ _
  have hN2 : Blk w2 w.heap.size tN #[.int .i64 xh.op, .int .i64 xh.p, .int .i64 xh.n, .string (str xh.s), .int .i64 xh.to, .slice XA kl xc, .int .i64 xh.ty, .int .i64 0] := by rw [hw2]; exact HN1.out.alloc _
  have hb2 : Below w.heap.size w w2 := by rw [hw2]; exact HB2.out.alloc HB2.out.size _
  have hs2 : w.heap.size < w2.heap.size := hN2.lt
  obtain ⟨F, hF⟩ : ∃ F, w1.heap.size = F := ⟨_, rfl⟩
  rw [hF] at hF2
  obtain ⟨nf, hnf⟩ : ∃ nf, (patL xh.op kl).length = nf := ⟨_, rfl⟩
  have hnf7 : nf ≤ 7 := by have := HP.out.2.2.2; omega
  rw [hnf, hF]
  have HNF := Lib.hid hnf
  have HF2 := Lib.hid hF2
  have HN2 := Lib.hid hN2
  have HB3 := Lib.hid hb2
  clear hfl hw2 hF2 hN2 hb2 hF hnf HN1 HB2 HNB
  go_wp2_with fail
  go_loopg [5, 12] nf (fun g y z wr => ∃ (j m : Nat), (j ≤ nf ∧ g = nf - j) ∧ z = .int .i64 j ∧ (m = (((patL xh.op kl).take j).flatMap (partP xh (kidsP c k))).length ∧ m ≤ 8003 * j) ∧ wr.ownsRow w2.heap.size tZ 2 y m (pzCells (((patL xh.op kl).take j).flatMap (partP xh (kidsP c k)))) ∧ Below w2.heap.size w2 wr)
  case atStart => exact ⟨0, 0, ⟨by omega, rfl⟩, rfl, ⟨by simp, by omega⟩, by simpa [pzCells] using World.ownsRow_nil _ _ _ _, Below.refl _ _⟩
  case round =>
    obtain ⟨j, m, ⟨hj, hgj⟩, rfl, ⟨hm, hm2⟩, hrow, hb⟩ := hrel
    have HM := Lib.hid hm
    have HROW := Lib.hid hrow
    have HB := Lib.hid hb
    have hsz := hb.size
    have HBW := Lib.hid (HB3.out.trans (hb.mono (by omega)))
    clear hm hrow hb
    by_cases hlt : j < nf
    · have hpj : (patL xh.op kl)[j]? = some ((patL xh.op kl)[j]'(by rw [HNF.out]; exact hlt)) := List.getElem?_eq_getElem _
      have hts : (patL xh.op kl).take (j + 1) = (patL xh.op kl).take j ++ [(patL xh.op kl)[j]'(by rw [HNF.out]; exact hlt)] := List.take_succ_eq_append_getElem _
      have hmem := List.getElem_mem (l := patL xh.op kl) (n := j) (by rw [HNF.out]; exact hlt)
      generalize (patL xh.op kl)[j]'(by rw [HNF.out]; exact hlt) = p at *
      have hbF : Blk wr F 9 ((patL xh.op kl).map fun l => Value.string ⟨l.toArray⟩).toArray := (HB.out.block _ HF2.out.lt).trans HF2.out
      have hpc : wr.cell? ⟨F, j, none⟩ = some (.string (str p)) := by
        rw [hbF.cell j]
        simp [hpj]
      have hbN : Blk wr w.heap.size tN #[.int .i64 xh.op, .int .i64 xh.p, .int .i64 xh.n, .string (str xh.s), .int .i64 xh.to, .slice XA kl xc, .int .i64 xh.ty, .int .i64 0] := (HB.out.block _ HN2.out.lt).trans HN2.out
      have hfl : F < wr.heap.size := hbF.lt
      have hnl : w.heap.size < wr.heap.size := hbN.lt
      have hfm : ((patL xh.op kl).take (j + 1)).flatMap (partP xh (kidsP c k)) = ((patL xh.op kl).take j).flatMap (partP xh (kidsP c k)) ++ partP xh (kidsP c k) p := by rw [hts]; simp
      have hpl := part_len xh (kidsP c k) p
      rw [HKP.out] at hpl
      have HFM := Lib.hid hfm
      have HMEM := Lib.hid hmem
      have HBN := Lib.hid hbN
      have hm3 : m ≤ 1000000 := by omega
      generalize ((patL xh.op kl).take j).flatMap (partP xh (kidsP c k)) = L at *
      clear hpj hts hmem hbF hbN hfm
      by_cases q0 : p = [78]
      · subst q0
        have HP0 := Lib.hid (show partP xh (kidsP c k) [78] = [Pz.tk (digL xh)] from rfl)
        obtain ⟨n0, n1, n2, n3, n4, n5, n6, n7, -⟩ := HBN.out.node8
        go_wp2_with fail
        refine (digits_any ⟨xh, ks, .slice XA kl xc⟩ wr (HE.out.below (HBW.out.mono hB)).en HNO.out.lo HNO.out.hi).mono ?_
        rintro e w3 ⟨rfl, hb3⟩
        have hs3 : w2.heap.size ≤ w3.heap.size := Nat.le_trans hsz hb3.size
        have HR3 := Lib.hid (row_keep HROW.out fun i hi => hb3.block i (HROW.out.lt i hi).2)
        have HB4 := Lib.hid (HB.out.trans (hb3.mono hsz))
        clear hb3
        go_wp2_with (at_builtin; refine appz_law w2.heap.size w3 _ rfl hs3 _ m L (Pz.tk (digL xh)) _ rfl _ _ rfl rfl rfl rfl HR3.out hm3 ?_; intro g1 cp1 w4 hr1 hb1; have HR1 := Lib.hid hr1; have HB1 := Lib.hid (HB4.out.trans hb1); clear hr1 hb1)
        go_roundg (nf - (j + 1))
        case measure => omega
        case rel => exact ⟨j + 1, _, ⟨by omega, rfl⟩, by go_num, ⟨by rw [HFM.out, HP0.out, List.length_append, ← HM.out], by simp; omega⟩, by rw [HFM.out, HP0.out]; exact HR1.out, HB1.out⟩
      by_cases q1 : p = [83]
      · subst q1
        clear q0
        have HP0 := Lib.hid (show partP xh (kidsP c k) [83] = [Pz.tk (xh.s)] from rfl)
        obtain ⟨n0, n1, n2, n3, n4, n5, n6, n7, -⟩ := HBN.out.node8
        go_wp2_with (at_builtin; refine appz_law w2.heap.size wr _ rfl hsz _ m L (Pz.tk (xh.s)) _ rfl _ _ rfl rfl rfl rfl HROW.out hm3 ?_; intro g1 cp1 w4 hr1 hb1; have HR1 := Lib.hid hr1; have HB1 := Lib.hid (HB.out.trans hb1); clear hr1 hb1)
        go_roundg (nf - (j + 1))
        case measure => omega
        case rel => exact ⟨j + 1, _, ⟨by omega, rfl⟩, by go_num, ⟨by rw [HFM.out, HP0.out, List.length_append, ← HM.out], by simp; omega⟩, by rw [HFM.out, HP0.out]; exact HR1.out, HB1.out⟩
      by_cases q2 : p = [84]
      · subst q2
        clear q0 q1
        have HP0 := Lib.hid (show partP xh (kidsP c k) [84] = [Pz.tk (typeW xh.to)] from rfl)
        obtain ⟨n0, n1, n2, n3, n4, n5, n6, n7, -⟩ := HBN.out.node8
        obtain ⟨kt, hkt⟩ : ∃ kt : Nat, xh.to = kt := ⟨xh.to.toNat, by have := HNO.out.tos.1; omega⟩
        have hkt4 : kt < 4 := by have := HNO.out.tos.2; omega
        obtain ⟨tc, tl⟩ := (HE.out.below (HBW.out.mono hB)).typeCell hkt4
        rw [hkt] at n4 HP0
        clear hkt
        go_wp2_with (at_builtin; refine appz_law w2.heap.size wr _ rfl hsz _ m L (Pz.tk (typeW kt)) _ rfl _ _ rfl rfl rfl rfl HROW.out hm3 ?_; intro g1 cp1 w4 hr1 hb1; have HR1 := Lib.hid hr1; have HB1 := Lib.hid (HB.out.trans hb1); clear hr1 hb1)
        go_roundg (nf - (j + 1))
        case measure => omega
        case rel => exact ⟨j + 1, _, ⟨by omega, rfl⟩, by go_num, ⟨by rw [HFM.out, HP0.out, List.length_append, ← HM.out], by simp; omega⟩, by rw [HFM.out, HP0.out]; exact HR1.out, HB1.out⟩
      by_cases q3 : p = [48]
      · subst q3
        clear q0 q1 q2
        have hi9 : 0 < (kidsP c k).length := by rw [HKP.out]; exact HK.out.1 HMEM.out
        obtain ⟨h', k', c', hkk⟩ : ∃ h' k' c', (kidsP c k)[0]? = some (Pz.nd h' k' c') := by
          obtain ⟨h', k', c', e9⟩ := kids_nd k c _ (List.getElem_mem hi9)
          exact ⟨h', k', c', by rw [List.getElem?_eq_getElem hi9, e9]⟩
        obtain ⟨y, hy, hyh⟩ := HK2.out 0 h' k' c' hkk
        have hki : ks[0]? = some (c' + k'.size) := by
          have h1 : 0 < ks.length := by rw [← placed_len HPL.out]; exact hi9
          obtain ⟨a1, a2, a3, b1, b2⟩ := placed_at HPL.out 0 _ (List.getElem?_eq_getElem h1)
          rw [hkk] at b1
          cases b1
          rw [List.getElem?_eq_getElem h1, b2]
        have HP0 := Lib.hid (show partP xh (kidsP c k) [48] = kidP xh 0 (some (Pz.nd h' k' c')) from (congrArg (kidP xh 0) hkk))
        have HKD := Lib.hid (fun (W : World) (hW : Below wr.heap.size wr W) => kid_any (i := 0) (HN.out.below ((HBW.out.trans (hW.mono (Nat.le_of_lt hnl))).mono hB)) (((HBW.out.trans (hW.mono (Nat.le_of_lt hnl))).cell (p := ⟨b, 3, none⟩) HC3.out.2).trans HC3.out.1) (Nat.lt_of_lt_of_le HC3.out.2 (HBW.out.trans (hW.mono (Nat.le_of_lt hnl))).size) (Nat.le_trans hB (HBW.out.trans (hW.mono (Nat.le_of_lt hnl))).size) ⟨xh, ks, .slice XA kl xc⟩ y (c' + k'.size) (HX.out.below ((HBW.out.trans (hW.mono (Nat.le_of_lt hnl))).mono hB)) hki hy h' k' c' hyh rfl)
        obtain ⟨n0, n1, n2, n3, n4, n5, n6, n7, -⟩ := HBN.out.node8
        have hkl3 := kidP_len3 xh 0 h' k' c'
        have HL2 := Lib.hid hkl3
        generalize hL2 : kidP xh 0 (some (Pz.nd h' k' c')) = L2 at HP0 HKD HL2
        obtain ⟨m3, hm3e⟩ : ∃ m3, L2.length = m3 := ⟨_, rfl⟩
        have HM3 := Lib.hid hm3e
        have hm30 : 0 < m3 ∧ m3 ≤ 3 := by rw [← hm3e]; exact HL2.out
        clear hi9 hkk hy hyh hki hkl3 hL2 hm3e
        go_wp2_with fail
        go_region_law (first | (go_simp; go_at_call 138; refine (HKD.out _ (by exact bd1 _)).mono ?_; intro e w3 hR; obtain ⟨v3, rfl, hr3, hb3⟩ := hR; have hs3 : w2.heap.size ≤ w3.heap.size := Nat.le_trans hsz hb3.size; have HR3 := Lib.hid (row_keep HROW.out fun i hi => hb3.block i (HROW.out.lt i hi).2); have HB4 := Lib.hid (HB.out.trans (((bd1 wr).mono hsz).trans (hb3.mono hsz))); have HV3 := Lib.hid hr3; clear hr3 hb3) | (refine appn_step w2.heap.size w3 hs3 _ v3 m m3 L L2 HM3.out hm30.1 (by omega) (.tmp 52) (.tmp 59) _ rfl rfl (by simp [Act.eval, Act.put]) (by simp [Act.eval, Act.put]) HR3.out (by rw [← HM3.out]; exact HV3.out) hm3 ?_; intro g1 cp1 w4 hr1 hb1; have HR1 := Lib.hid hr1; have HB1 := Lib.hid (HB4.out.trans hb1); clear hr1 hb1))
        all_goals
          go_wp2_with fail
          go_roundg (nf - (j + 1))
          case measure => omega
          case rel => exact ⟨j + 1, _, ⟨by omega, rfl⟩, by go_num, ⟨by rw [HFM.out, HP0.out, List.length_append, ← HM.out, HM3.out], by omega⟩, by rw [HFM.out, HP0.out]; exact HR1.out, HB1.out⟩
      by_cases q4 : p = [49]
      · subst q4
        clear q0 q1 q2 q3
        have hi9 : 1 < (kidsP c k).length := by rw [HKP.out]; exact HK.out.2.1 HMEM.out
        obtain ⟨h', k', c', hkk⟩ : ∃ h' k' c', (kidsP c k)[1]? = some (Pz.nd h' k' c') := by
          obtain ⟨h', k', c', e9⟩ := kids_nd k c _ (List.getElem_mem hi9)
          exact ⟨h', k', c', by rw [List.getElem?_eq_getElem hi9, e9]⟩
        obtain ⟨y, hy, hyh⟩ := HK2.out 1 h' k' c' hkk
        have hki : ks[1]? = some (c' + k'.size) := by
          have h1 : 1 < ks.length := by rw [← placed_len HPL.out]; exact hi9
          obtain ⟨a1, a2, a3, b1, b2⟩ := placed_at HPL.out 1 _ (List.getElem?_eq_getElem h1)
          rw [hkk] at b1
          cases b1
          rw [List.getElem?_eq_getElem h1, b2]
        have HP0 := Lib.hid (show partP xh (kidsP c k) [49] = kidP xh 1 (some (Pz.nd h' k' c')) from (congrArg (kidP xh 1) hkk))
        have HKD := Lib.hid (fun (W : World) (hW : Below wr.heap.size wr W) => kid_any (i := 1) (HN.out.below ((HBW.out.trans (hW.mono (Nat.le_of_lt hnl))).mono hB)) (((HBW.out.trans (hW.mono (Nat.le_of_lt hnl))).cell (p := ⟨b, 3, none⟩) HC3.out.2).trans HC3.out.1) (Nat.lt_of_lt_of_le HC3.out.2 (HBW.out.trans (hW.mono (Nat.le_of_lt hnl))).size) (Nat.le_trans hB (HBW.out.trans (hW.mono (Nat.le_of_lt hnl))).size) ⟨xh, ks, .slice XA kl xc⟩ y (c' + k'.size) (HX.out.below ((HBW.out.trans (hW.mono (Nat.le_of_lt hnl))).mono hB)) hki hy h' k' c' hyh rfl)
        obtain ⟨n0, n1, n2, n3, n4, n5, n6, n7, -⟩ := HBN.out.node8
        have hkl3 := kidP_len3 xh 1 h' k' c'
        have HL2 := Lib.hid hkl3
        generalize hL2 : kidP xh 1 (some (Pz.nd h' k' c')) = L2 at HP0 HKD HL2
        obtain ⟨m3, hm3e⟩ : ∃ m3, L2.length = m3 := ⟨_, rfl⟩
        have HM3 := Lib.hid hm3e
        have hm30 : 0 < m3 ∧ m3 ≤ 3 := by rw [← hm3e]; exact HL2.out
        clear hi9 hkk hy hyh hki hkl3 hL2 hm3e
        go_wp2_with fail
        go_region_law (first | (go_simp; go_at_call 138; refine (HKD.out _ (by exact bd1 _)).mono ?_; intro e w3 hR; obtain ⟨v3, rfl, hr3, hb3⟩ := hR; have hs3 : w2.heap.size ≤ w3.heap.size := Nat.le_trans hsz hb3.size; have HR3 := Lib.hid (row_keep HROW.out fun i hi => hb3.block i (HROW.out.lt i hi).2); have HB4 := Lib.hid (HB.out.trans (((bd1 wr).mono hsz).trans (hb3.mono hsz))); have HV3 := Lib.hid hr3; clear hr3 hb3) | (refine appn_step w2.heap.size w3 hs3 _ v3 m m3 L L2 HM3.out hm30.1 (by omega) (.tmp 52) (.tmp 59) _ rfl rfl (by simp [Act.eval, Act.put]) (by simp [Act.eval, Act.put]) HR3.out (by rw [← HM3.out]; exact HV3.out) hm3 ?_; intro g1 cp1 w4 hr1 hb1; have HR1 := Lib.hid hr1; have HB1 := Lib.hid (HB4.out.trans hb1); clear hr1 hb1))
        all_goals
          go_wp2_with fail
          go_roundg (nf - (j + 1))
          case measure => omega
          case rel => exact ⟨j + 1, _, ⟨by omega, rfl⟩, by go_num, ⟨by rw [HFM.out, HP0.out, List.length_append, ← HM.out, HM3.out], by omega⟩, by rw [HFM.out, HP0.out]; exact HR1.out, HB1.out⟩
      by_cases q5 : p = [50]
      · subst q5
        clear q0 q1 q2 q3 q4
        have hi9 : 2 < (kidsP c k).length := by rw [HKP.out]; exact HK.out.2.2 HMEM.out
        obtain ⟨h', k', c', hkk⟩ : ∃ h' k' c', (kidsP c k)[2]? = some (Pz.nd h' k' c') := by
          obtain ⟨h', k', c', e9⟩ := kids_nd k c _ (List.getElem_mem hi9)
          exact ⟨h', k', c', by rw [List.getElem?_eq_getElem hi9, e9]⟩
        obtain ⟨y, hy, hyh⟩ := HK2.out 2 h' k' c' hkk
        have hki : ks[2]? = some (c' + k'.size) := by
          have h1 : 2 < ks.length := by rw [← placed_len HPL.out]; exact hi9
          obtain ⟨a1, a2, a3, b1, b2⟩ := placed_at HPL.out 2 _ (List.getElem?_eq_getElem h1)
          rw [hkk] at b1
          cases b1
          rw [List.getElem?_eq_getElem h1, b2]
        have HP0 := Lib.hid (show partP xh (kidsP c k) [50] = kidP xh 2 (some (Pz.nd h' k' c')) from (congrArg (kidP xh 2) hkk))
        have HKD := Lib.hid (fun (W : World) (hW : Below wr.heap.size wr W) => kid_any (i := 2) (HN.out.below ((HBW.out.trans (hW.mono (Nat.le_of_lt hnl))).mono hB)) (((HBW.out.trans (hW.mono (Nat.le_of_lt hnl))).cell (p := ⟨b, 3, none⟩) HC3.out.2).trans HC3.out.1) (Nat.lt_of_lt_of_le HC3.out.2 (HBW.out.trans (hW.mono (Nat.le_of_lt hnl))).size) (Nat.le_trans hB (HBW.out.trans (hW.mono (Nat.le_of_lt hnl))).size) ⟨xh, ks, .slice XA kl xc⟩ y (c' + k'.size) (HX.out.below ((HBW.out.trans (hW.mono (Nat.le_of_lt hnl))).mono hB)) hki hy h' k' c' hyh rfl)
        obtain ⟨n0, n1, n2, n3, n4, n5, n6, n7, -⟩ := HBN.out.node8
        have hkl3 := kidP_len3 xh 2 h' k' c'
        have HL2 := Lib.hid hkl3
        generalize hL2 : kidP xh 2 (some (Pz.nd h' k' c')) = L2 at HP0 HKD HL2
        obtain ⟨m3, hm3e⟩ : ∃ m3, L2.length = m3 := ⟨_, rfl⟩
        have HM3 := Lib.hid hm3e
        have hm30 : 0 < m3 ∧ m3 ≤ 3 := by rw [← hm3e]; exact HL2.out
        clear hi9 hkk hy hyh hki hkl3 hL2 hm3e
        go_wp2_with fail
        go_region_law (first | (go_simp; go_at_call 138; refine (HKD.out _ (by exact bd1 _)).mono ?_; intro e w3 hR; obtain ⟨v3, rfl, hr3, hb3⟩ := hR; have hs3 : w2.heap.size ≤ w3.heap.size := Nat.le_trans hsz hb3.size; have HR3 := Lib.hid (row_keep HROW.out fun i hi => hb3.block i (HROW.out.lt i hi).2); have HB4 := Lib.hid (HB.out.trans (((bd1 wr).mono hsz).trans (hb3.mono hsz))); have HV3 := Lib.hid hr3; clear hr3 hb3) | (refine appn_step w2.heap.size w3 hs3 _ v3 m m3 L L2 HM3.out hm30.1 (by omega) (.tmp 52) (.tmp 59) _ rfl rfl (by simp [Act.eval, Act.put]) (by simp [Act.eval, Act.put]) HR3.out (by rw [← HM3.out]; exact HV3.out) hm3 ?_; intro g1 cp1 w4 hr1 hb1; have HR1 := Lib.hid hr1; have HB1 := Lib.hid (HB4.out.trans hb1); clear hr1 hb1))
        all_goals
          go_wp2_with fail
          go_roundg (nf - (j + 1))
          case measure => omega
          case rel => exact ⟨j + 1, _, ⟨by omega, rfl⟩, by go_num, ⟨by rw [HFM.out, HP0.out, List.length_append, ← HM.out, HM3.out], by omega⟩, by rw [HFM.out, HP0.out]; exact HR1.out, HB1.out⟩
      by_cases q6 : p = [42]
      · subst q6
        clear q0 q1 q2 q3 q4 q5
        have HP0 := Lib.hid (show partP xh (kidsP c k) [42] = sepX [] (kidsP c k) from rfl)
        have HKD := Lib.hid (fun (W : World) (hW : Below wr.heap.size wr W) (zz : ByteArray) (hz9 : zz.toList = []) => kids_any ⟨xh, ks, .slice XA kl xc⟩ (HX.out.below ((HBW.out.trans (hW.mono (Nat.le_of_lt hnl))).mono hB)) (Nat.le_trans hB (HBW.out.trans (hW.mono (Nat.le_of_lt hnl))).size) (by rw [HKN.out]; exact hkl4) (kidsP c k) HPL.out [] zz hz9)
        obtain ⟨n0, n1, n2, n3, n4, n5, n6, n7, -⟩ := HBN.out.node8
        have hsx : (sepX [] (kidsP c k)).length ≤ 2 * kl := by
          have := sepX_len [] (kidsP c k)
          rw [HKP.out] at this
          exact this
        have hkz : kidsP c k = [] ↔ kl = 0 := by rw [← HKP.out]; exact List.length_eq_zero_iff.symm
        have HKZ := Lib.hid hkz
        have hzz : sepX [] (kidsP c k) = [] ↔ kidsP c k = [] := sepX_nil _ _
        have HZZ := Lib.hid hzz
        clear hkz hzz
        generalize hL2 : sepX [] (kidsP c k) = L2 at HP0 HKD HZZ hsx
        obtain ⟨m3, hm3e⟩ : ∃ m3, L2.length = m3 := ⟨_, rfl⟩
        rw [hm3e] at hsx
        have HM3 := Lib.hid hm3e
        clear hL2 hm3e
        go_wp2_with fail
        by_cases hz : kl = 0
        · have hkn : kidsP c k = [] := HKZ.out.2 hz
          have hl2 : L2 = [] := HZZ.out.2 hkn
          have hm0 : m3 = 0 := by rw [← HM3.out, hl2]; rfl
          have HZ := Lib.hid (And.intro hkn (And.intro hl2 hm0))
          clear hkn hl2 hm0 hz
          go_region_law (first | (go_simp; go_at_call 139; refine (HKD.out _ (by exact bd1 _) _ (by first | (rw [Lib.toList_data, ByteArray.data_extract]; rfl) | (rw [Lib.toList_data]; rfl) | rfl | decide)).mono ?_; rintro e w3 ⟨⟨v3, he, hr3, hb3⟩, hnil⟩; rw [hnil HZ.out.1]; have hs3 : w2.heap.size ≤ w3.heap.size := Nat.le_trans hsz hb3.size; have HR3 := Lib.hid (row_keep HROW.out fun i hi => hb3.block i (HROW.out.lt i hi).2); have HB4 := Lib.hid (HB.out.trans (((bd1 wr).mono hsz).trans (hb3.mono hsz))); clear hr3 hb3 he hnil) | (refine appn_none w2.heap.size w3 _ m L (.tmp 64) (.tmp 68) rfl rfl (by simp [Act.eval, Act.put]) (by simp [Act.eval, Act.put]) HR3.out ?_))
          all_goals
            go_wp2_with fail
            go_roundg (nf - (j + 1))
            case measure => omega
            case rel => exact ⟨j + 1, m, ⟨by omega, rfl⟩, by go_num, ⟨by rw [HFM.out, HP0.out, HZ.out.2.1, List.append_nil]; exact HM.out, by omega⟩, by rw [HFM.out, HP0.out, HZ.out.2.1, List.append_nil]; exact HR3.out, HB4.out⟩
        · have hm30 : 0 < m3 := by
            have h1 := mt HZZ.out.1 (mt HKZ.out.1 hz)
            rw [← HM3.out]
            exact List.length_pos_iff.2 h1
          clear hz
          go_region_law (first | (go_simp; go_at_call 139; refine (HKD.out _ (by exact bd1 _) _ (by first | (rw [Lib.toList_data, ByteArray.data_extract]; rfl) | (rw [Lib.toList_data]; rfl) | rfl | decide)).mono ?_; rintro e w3 ⟨⟨v3, rfl, hr3, hb3⟩, -⟩; have hs3 : w2.heap.size ≤ w3.heap.size := Nat.le_trans hsz hb3.size; have HR3 := Lib.hid (row_keep HROW.out fun i hi => hb3.block i (HROW.out.lt i hi).2); have HB4 := Lib.hid (HB.out.trans (((bd1 wr).mono hsz).trans (hb3.mono hsz))); have HV3 := Lib.hid hr3; clear hr3 hb3) | (refine appn_step w2.heap.size w3 hs3 _ v3 m m3 L L2 HM3.out hm30 (by omega) (.tmp 64) (.tmp 68) _ rfl rfl (by simp [Act.eval, Act.put]) (by simp [Act.eval, Act.put]) HR3.out (by rw [← HM3.out]; exact HV3.out) hm3 ?_; intro g1 cp1 w4 hr1 hb1; have HR1 := Lib.hid hr1; have HB1 := Lib.hid (HB4.out.trans hb1); clear hr1 hb1))
          all_goals
            go_wp2_with fail
            go_roundg (nf - (j + 1))
            case measure => omega
            case rel => exact ⟨j + 1, _, ⟨by omega, rfl⟩, by go_num, ⟨by rw [HFM.out, HP0.out, List.length_append, ← HM.out, HM3.out], by omega⟩, by rw [HFM.out, HP0.out]; exact HR1.out, HB1.out⟩
      by_cases q7 : p = [42, 44]
      · subst q7
        clear q0 q1 q2 q3 q4 q5 q6
        have HP0 := Lib.hid (show partP xh (kidsP c k) [42, 44] = sepX [44] (kidsP c k) from rfl)
        have HKD := Lib.hid (fun (W : World) (hW : Below wr.heap.size wr W) (zz : ByteArray) (hz9 : zz.toList = [44]) => kids_any ⟨xh, ks, .slice XA kl xc⟩ (HX.out.below ((HBW.out.trans (hW.mono (Nat.le_of_lt hnl))).mono hB)) (Nat.le_trans hB (HBW.out.trans (hW.mono (Nat.le_of_lt hnl))).size) (by rw [HKN.out]; exact hkl4) (kidsP c k) HPL.out [44] zz hz9)
        obtain ⟨n0, n1, n2, n3, n4, n5, n6, n7, -⟩ := HBN.out.node8
        have hsx : (sepX [44] (kidsP c k)).length ≤ 2 * kl := by
          have := sepX_len [44] (kidsP c k)
          rw [HKP.out] at this
          exact this
        have hkz : kidsP c k = [] ↔ kl = 0 := by rw [← HKP.out]; exact List.length_eq_zero_iff.symm
        have HKZ := Lib.hid hkz
        have hzz : sepX [44] (kidsP c k) = [] ↔ kidsP c k = [] := sepX_nil _ _
        have HZZ := Lib.hid hzz
        clear hkz hzz
        generalize hL2 : sepX [44] (kidsP c k) = L2 at HP0 HKD HZZ hsx
        obtain ⟨m3, hm3e⟩ : ∃ m3, L2.length = m3 := ⟨_, rfl⟩
        rw [hm3e] at hsx
        have HM3 := Lib.hid hm3e
        clear hL2 hm3e
        go_wp2_with fail
        by_cases hz : kl = 0
        · have hkn : kidsP c k = [] := HKZ.out.2 hz
          have hl2 : L2 = [] := HZZ.out.2 hkn
          have hm0 : m3 = 0 := by rw [← HM3.out, hl2]; rfl
          have HZ := Lib.hid (And.intro hkn (And.intro hl2 hm0))
          clear hkn hl2 hm0 hz
          go_region_law (first | (go_simp; go_at_call 139; refine (HKD.out _ (by exact bd1 _) _ (by first | (rw [Lib.toList_data, ByteArray.data_extract]; rfl) | (rw [Lib.toList_data]; rfl) | rfl | decide)).mono ?_; rintro e w3 ⟨⟨v3, he, hr3, hb3⟩, hnil⟩; rw [hnil HZ.out.1]; have hs3 : w2.heap.size ≤ w3.heap.size := Nat.le_trans hsz hb3.size; have HR3 := Lib.hid (row_keep HROW.out fun i hi => hb3.block i (HROW.out.lt i hi).2); have HB4 := Lib.hid (HB.out.trans (((bd1 wr).mono hsz).trans (hb3.mono hsz))); clear hr3 hb3 he hnil) | (refine appn_none w2.heap.size w3 _ m L (.tmp 64) (.tmp 68) rfl rfl (by simp [Act.eval, Act.put]) (by simp [Act.eval, Act.put]) HR3.out ?_))
          all_goals
            go_wp2_with fail
            go_roundg (nf - (j + 1))
            case measure => omega
            case rel => exact ⟨j + 1, m, ⟨by omega, rfl⟩, by go_num, ⟨by rw [HFM.out, HP0.out, HZ.out.2.1, List.append_nil]; exact HM.out, by omega⟩, by rw [HFM.out, HP0.out, HZ.out.2.1, List.append_nil]; exact HR3.out, HB4.out⟩
        · have hm30 : 0 < m3 := by
            have h1 := mt HZZ.out.1 (mt HKZ.out.1 hz)
            rw [← HM3.out]
            exact List.length_pos_iff.2 h1
          clear hz
          go_region_law (first | (go_simp; go_at_call 139; refine (HKD.out _ (by exact bd1 _) _ (by first | (rw [Lib.toList_data, ByteArray.data_extract]; rfl) | (rw [Lib.toList_data]; rfl) | rfl | decide)).mono ?_; rintro e w3 ⟨⟨v3, rfl, hr3, hb3⟩, -⟩; have hs3 : w2.heap.size ≤ w3.heap.size := Nat.le_trans hsz hb3.size; have HR3 := Lib.hid (row_keep HROW.out fun i hi => hb3.block i (HROW.out.lt i hi).2); have HB4 := Lib.hid (HB.out.trans (((bd1 wr).mono hsz).trans (hb3.mono hsz))); have HV3 := Lib.hid hr3; clear hr3 hb3) | (refine appn_step w2.heap.size w3 hs3 _ v3 m m3 L L2 HM3.out hm30 (by omega) (.tmp 64) (.tmp 68) _ rfl rfl (by simp [Act.eval, Act.put]) (by simp [Act.eval, Act.put]) HR3.out (by rw [← HM3.out]; exact HV3.out) hm3 ?_; intro g1 cp1 w4 hr1 hb1; have HR1 := Lib.hid hr1; have HB1 := Lib.hid (HB4.out.trans hb1); clear hr1 hb1))
          all_goals
            go_wp2_with fail
            go_roundg (nf - (j + 1))
            case measure => omega
            case rel => exact ⟨j + 1, _, ⟨by omega, rfl⟩, by go_num, ⟨by rw [HFM.out, HP0.out, List.length_append, ← HM.out, HM3.out], by omega⟩, by rw [HFM.out, HP0.out]; exact HR1.out, HB1.out⟩
      have HP0 := Lib.hid (show partP xh (kidsP c k) p = [Pz.tk p] by unfold partP; rw [if_neg q0, if_neg q1, if_neg q2, if_neg q3, if_neg q4, if_neg q5, if_neg q6, if_neg q7])
      have e0 : (p == [78]) = false := by simpa using q0
      have e1 : (p == [83]) = false := by simpa using q1
      have e2 : (p == [84]) = false := by simpa using q2
      have e3 : (p == [48]) = false := by simpa using q3
      have e4 : (p == [49]) = false := by simpa using q4
      have e5 : (p == [50]) = false := by simpa using q5
      have e6 : (p == [42]) = false := by simpa using q6
      have e7 : (p == [42, 44]) = false := by simpa using q7
      clear q0 q1 q2 q3 q4 q5 q6 q7
      go_wp2_with (at_builtin; refine appz_law w2.heap.size wr _ rfl hsz _ m L (Pz.tk p) _ rfl _ _ rfl rfl rfl rfl HROW.out hm3 ?_; intro g1 cp1 w4 hr1 hb1; have HR1 := Lib.hid hr1; have HB1 := Lib.hid (HB.out.trans hb1); clear hr1 hb1)
      go_roundg (nf - (j + 1))
      case measure => omega
      case rel => exact ⟨j + 1, _, ⟨by omega, rfl⟩, by go_num, ⟨by rw [HFM.out, HP0.out, List.length_append, ← HM.out], by simp; omega⟩, by rw [HFM.out, HP0.out]; exact HR1.out, HB1.out⟩
    · obtain rfl : j = nf := by omega
      have hfin : (patL xh.op kl).take j = patL xh.op kl := by rw [← HNF.out, List.take_length]
      have HF := Lib.hid hfin
      clear hfin
      go_wp2_with fail
      go_ret
      have h1 := HROW.out
      have h2 := HM.out
      rw [HF.out, ← HPC.out] at h1 h2
      refine ⟨_, rfl, ?_, HBW.out⟩
      rw [← h2]
      exact ⟨h1.1, h1.2.imp id fun ⟨g, cap, cur, a, b, c⟩ => ⟨g, cap, cur, a, by omega, c⟩⟩
end Go.Proofs.YtlbjjpfhkgagiaaGreatDoor
/-! Prh -/
namespace Go.Proofs.YtlbjjpfhkgagiaaGreatDoor
open Go.RowKit Go.Shelf
set_option linter.unusedVariables false
set_option linter.unusedSimpArgs false

theorem pzC_len (p : Pz) : (pzC p).length = 2 := by cases p <;> rfl
theorem pzCells_at (l : List Pz) (i : Nat) (p : Pz) (h : l[i]? = some p) : (pzCells l)[i * 2]? = (pzC p)[0]? ∧ (pzCells l)[i * 2 + 1]? = (pzC p)[1]? := by
  induction l generalizing i with
  | nil => simp at h
  | cons a l ih =>
    have e : pzCells (a :: l) = pzC a ++ pzCells l := by simp [pzCells]
    rw [e]
    cases i with
    | zero =>
      simp at h
      subst h
      exact ⟨by rw [List.getElem?_append_left (by rw [pzC_len]; omega)], by rw [List.getElem?_append_left (by rw [pzC_len]; omega)]⟩
    | succ i =>
      simp at h
      obtain ⟨h1, h2⟩ := ih i h
      constructor
      · rw [List.getElem?_append_right (by rw [pzC_len]; omega), pzC_len, show (i + 1) * 2 - 2 = i * 2 by omega]; exact h1
      · rw [List.getElem?_append_right (by rw [pzC_len]; omega), pzC_len, show (i + 1) * 2 + 1 - 2 = i * 2 + 1 by omega]; exact h2
/-- A block that begins with these pieces. -/
def BlkZ (W : World) (g cap : Nat) (l : List Pz) : Prop := ∃ cur, W.heap[g]? = some (.cells cur tZ (0, 0)) ∧ l.length ≤ cap ∧ cap ≤ maxLen ∧ cur.size = cap * 2 ∧ cur.toList.take (l.length * 2) = pzCells l
theorem BlkZ.of {W : World} {base g m cap n : Nat} {l : List Pz} (h : W.ownsRow base tZ 2 (.slice (some ⟨g, 0, none⟩) m cap) n (pzCells l)) (hn : l.length = n) : BlkZ W g cap l ∧ m = n := by
  rcases h.2 with ⟨hv, _⟩ | ⟨g', cap', cur, hv, _, hb, h1, h2, h3, h4⟩
  · cases hv
  · simp at hv
    obtain ⟨rfl, rfl, rfl⟩ := hv
    exact ⟨⟨cur, hb, by omega, h2, h3, by rw [hn]; exact h4⟩, rfl⟩
theorem BlkZ.row {W : World} {base g cap : Nat} {l : List Pz} (h : BlkZ W g cap l) (hb : base ≤ g) : W.ownsRow base tZ 2 (.slice (some ⟨g, 0, none⟩) l.length cap) l.length (pzCells l) := by
  obtain ⟨cur, h1, h2, h3, h4, h5⟩ := h
  exact ⟨pzCells_len l, .inr ⟨g, cap, cur, rfl, hb, h1, h2, h3, h4, h5⟩⟩
theorem BlkZ.at_ {W : World} {g cap : Nat} {l : List Pz} (h : BlkZ W g cap l) {i : Nat} {p : Pz} (hp : l[i]? = some p) :
    W.cell? ⟨g, i * 2, none⟩ = (pzC p)[0]? ∧ W.cell? ⟨g, i * 2 + 1, none⟩ = (pzC p)[1]? ∧ W.frozen? ⟨g, i * 2, none⟩ = false ∧ W.frozen? ⟨g, i * 2 + 1, none⟩ = false ∧ g < W.heap.size := by
  obtain ⟨cur, h1, h2, h3, h4, h5⟩ := h
  have hi : i < l.length := (List.getElem?_eq_some_iff.1 hp).1
  obtain ⟨e1, e2⟩ := pzCells_at l i p hp
  refine ⟨?_, ?_, Lib.frozen_of_heap h1 _, Lib.frozen_of_heap h1 _, (Array.getElem?_eq_some_iff.1 h1).1⟩
  · rw [cell_of_row W g _ cur tZ (0, 0) h1, ← e1, ← h5, List.getElem?_take_of_lt (by omega), Array.getElem?_toList]
  · rw [cell_of_row W g _ cur tZ (0, 0) h1, ← e2, ← h5, List.getElem?_take_of_lt (by omega), Array.getElem?_toList]
theorem pzCells_set (l : List Pz) (i : Nat) (p : Pz) (hi : i < l.length) {x y : Value} (hp : pzC p = [x, y]) : ((pzCells l).set (i * 2) x).set (i * 2 + 1) y = pzCells (l.set i p) := by
  induction l generalizing i with
  | nil => simp at hi
  | cons a l ih =>
    have e : ∀ b : Pz, ∀ m : List Pz, pzCells (b :: m) = pzC b ++ pzCells m := fun b m => by simp [pzCells]
    obtain ⟨u, v, ha⟩ : ∃ u v, pzC a = [u, v] := by cases a <;> exact ⟨_, _, rfl⟩
    cases i with
    | zero => simp [e, ha, hp]
    | succ i =>
      have h1 := ih i (by simpa using hi)
      rw [List.set_cons_succ, e, e, ha, ← h1]
      have e2 : (i + 1) * 2 = i * 2 + 2 := by omega
      rw [e2]
      simp
/-- A piece is written over. -/
theorem BlkZ.put {W : World} {g cap : Nat} {l : List Pz} (h : BlkZ W g cap l) {i : Nat} (hi : i < l.length) (p : Pz) {x y : Value} (hp : pzC p = [x, y]) :
    BlkZ ((W.setCell ⟨g, i * 2, none⟩ x).setCell ⟨g, i * 2 + 1, none⟩ y) g cap (l.set i p) := by
  obtain ⟨cur, h1, h2, h3, h4, h5⟩ := h
  have b1 : Blk W g tZ cur := h1
  refine ⟨_, (b1.set_ (i * 2) x).set_ (i * 2 + 1) y, by simpa using h2, h3, by simpa using h4, ?_⟩
  rw [← pzCells_set l i p hi hp, ← h5]
  simp only [Array.toList_setIfInBounds, List.length_set]
  rw [List.take_set, List.take_set]

/-- Only block g has turned. -/
structure OnlyG (g : Nat) (w w' : World) : Prop where
  os : w'.os = w.os
  tape : w'.tape = w.tape
  output : w'.output = w.output
  size : w'.heap.size = w.heap.size
  block : ∀ i, i ≠ g → w'.heap[i]? = w.heap[i]?
theorem OnlyG.refl (g : Nat) (w : World) : OnlyG g w w := ⟨rfl, rfl, rfl, rfl, fun _ _ => rfl⟩
theorem OnlyG.set_ {g : Nat} {w w' : World} (h : OnlyG g w w') (o : Nat) (x : Value) : OnlyG g w (w'.setCell ⟨g, o, none⟩ x) :=
  ⟨h.os, h.tape, h.output, by simpa using h.size, fun i hi => (Below.heap_setCell _ _ _ _ hi).trans (h.block i hi)⟩
theorem OnlyG.below {g B : Nat} {w w' : World} (h : OnlyG g w w') (hB : B ≤ g) : Below B w w' := ⟨h.os, h.tape, h.output, by rw [h.size]; exact Nat.le_refl _, fun k hk => h.block k (by omega)⟩
/-- k pieces at each end have changed their places. -/
def Flip (l : List Pz) (n k : Nat) (c : List Pz) : Prop := c.length = n ∧ ∀ t, t < n → c[t]? = if t < k ∨ n - k ≤ t then l.reverse[t]? else l[t]?
theorem Flip.start (l : List Pz) : Flip l l.length 0 l := ⟨rfl, fun t ht => by rw [if_neg (by omega)]⟩
theorem Flip.done {l c : List Pz} {n k : Nat} (hn : l.length = n) (h : Flip l n k c) (hk : n ≤ 2 * k + 1) : c = l.reverse := by
  apply List.ext_getElem?
  intro t
  by_cases ht : t < n
  · rw [h.2 t ht]
    split
    · rfl
    · rw [List.getElem?_reverse (by omega), hn]
      congr 1
      omega
  · rw [List.getElem?_eq_none (by rw [h.1]; omega), List.getElem?_eq_none (by rw [List.length_reverse]; omega)]
theorem Flip.next {l c : List Pz} {n k j : Nat} {p q : Pz} (hn : l.length = n) (h : Flip l n k c) (hj : k + j + 1 = n) (hkj : k < j) (hp : c[k]? = some p) (hq : c[j]? = some q) : Flip l n (k + 1) ((c.set k q).set j p) := by
  refine ⟨by simpa using h.1, fun t ht => ?_⟩
  have hcl := h.1
  have hk1 := h.2 k (by omega)
  have hj1 := h.2 j (by omega)
  rw [if_neg (by omega), hp] at hk1
  rw [if_neg (by omega), hq] at hj1
  rw [List.getElem?_set]
  split
  · rename_i e
    subst e
    rw [if_pos (by simp; omega), if_pos (by omega), List.getElem?_reverse (by omega), hn, show n - 1 - j = k by omega, hk1]
  · rw [List.getElem?_set]
    split
    · rename_i e
      subst e
      rw [if_pos (by omega), if_pos (by omega), List.getElem?_reverse (by omega), hn, show n - 1 - k = j by omega, hj1]
    · rw [h.2 t ht]
      by_cases hc : t < k ∨ n - k ≤ t
      · rw [if_pos hc, if_pos (by omega)]
      · rw [if_neg hc, if_neg (by omega)]

set_option maxHeartbeats 4000000 in
set_option maxRecDepth 100000 in
theorem reverse_any (l : List Pz) (n cap g : Nat) (hn : l.length = n) (hn2 : n ≤ 1000000) (w : World) (hb : BlkZ w g cap l) :
    Calls Tryz.prog 105 #[.slice (some ⟨g, 0, none⟩) n cap] w fun e w' => e = .returned (.tuple #[]) ∧ BlkZ w' g cap l.reverse ∧ OnlyG g w w' := by
  have HN := Lib.hid hn
  have HB := Lib.hid hb
  clear hn hb
  go_enter Tryz.func105, Tryz.ntmps105
  go_wp2_with fail
  go_loopw [2, 3] (fun x y wr => ∃ (k : Nat) (c : List Pz), (k = 0 ∨ 2 * k ≤ n) ∧ x = .int .i64 k ∧ y = .int .i64 ((n : Int) - 1 - k) ∧ Flip l n k c ∧ BlkZ wr g cap c ∧ OnlyG g w wr) (fun x _ _ => n - (intOf x).toNat)
  case atStart => exact ⟨0, l, by omega, rfl, by simp, by have := Flip.start l; rwa [HN.out] at this, HB.out, OnlyG.refl _ _⟩
  case round =>
    obtain ⟨k, c, hk, rfl, rfl, hF, hZ, hO⟩ := hrel
    have HF := Lib.hid hF
    have HZ := Lib.hid hZ
    have HO := Lib.hid hO
    clear hF hZ hO
    by_cases hlt : (k : Int) < (n : Int) - 1 - k
    · obtain ⟨j, hj⟩ : ∃ j : Nat, (n : Int) - 1 - k = j := ⟨n - 1 - k, by omega⟩
      have hjn : k + j + 1 = n := by omega
      have hkj : k < j := by omega
      rw [hj]
      rw [hj] at hlt
      have hck : k < c.length := by rw [HF.out.1]; omega
      have hcj : j < c.length := by rw [HF.out.1]; omega
      have hp := List.getElem?_eq_getElem hck
      have hq := List.getElem?_eq_getElem hcj
      generalize c[k] = p at hp
      generalize c[j] = q at hq
      obtain ⟨p0, p1, pf0, pf1, pl⟩ := HZ.out.at_ hp
      obtain ⟨q0, q1, qf0, qf1, -⟩ := HZ.out.at_ hq
      obtain ⟨u, v, hpc⟩ : ∃ (u : ByteArray) (v : Int), pzC p = [.string u, .int .i64 v] := by cases p <;> exact ⟨_, _, rfl⟩
      obtain ⟨u', v', hqc⟩ : ∃ (u : ByteArray) (v : Int), pzC q = [.string u, .int .i64 v] := by cases q <;> exact ⟨_, _, rfl⟩
      rw [hpc] at p0 p1
      rw [hqc] at q0 q1
      simp only [List.getElem?_cons_zero, List.getElem?_cons_succ] at p0 p1 q0 q1
      have HU := Lib.hid (And.intro hp (And.intro hq (And.intro hpc hqc)))
      have hjn2 : j < n := by omega
      have hkn2 : k < n := by omega
      have hne : k ≠ j := by omega
      have HJ := Lib.hid hj
      have HJN := Lib.hid (And.intro hjn hkj)
      clear hck hcj hp hq hpc hqc hjn hj
      go_wp2_with fail
      go_region
      all_goals
        obtain ⟨hp, hq, hpc, hqc⟩ := HU.out
        have hZ2 := (HZ.out.put (i := k) (by rw [HF.out.1]; exact hkn2) q hqc).put (i := j) (by rw [List.length_set, HF.out.1]; exact hjn2) p hpc
        have hO2 := (((HO.out.set_ (k * 2) (.string u')).set_ (k * 2 + 1) (.int .i64 v')).set_ (j * 2) (.string u)).set_ (j * 2 + 1) (.int .i64 v)
        have hF2 := HF.out.next HN.out HJN.out.1 HJN.out.2 hp hq
        have HX2 := Lib.hid (And.intro hZ2 (And.intro hO2 hF2))
        clear hp hq hpc hqc hZ2 hO2 hF2
        go_wp2_with fail
        go_roundw
        case rel => exact ⟨k + 1, (c.set k q).set j p, by have := HJN.out; omega, by go_num, by have := HJ.out; congr 1; omega, HX2.out.2.2, HX2.out.1, ⟨HX2.out.2.1.os, HX2.out.2.1.tape, HX2.out.2.1.output, HX2.out.2.1.size, HX2.out.2.1.block⟩⟩
        case measure => simp [intOf]; omega
    · have hd : decide ((k : Int) < (n : Int) - 1 - k) = false := by simpa using hlt
      have hfin := HF.out.done HN.out (by omega)
      have HD := Lib.hid hfin
      clear hfin
      go_wp2_with fail
      go_end0
      exact ⟨rfl, by rw [← HD.out]; exact HZ.out, HO.out⟩
end Go.Proofs.YtlbjjpfhkgagiaaGreatDoor
/-! Pri -/
namespace Go.Proofs.YtlbjjpfhkgagiaaGreatDoor
set_option linter.unusedVariables false
set_option linter.unusedSimpArgs false

/-- The nodes are there where the piece's tree stands. -/
def Pz.held (L : List Nd) : Pz → Prop
  | .tk _ => True
  | .nd h k c => (Fo.one h k).flat c <+: L.drop c
theorem held_self {L : List Nd} {h : Hd} {k : Fo} {c : Nat} (hh : (Pz.nd h k c).held L) : L[c + k.size]? = some ⟨h, k.roots c⟩ := by
  obtain ⟨r, hr⟩ := hh
  have e : (L.drop c)[k.size]? = some ⟨h, k.roots c⟩ := by
    rw [← hr, List.getElem?_append_left (by simp [Fo.one, Fo.flat, Fo.flat_length])]
    simp only [Fo.one, Fo.flat]
    rw [List.getElem?_append_right (by rw [Fo.flat_length]; exact Nat.le_refl _), Fo.flat_length]
    simp
  rwa [List.getElem?_drop] at e
theorem held_kids {L : List Nd} (k : Fo) : ∀ c, k.flat c <+: L.drop c → ∀ p ∈ kidsP c k, p.held L := by
  induction k with
  | nil => intro c _ p hp; cases hp
  | cons h k r _ ih =>
    intro c hpre p hp
    obtain ⟨x, hx⟩ := hpre
    simp only [Fo.flat] at hx
    rcases List.mem_cons.1 hp with rfl | hp
    · exact ⟨r.flat (c + k.size + 1) ++ x, by rw [← hx]; simp [Fo.one, Fo.flat]⟩
    · refine ih (c + k.size + 1) ⟨x, ?_⟩ p hp
      have e : L.drop (c + k.size + 1) = (L.drop c).drop (k.size + 1) := by rw [List.drop_drop]; congr 1
      rw [e, ← hx]
      have hl : (k.flat c ++ [(⟨h, k.roots c⟩ : Nd)]).length = k.size + 1 := by simp [Fo.flat_length]
      have e2 : k.flat c ++ (⟨h, k.roots c⟩ : Nd) :: r.flat (c + k.size + 1) ++ x = (k.flat c ++ [(⟨h, k.roots c⟩ : Nd)]) ++ (r.flat (c + k.size + 1) ++ x) := by simp
      rw [e2, ← hl, List.drop_left]
theorem held_pre {L : List Nd} {h : Hd} {k : Fo} {c : Nat} (hh : (Pz.nd h k c).held L) : k.flat c <+: L.drop c := by
  obtain ⟨r, hr⟩ := hh
  exact ⟨⟨h, k.roots c⟩ :: r, by rw [← hr]; simp [Fo.one, Fo.flat]⟩
theorem kidP_mem {h : Hd} {i : Nat} {o : Option Pz} {p : Pz} (hp : p ∈ kidP h i o) : (∃ s, p = .tk s) ∨ o = some p := by
  cases o with
  | none => cases hp
  | some q =>
    cases q with
    | tk s => cases hp
    | nd a b c =>
      simp only [kidP] at hp
      split at hp
      · simp at hp
        rcases hp with rfl | rfl | rfl
        · exact .inl ⟨_, rfl⟩
        · exact .inr rfl
        · exact .inl ⟨_, rfl⟩
      · simp at hp; subst hp; exact .inr rfl
theorem pcs_mem {h : Hd} {k : Fo} {c : Nat} {p : Pz} (hp : p ∈ pcs h k c) : (∃ s, p = .tk s) ∨ p ∈ kidsP c k := by
  obtain ⟨x, _, hp⟩ := List.mem_flatMap.1 hp
  unfold partP at hp
  split at hp; · simp at hp; exact .inl ⟨_, hp⟩
  split at hp; · simp at hp; exact .inl ⟨_, hp⟩
  split at hp; · simp at hp; exact .inl ⟨_, hp⟩
  split at hp; · exact (kidP_mem hp).imp id fun e => List.mem_of_getElem? e
  split at hp; · exact (kidP_mem hp).imp id fun e => List.mem_of_getElem? e
  split at hp; · exact (kidP_mem hp).imp id fun e => List.mem_of_getElem? e
  split at hp; · exact .inr hp
  split at hp
  · revert hp
    cases kidsP c k with
    | nil => intro hp; cases hp
    | cons a l =>
      intro hp
      simp [sepP] at hp
      rcases hp with rfl | ⟨b, hb, rfl | rfl⟩
      · exact .inr (by simp)
      · exact .inl ⟨_, rfl⟩
      · exact .inr (by simp [hb])
  · simp at hp; exact .inl ⟨_, hp⟩
theorem pcs_pos {h : Hd} {k : Fo} (c : Nat) (ha : arity h.op k.len = true) : 0 < (pcs h k c).length := by
  rcases arity_cases ha with ⟨ho, hn⟩ | ⟨ho, hn⟩ | ⟨ho, hn⟩ | ⟨ho, hn⟩ | ⟨ho, hn⟩ | ⟨ho, hn⟩ | ⟨ho, hn⟩ | ho
  · rcases ho with ho | ho | ho | ho <;> simp [pcs, patL, ho, partP, wIn, wGoto]
  · rcases ho with ho | ho | ho | ho | ho | ho | ho | ho <;> simp [pcs, patL, ho, partP, wOut] <;> omega
  · rcases ho with ho | ho | ho <;> simp [pcs, patL, ho, partP, wWhile] <;> omega
  · simp [pcs, patL, ho, hn, partP, wIf]
  · simp [pcs, patL, ho, hn, partP, wIf, wElse]
  · simp [pcs, patL, ho, hn, partP, wReturn]
  · simp [pcs, patL, ho, hn, partP, wReturn]
  · rcases ho with ho | ho <;> simp [pcs, patL, ho, partP]

/-- What waits, of a tree (h, k) whose nodes stand from c on: the line so far (l', begun bg'), which nodes are seen. -/
structure TI (L : List Nd) (T : Tx) (l : List UInt8) (bg : Bool) (S : List Bool) (c n : Nat) (st : List Pz) (l' : List UInt8) (bg' : Bool) (S' : List Bool) (g : Nat) : Prop where
  txt : l ++ wl bg T = l' ++ wl bg' (st.flatMap Pz.out)
  beg : bgn bg T = bgn bg' (st.flatMap Pz.out)
  okp : ∀ p ∈ st, p.ok ∧ p.held L
  nod : (st.flatMap Pz.rng).Nodup
  uns : ∀ i ∈ st.flatMap Pz.rng, S'[i]? = some false
  ins : ∀ i ∈ st.flatMap Pz.rng, c ≤ i ∧ i < c + n
  out : ∀ i, ¬ (c ≤ i ∧ i < c + n) → S'[i]? = S[i]?
  len : S'.length = S.length
  cnt : g = (st.flatMap Pz.out).length + (st.flatMap Pz.rng).length
theorem TI.start {L : List Nd} {h : Hd} {k : Fo} {c : Nat} (l : List UInt8) (bg : Bool) (S : List Bool) (hok : (Pz.nd h k c).ok) (hh : (Pz.nd h k c).held L) (hs : ∀ i, c ≤ i → i < c + (k.size + 1) → S[i]? = some false) :
    TI L (nodeT h k.tk) l bg S c (k.size + 1) [.nd h k c] l bg S ((nodeT h k.tk).length + (k.size + 1)) where
  txt := by simp [Pz.out, Pz.ht]
  beg := by simp [Pz.out, Pz.ht]
  okp := fun p hp => by simp at hp; subst hp; exact ⟨hok, hh⟩
  nod := by simpa [Pz.rng] using List.nodup_range'
  uns := fun i hi => by simp [Pz.rng, List.mem_range'_1] at hi; exact hs i hi.1 (by omega)
  ins := fun i hi => by simp [Pz.rng, List.mem_range'_1] at hi; omega
  out := fun _ _ => rfl
  len := rfl
  cnt := by simp [Pz.out, Pz.ht, Pz.rng]
theorem TI.tok {L : List Nd} {T : Tx} {l l' : List UInt8} {bg bg' : Bool} {S S' : List Bool} {c n g : Nat} {s : List UInt8} {st : List Pz} (h : TI L T l bg S c n (.tk s :: st) l' bg' S' (g + 1)) :
    TI L T l bg S c n st (l' ++ wl bg' [s]) (bgn bg' [s]) S' g where
  txt := by
    have := h.txt
    simp only [List.flatMap_cons, Pz.out, Pz.ht] at this
    rw [wl_append, ← List.append_assoc] at this
    exact this
  beg := by
    have := h.beg
    simp only [List.flatMap_cons, Pz.out, Pz.ht] at this
    rw [bgn_append] at this
    exact this
  okp := fun p hp => h.okp p (List.mem_cons_of_mem _ hp)
  nod := by simpa [Pz.rng] using h.nod
  uns := fun i hi => h.uns i (by simpa [Pz.rng] using hi)
  ins := fun i hi => h.ins i (by simpa [Pz.rng] using hi)
  out := h.out
  len := h.len
  cnt := by have := h.cnt; simp [Pz.rng, Pz.out, Pz.ht] at this ⊢; omega
theorem TI.node {L : List Nd} {T : Tx} {l l' : List UInt8} {bg bg' : Bool} {S S' : List Bool} {c n g : Nat} {h' : Hd} {k' : Fo} {c' : Nat} {st : List Pz} (h : TI L T l bg S c n (.nd h' k' c' :: st) l' bg' S' (g + 1)) :
    TI L T l bg S c n (pcs h' k' c' ++ st) l' bg' (S'.set (c' + k'.size) true) g := by
  have h1 := (h.okp _ (List.mem_cons_self ..)).1
  have hr := pcs_rng (h := h') (k := k') c' h1.1.ar
  have ho := pcs_out h' k' c'
  have e : ∀ (st : List Pz), (pcs h' k' c' ++ st).flatMap Pz.rng = List.range' c' k'.size ++ st.flatMap Pz.rng := fun st => by rw [List.flatMap_append, hr]
  have e2 : (Pz.nd h' k' c' :: st).flatMap Pz.rng = List.range' c' k'.size ++ (c' + k'.size) :: st.flatMap Pz.rng := by
    simp only [List.flatMap_cons, Pz.rng]
    rw [List.range'_concat]
    simp
  have e3 : (pcs h' k' c' ++ st).flatMap Pz.out = (Pz.nd h' k' c' :: st).flatMap Pz.out := by rw [List.flatMap_append, ho, List.flatMap_cons]; rfl
  have hsub : ∀ i ∈ List.range' c' k'.size ++ st.flatMap Pz.rng, i ∈ (Pz.nd h' k' c' :: st).flatMap Pz.rng ∧ i ≠ c' + k'.size := fun i hi => by
    have hn := h.nod
    rw [e2] at hn ⊢
    refine ⟨?_, fun e9 => ?_⟩
    · rcases List.mem_append.1 hi with hi | hi
      · exact List.mem_append_left _ hi
      · exact List.mem_append_right _ (List.mem_cons_of_mem _ hi)
    · subst e9
      obtain ⟨h2, h3, h4⟩ := List.nodup_append.1 hn
      rcases List.mem_append.1 hi with hi | hi
      · simp [List.mem_range'_1] at hi
      · exact (List.nodup_cons.1 h3).1 hi
  exact {
    txt := by rw [e3]; exact h.txt
    beg := by rw [e3]; exact h.beg
    okp := fun p hp => by
      rcases List.mem_append.1 hp with hp | hp
      · refine ⟨pcs_ok c' h1.1 h1.2 p hp, ?_⟩
        rcases pcs_mem hp with ⟨s, rfl⟩ | hk
        · trivial
        · exact held_kids k' c' (held_pre (h.okp _ (List.mem_cons_self ..)).2) p hk
      · exact h.okp p (List.mem_cons_of_mem _ hp)
    nod := by
      rw [e]
      have hn := h.nod
      rw [e2] at hn
      exact hn.sublist (List.Sublist.append (List.Sublist.refl _) (List.sublist_cons_self _ _))
    uns := fun i hi => by
      rw [e] at hi
      obtain ⟨a, b⟩ := hsub i hi
      rw [List.getElem?_set_ne (Ne.symm b)]
      exact h.uns i a
    ins := fun i hi => by rw [e] at hi; exact h.ins i (hsub i hi).1
    out := fun i hi => by
      rw [List.getElem?_set_ne]
      · exact h.out i hi
      · intro e9
        exact hi (h.ins i (by rw [e2, ← e9]; simp))
    len := by rw [List.length_set]; exact h.len
    cnt := by
      have := h.cnt
      rw [e2] at this
      rw [e, e3]
      simp only [List.length_append, List.length_cons] at this ⊢
      omega }
theorem TI.bound {L : List Nd} {T : Tx} {l l' : List UInt8} {bg bg' : Bool} {S S' : List Bool} {c n g : Nat} {st : List Pz} (h : TI L T l bg S c n st l' bg' S' g) : st.length ≤ g := by
  rw [h.cnt]
  clear h
  induction st with
  | nil => simp
  | cons a st ih =>
    simp only [List.length_cons, List.flatMap_cons, List.length_append]
    have h1 : 1 ≤ a.out.length + a.rng.length := by
      cases a with
      | tk s => exact Nat.le_refl _
      | nd h k c => simp [Pz.rng]; omega
    omega
end Go.Proofs.YtlbjjpfhkgagiaaGreatDoor
/-! Prj -/
namespace Go.Proofs.YtlbjjpfhkgagiaaGreatDoor
open Go.RowKit Go.Shelf
set_option linter.unusedVariables false
set_option linter.unusedSimpArgs false

abbrev tBo : TypeId := 4
def seenC (S : List Bool) : Array Value := (S.map Value.bool).toArray
theorem seenC_set (S : List Bool) (i : Nat) (x : Bool) : (seenC S).setIfInBounds i (.bool x) = seenC (S.set i x) := by
  apply Array.ext'
  simp [seenC, Array.toList_setIfInBounds, List.map_set]
theorem seenC_at {S : List Bool} {i : Nat} {x : Bool} (h : S[i]? = some x) : (seenC S)[i]? = some (.bool x) := by simp [seenC, h]
theorem Wb.alloc {B b : Nat} {w : World} {l : List UInt8} {bg : Bool} {nv sv v : Value} (h : Wb B b w l bg nv sv v) (o : Obj) : Wb B b (w.alloc o) l bg nv sv v := by
  obtain ⟨p, hp, hb⟩ := h.blk
  exact ⟨⟨p, hp, (heap_alloc_old _ _ _ hb.lt).trans hb⟩, h.base, h.row.alloc _⟩
/-- The same bytes, in a world in which other blocks alone have turned. -/
theorem Wb.same {B b : Nat} {w w' : World} {l : List UInt8} {bg : Bool} {nv sv v : Value} (h : Wb B b w l bg nv sv v) (hk : ∀ i, i < w.heap.size → i = b ∨ (∃ c fz, w.heap[i]? = some (.cells c tU fz)) → w'.heap[i]? = w.heap[i]?) : Wb B b w' l bg nv sv v := by
  obtain ⟨p, hp, hb⟩ := h.blk
  refine ⟨⟨p, hp, (hk b hb.lt (.inl rfl)).trans hb⟩, h.base, h.row.1, ?_⟩
  rcases h.row.2 with h0 | ⟨g, cap, cur, fz, hv, hbg, hg, rest⟩
  · exact .inl h0
  · exact .inr ⟨g, cap, cur, fz, hv, hbg, (hk g (Array.getElem?_eq_some_iff.1 hg).1 (.inr ⟨cur, fz, hg⟩)).trans hg, rest⟩
theorem Wb.below {B b : Nat} {w w' : World} {l : List UInt8} {bg : Bool} {nv sv v : Value} (h : Wb B b w l bg nv sv v) (hb : Below w.heap.size w w') : Wb B b w' l bg nv sv v := h.same fun i hi _ => hb.block i hi
theorem Wb.far {B b : Nat} {w : World} {l : List UInt8} {bg : Bool} {nv sv v : Value} (h : Wb B b w l bg nv sv v) {j : Nat} {t : TypeId} {cs : Array Value} (hj : Blk w j t cs) (hjb : j ≠ b) (ht : t ≠ tU) (o : Nat) (x : Value) : Wb B b (w.setCell ⟨j, o, none⟩ x) l bg nv sv v :=
  h.same fun i hi hc => Below.heap_setCell _ _ _ _ fun e => by
    simp only at e
    subst e
    rcases hc with e | ⟨c, fz, e⟩
    · exact hjb e
    · unfold Blk at hj
      rw [hj] at e
      cases e
      exact ht rfl
/-- A list of pieces of the call's own, made longer. -/
theorem appn_law {ops : Array Oper} {rest : List Oper} {op : Oper} {a : Act} {Q : Exit → Act → World → Prop} (base : Nat) (W : World) (hbase : base ≤ W.heap.size) (v u : Value) (n m : Nat) (l l2 : List Pz) (hm : l2.length = m) (hm0 : 0 < m) (hm2 : m ≤ 1000000) (s x : Operand) (B2 : Nat)
    (hgd : op.guard = none) (ho : op.op = .call { callee := .builtin .append, args := #[s, x], argTypes := #[142, 142] }) (hs : a.eval s = v) (hx : a.eval x = u)
    (hrow : W.ownsRow base tZ 2 v n (pzCells l)) (hrow2 : W.ownsRow B2 tZ 2 u m (pzCells l2)) (hn : n ≤ 1000000)
    (h : ∀ g cp w1, w1.ownsRow base tZ 2 (.slice (some ⟨g, 0, none⟩) (n + m) cp) (n + m) (pzCells (l ++ l2)) → W.grownBy w1 v.ownBlock → wpList Tryz.prog ops Q rest (a.put op.dst (.slice (some ⟨g, 0, none⟩) (n + m) cp)) w1) :
    wpList Tryz.prog ops Q (op :: rest) a W := by
  obtain ⟨i0, hi, hz0, hz1, hz2⟩ := info_parts infoZ
  obtain ⟨g2, c2, hu⟩ : ∃ g c, u = .slice (some ⟨g, 0, none⟩) m c := by
    rcases hrow2.2 with ⟨_, h0⟩ | ⟨g, cap, cur, hv, _⟩
    · omega
    · exact ⟨g, cap, hv⟩
  subst hu
  have h1c : ∀ u ∈ pzCells l2, u.oneCell' = true := by
    intro u hu
    obtain ⟨p, _, hp⟩ := List.mem_flatMap.1 hu
    cases p <;> simp [pzC] at hp <;> rcases hp with rfl | rfl <;> rfl
  refine wpList_append_lies _ hgd s x _ ho base tZ i0 (.agg #[.string ⟨#[]⟩, .int .i64 0]) 2 24 Tryz.underlying142 hi hz0 hz1 hz2 rfl (by decide) v n _ hs hrow ⟨g2, 0, none⟩ m c2 (pzCells l2) hx (by rw [pzCells_len, hm]) (hrow2.cells rfl) h1c hm0 (by unfold maxLen; omega) (by omega) hbase W.heap.size rfl ?_
  intro g cp w1 hr hg hgl hlt
  exact h g cp w1 (by rw [pzCells_app]; exact hr) hg
theorem rowZ_take {W : World} {base g m cap : Nat} {l : List Pz} {p : Pz} (h : W.ownsRow base tZ 2 (.slice (some ⟨g, 0, none⟩) (m + 1) cap) (m + 1) (pzCells (l ++ [p]))) (hl : l.length = m) : W.ownsRow base tZ 2 (.slice (some ⟨g, 0, none⟩) m cap) m (pzCells l) := by
  rcases h.2 with ⟨hv, _⟩ | ⟨g', cap', cur, hv, hb, hg, h1, h2, h3, h4⟩
  · cases hv
  · simp at hv
    obtain ⟨rfl, rfl⟩ := hv
    refine ⟨by rw [pzCells_len, hl], .inr ⟨g, cap, cur, rfl, hb, hg, by omega, h2, h3, ?_⟩⟩
    have e := congrArg (List.take (m * 2)) h4
    rw [List.take_take, Nat.min_eq_left (by omega), pzCells_app, List.take_left' (by rw [pzCells_len, hl])] at e
    exact e

set_option maxHeartbeats 8000000 in
set_option maxRecDepth 100000 in
theorem tree_any {B b gs N : Nat} {w : World} {l : List UInt8} {bg : Bool} {nv v : Value} {ns : List NV} {S : List Bool} (hW : Wb B b w l bg nv (.slice (some ⟨gs, 0, none⟩) N N) v) (hE : EnvW B w) (hN : Nds w B nv ns) (hS : Blk w gs tBo (seenC S)) (hSl : S.length = N) (hNl : ns.length = N) (hgs : B ≤ gs) (hgb : gs ≠ b)
    (h : Hd) (k : Fo) (c : Nat) (hok : (Pz.nd h k c).ok) (hh : (Pz.nd h k c).held (ns.map NV.nd)) (hun : ∀ i, c ≤ i → i < c + (k.size + 1) → S[i]? = some false) (hlen : l.length + (wl bg (nodeT h k.tk)).length ≤ 1000000000) (hG : (nodeT h k.tk).length + (k.size + 1) ≤ 1000000) :
    Calls Tryz.prog 61 #[.pointer (some ⟨b, 0, none⟩), .int .i64 (c + k.size : Nat)] w fun e w' => e = .returned (.tuple #[]) ∧ ∃ v' S', Wb B b w' (l ++ wl bg (nodeT h k.tk)) (bgn bg (nodeT h k.tk)) nv (.slice (some ⟨gs, 0, none⟩) N N) v' ∧ Blk w' gs tBo (seenC S') ∧ S'.length = N ∧ (∀ i, ¬ (c ≤ i ∧ i < c + (k.size + 1)) → S'[i]? = S[i]?) ∧ Kw B [b, gs] w w' := by
  have hT := TI.start l bg S hok hh hun
  obtain ⟨G, hGe⟩ : ∃ G, (nodeT h k.tk).length + (k.size + 1) = G := ⟨_, rfl⟩
  rw [hGe] at hT hG
  generalize hTx : nodeT h k.tk = T at *
  generalize hnn : k.size + 1 = n at *
  obtain ⟨r0, hr0⟩ : ∃ r0, c + k.size = r0 := ⟨_, rfl⟩
  rw [hr0]
  have HT := Lib.hid hT
  have HW := Lib.hid hW
  have hbw := hW.lt
  have hgw0 := hS.lt
  have HE := Lib.hid hE
  have HN := Lib.hid hN
  have HS := Lib.hid hS
  have HSL := Lib.hid (And.intro hSl hNl)
  have HLN := Lib.hid hlen
  have hBw : B ≤ w.heap.size := by have := hW.lt; have := hW.base; omega
  have hR0 : (w.alloc (.cells #[.string ⟨#[]⟩, .int .i64 r0] tZ)).ownsRow w.heap.size tZ 2 (.slice (some ⟨w.heap.size, 0, none⟩) 1 1) 1 (pzCells [Pz.nd h k c].reverse) := by
    have := World.ownsRow_lit (base := w.heap.size) (e := tZ) (size := 2) w #[.string ⟨#[]⟩, .int .i64 r0] 1 (Nat.le_refl _) (by unfold maxLen; omega) rfl
    rw [← hr0] at this ⊢
    exact this
  have HR0 := Lib.hid hR0
  have HL := Lib.hid (show (ns.map NV.nd).length = N by rw [List.length_map]; exact hNl)
  clear hT hTx hnn hGe hW hE hN hS hSl hNl hlen hR0 hok hh hun hr0
  go_enter Tryz.func61, Tryz.ntmps61
  go_wp2_with fail
  go_loopg [4] G (fun g y wx => ∃ (A : Option Addr) (cc : Nat) (st : List Pz) (l' : List UInt8) (bg' : Bool) (v' : Value) (S' : List Bool), y = .slice A st.length cc ∧ TI (ns.map NV.nd) T l bg S c n st l' bg' S' g ∧ g ≤ G ∧ wx.ownsRow w.heap.size tZ 2 y st.length (pzCells st.reverse) ∧ Wb B b wx l' bg' nv (.slice (some ⟨gs, 0, none⟩) N N) v' ∧ Blk wx gs tBo (seenC S') ∧ Kw B [b, gs] w wx)
  case atStart => exact ⟨_, _, [.nd h k c], l, bg, v, S, rfl, HT.out, Nat.le_refl _, HR0.out, HW.out.alloc _, HS.out.alloc _, (Kw.refl _ _ _).alloc hBw _⟩
  case round =>
    obtain ⟨A, cc, st, l', bg', v', S', rfl, hI, hgG, hR, hW, hS, hK⟩ := hrel
    have HI := Lib.hid hI
    have HR := Lib.hid hR
    have HW1 := Lib.hid hW
    have HS1 := Lib.hid hS
    have HK := Lib.hid hK
    clear hI hR hW hS hK
    cases st with
    | nil =>
      go_wp2_with fail
      go_end0
      have hI := HI.out
      refine ⟨rfl, v', S', ?_, HS1.out, by rw [hI.len, HSL.out.1], hI.out, HK.out⟩
      have h1 := hI.txt
      have h2 := hI.beg
      simp only [List.flatMap_nil, wl, List.append_nil, bgn, List.isEmpty_nil, Bool.not_true, Bool.or_false] at h1 h2
      unfold bgn
      rw [h1, h2]
      exact HW1.out
    | cons p st =>
      obtain ⟨m, hm⟩ : ∃ m, st.length = m := ⟨_, rfl⟩
      have hrow : wr.ownsRow w.heap.size tZ 2 (.slice A (m + 1) cc) (m + 1) (pzCells (st.reverse ++ [p])) := by
        have := HR.out
        rw [List.reverse_cons, List.length_cons, hm] at this
        exact this
      obtain ⟨g, hA, hgw⟩ : ∃ g, A = some ⟨g, 0, none⟩ ∧ w.heap.size ≤ g := by
        rcases hrow.2 with ⟨_, h0⟩ | ⟨g, cap, cur, hv, hb, _⟩
        · omega
        · simp at hv; exact ⟨g, hv.1, hb⟩
      subst hA
      have hml : st.reverse.length = m := by rw [List.length_reverse]; exact hm
      obtain ⟨hZ, -⟩ := BlkZ.of hrow (by rw [List.length_append, hml]; rfl)
      have htop : (st.reverse ++ [p])[m]? = some p := by rw [List.getElem?_append_right (by omega), hml]; simp
      obtain ⟨z0, z1, -, -, zl⟩ := hZ.at_ htop
      have hmc : m + 1 ≤ cc := by obtain ⟨cur, _, h2, _⟩ := hZ; rw [List.length_append, hml] at h2; exact h2
      have hrow2 := rowZ_take hrow hml
      have hbd := HI.out.bound
      rw [List.length_cons, hm] at hbd
      rw [List.length_cons, hm]
      cases gk with
      | zero => omega
      | succ j =>
      have hpok := HI.out.okp p (List.mem_cons_self ..)
      have hm1 : (((m + 1 : Nat) : Int) - 1) = (m : Int) := by omega
      have HM := Lib.hid (And.intro hm hml)
      have HR2 := Lib.hid hrow2
      have HB9 := Lib.hid (show B ≤ wr.heap.size from Nat.le_trans hBw HK.out.low.size)
      have hm6 : m ≤ 1000000 := by omega
      clear hm hml hrow hZ htop hrow2 HR
      cases p with
      | tk s =>
        simp only [pzC, List.getElem?_cons_zero, List.getElem?_cons_succ] at z0 z1
        have hI2 := HI.out.tok
        have hs0 : s ≠ [] := hpok.1.1
        have ds : (!s.isEmpty) = true := by
          cases s with
          | nil => exact absurd rfl hs0
          | cons a b => rfl
        have hln : l'.length + (wl bg' [s]).length ≤ 1000000000 := by
          have h1 := HLN.out
          have h2 := congrArg List.length HI.out.txt
          simp only [List.flatMap_cons, Pz.out, Pz.ht, List.length_append] at h2
          have h3 : (wl bg' ([s] ++ st.flatMap Pz.out)).length = (wl bg' [s]).length + (wl (bgn bg' [s]) (st.flatMap Pz.out)).length := by rw [wl_append, List.length_append]
          omega
        have HI2 := Lib.hid hI2
        have HLN2 := Lib.hid hln
        have HR3 := Lib.hid (HR2.out.alloc (.cells #[.string (str s), .int .i64 0] tZ))
        have HW3 := Lib.hid (HW1.out.alloc (.cells #[.string (str s), .int .i64 0] tZ))
        have HS3 := Lib.hid (HS1.out.alloc (.cells #[.string (str s), .int .i64 0] tZ))
        have HK3 := Lib.hid (HK.out.alloc HB9.out (.cells #[.string (str s), .int .i64 0] tZ))
        clear hI2 hs0 hln hpok HW1 HS1 HK HR2 HI
        go_wp2_with fail
        refine (tok1 HW3.out (by simp) [s] 1 rfl (by omega) HLN2.out).mono ?_
        rintro e w4 ⟨rfl, v4, hW4, hK4⟩
        have HW4 := Lib.hid hW4
        have HK4 := Lib.hid (HK3.out.trans (hK4.more (fun i hi => by simp at hi; subst hi; simp)))
        have HS4 := Lib.hid (hK4.blk HS3.out (by simp; exact hgb) (by decide))
        have HR4 := Lib.hid (hK4.row HR3.out (fun g' hg' => by simp [Value.ownBlock] at hg'; simp; omega) (by decide))
        clear hW4 hK4
        go_wp2_with fail
        go_roundg j
        case measure => omega
        case rel => exact ⟨some ⟨g, 0, none⟩, cc, st, _, _, v4, S', by rw [HM.out.1], HI2.out, by omega, by rw [HM.out.1]; exact HR4.out, HW4.out, HS4.out, HK4.out⟩
      | nd h' k' c' =>
        simp only [pzC, List.getElem?_cons_zero, List.getElem?_cons_succ] at z0 z1
        obtain ⟨idx, hidx⟩ : ∃ idx, c' + k'.size = idx := ⟨_, rfl⟩
        have hself := held_self hpok.2
        rw [hidx] at z1 hself
        obtain ⟨x, hx, hxn⟩ : ∃ x, ns[idx]? = some x ∧ x.nd = ⟨h', k'.roots c'⟩ := by
          rw [List.getElem?_map] at hself
          obtain ⟨x, h1, h2⟩ := Option.map_eq_some_iff.1 hself
          exact ⟨x, h1, h2⟩
        have hidn : idx < N := by rw [← HSL.out.2]; exact (List.getElem?_eq_some_iff.1 hx).1
        have hun := HI.out.uns idx (by rw [← hidx]; simp [Pz.rng, List.mem_range'_1])
        have hI2 := HI.out.node
        rw [hidx] at hI2
        have HI2 := Lib.hid hI2
        have HX := Lib.hid (And.intro hx (And.intro hxn (And.intro hpok hidx)))
        have HUN := Lib.hid hun
        have HR3 := Lib.hid (HR2.out.alloc (.cells #[.string (str []), .int .i64 idx] tZ))
        have HW3 := Lib.hid (HW1.out.alloc (.cells #[.string (str []), .int .i64 idx] tZ))
        have HS3 := Lib.hid (HS1.out.alloc (.cells #[.string (str []), .int .i64 idx] tZ))
        have HK3 := Lib.hid (HK.out.alloc HB9.out (.cells #[.string (str []), .int .i64 idx] tZ))
        have HP3 := Lib.hid (Blk.new wr tZ #[.string (str []), .int .i64 idx])
        have hbr : b < wr.heap.size := HW1.out.lt
        have hgr : gs < wr.heap.size := HS1.out.lt
        clear hself hx hxn hun hI2 hidx hpok HW1 HS1 HK HR2 HI
        go_upto_region 7 with (fail)
        have HF1 : Hid (Wb B b (wr.alloc (.cells #[.string (str []), .int .i64 idx] tZ)) l' bg' nv (.slice (some ⟨gs, 0, none⟩) N N) v' ∧ Blk (wr.alloc (.cells #[.string (str []), .int .i64 idx] tZ)) gs tBo (seenC S') ∧ (wr.alloc (.cells #[.string (str []), .int .i64 idx] tZ)).ownsRow w.heap.size tZ 2 (.slice (some ⟨g, 0, none⟩) m cc) m (pzCells st.reverse) ∧ Kw B [b, gs] w (wr.alloc (.cells #[.string (str []), .int .i64 idx] tZ)) ∧ Blk (wr.alloc (.cells #[.string (str []), .int .i64 idx] tZ)) wr.heap.size tZ #[.string (str []), .int .i64 idx]) := Lib.hid ⟨HW3.out, HS3.out, HR3.out, HK3.out, HP3.out⟩
        clear HW3 HS3 HR3 HK3 HP3 z0 z1
        obtain ⟨q, hq⟩ : ∃ q, wr.heap.size = q := ⟨_, rfl⟩
        have hqg : q ≠ gs ∧ q ≠ b := by omega
        rw [hq] at HF1 ⊢
        generalize wr.alloc (.cells #[.string (str []), .int .i64 idx] tZ) = W1 at HF1 ⊢
        obtain ⟨-, b3, b4, -, -⟩ := HF1.out.1.cell2
        have q1 : W1.cell? ⟨q, 1, none⟩ = some (.int .i64 idx) := HF1.out.2.2.2.2.cell 1
        have se : W1.cell? ⟨gs, idx, none⟩ = some (.bool false) := (HF1.out.2.1.cell idx).trans (seenC_at HUN.out)
        clear hq hbr hgr
        go_quiet (fail)
        go_upto_region 9 with (fail)
        have HF2 : Hid (Wb B b (W1.drewN nq) l' bg' nv (.slice (some ⟨gs, 0, none⟩) N N) v' ∧ Blk (W1.drewN nq) gs tBo (seenC S') ∧ (W1.drewN nq).ownsRow w.heap.size tZ 2 (.slice (some ⟨g, 0, none⟩) m cc) m (pzCells st.reverse) ∧ Kw B [b, gs] w (W1.drewN nq) ∧ Blk (W1.drewN nq) q tZ #[.string (str []), .int .i64 idx]) := Lib.hid ⟨HF1.out.1.below (below_drewN _ _ _), HF1.out.2.1, HF1.out.2.2.1, HF1.out.2.2.2.1.trans ⟨below_drewN _ _ _, fun _ _ h _ _ => h⟩, HF1.out.2.2.2.2⟩
        clear HF1 b3 b4 q1 se
        generalize W1.drewN nq = W2 at HF2 ⊢
        obtain ⟨-, b3, b4, bl, -⟩ := HF2.out.1.cell2
        have q1 : W2.cell? ⟨q, 1, none⟩ = some (.int .i64 idx) := HF2.out.2.2.2.2.cell 1
        have se : W2.cell? ⟨gs, idx, none⟩ = some (.bool false) := (HF2.out.2.1.cell idx).trans (seenC_at HUN.out)
        have sf := HF2.out.2.1.frozen idx
        have sl := HF2.out.2.1.lt
        go_region
        all_goals
          go_upto_region 10 with (fail)
          have HF3 : Hid (Wb B b ((W2.setCell ⟨gs, idx, none⟩ (.bool true)).drew) l' bg' nv (.slice (some ⟨gs, 0, none⟩) N N) v' ∧ Blk ((W2.setCell ⟨gs, idx, none⟩ (.bool true)).drew) gs tBo (seenC (S'.set idx true)) ∧ ((W2.setCell ⟨gs, idx, none⟩ (.bool true)).drew).ownsRow w.heap.size tZ 2 (.slice (some ⟨g, 0, none⟩) m cc) m (pzCells st.reverse) ∧ Kw B [b, gs] w ((W2.setCell ⟨gs, idx, none⟩ (.bool true)).drew) ∧ Blk ((W2.setCell ⟨gs, idx, none⟩ (.bool true)).drew) q tZ #[.string (str []), .int .i64 idx]) := Lib.hid ⟨(HF2.out.1.far HF2.out.2.1 hgb (by decide) idx (.bool true)).below (bd1 _), by rw [← seenC_set]; exact HF2.out.2.1.set_ idx (.bool true), row_keep HF2.out.2.2.1 fun i hi => Below.heap_setCell _ _ _ _ (by simp [Value.ownBlock] at hi; simp; omega), (HF2.out.2.2.2.1.set_ (by simp) hgs _ _).drew, HF2.out.2.2.2.2.far (p := ⟨gs, idx, none⟩) hqg.1 _⟩
          clear HF2 b3 b4 bl q1 se sf sl
          generalize ((W2.setCell ⟨gs, idx, none⟩ (.bool true)).drew) = W3 at HF3 ⊢
          obtain ⟨-, b3, b4, bl, -⟩ := HF3.out.1.cell2
          have q1 : W3.cell? ⟨q, 1, none⟩ = some (.int .i64 idx) := HF3.out.2.2.2.2.cell 1
          have hN3 := HN.out.below HF3.out.2.2.2.1.low
          obtain ⟨NA, nc, hsl, hrd⟩ := hN3.sl
          have hid2 : idx < ns.length := by rw [HSL.out.2]; exact hidn
          obtain ⟨g9, o9, hA9, hg9, hcs⟩ : ∃ g o, NA = some ⟨g, o, none⟩ ∧ g < B ∧ ∀ i x, ns[i]? = some x → ∀ j, j < 8 → W3.cell? ⟨g, o + i * 8 + j, none⟩ = (cells8 x)[j]? := by
            rcases hrd with h9 | h9
            · rw [h9] at hid2; simp at hid2
            · exact h9
          subst hA9
          have hx := HX.out.1
          have y0 := hcs idx x hx 0 (by omega)
          have y1 := hcs idx x hx 1 (by omega)
          have y2 := hcs idx x hx 2 (by omega)
          have y3 := hcs idx x hx 3 (by omega)
          have y4 := hcs idx x hx 4 (by omega)
          have y5 := hcs idx x hx 5 (by omega)
          have y6 := hcs idx x hx 6 (by omega)
          have y7 := hcs idx x hx 7 (by omega)
          simp only [cells8, List.getElem?_cons_zero, List.getElem?_cons_succ, Nat.add_zero] at y0 y1 y2 y3 y4 y5 y6 y7
          rw [hsl] at b3
          rw [HSL.out.2] at b3
          have hg9l : g9 < W3.heap.size := by have := HF3.out.2.2.2.1.low.size; omega
          have hxh : x.h = h' ∧ x.kids = k'.roots c' := by
            have := HX.out.2.1
            simp only [NV.nd, Nd.mk.injEq] at this
            exact this
          have hPC : ∀ W, Below W3.heap.size W3 W → Calls Tryz.prog 104 #[.pointer (some ⟨b, 0, none⟩), nodeV x] W (RZ W (pcs h' k' c')) := fun W hbW => by
            have hlow : Below B w W := HF3.out.2.2.2.1.low.trans (hbW.mono (by have := HF3.out.2.2.2.1.low.size; omega))
            have hpk := HX.out.2.2.1
            have := pieces_any (HE.out.below hlow) (HN.out.below hlow) ((HF3.out.1.below hbW).cell2.2.1) ((HF3.out.1.below hbW).lt) (Nat.le_trans hBw hlow.size) x ((HN.out.kids x (List.mem_of_getElem? hx)).below hlow) k' c' hxh.2 (by rw [hxh.1]; exact hpk.1.1) (by
              have h1 := Fo.len_le k'
              have h2 := HX.out.2.2.2
              have h3 := HN.out.len
              omega) (fun i h2 k2 c2 hi => by
                have hm9 := held_kids k' c' (held_pre hpk.2) _ (List.mem_of_getElem? hi)
                have hs9 := held_self hm9
                rw [List.getElem?_map] at hs9
                obtain ⟨y9, hy1, hy2⟩ := Option.map_eq_some_iff.1 hs9
                exact ⟨y9, hy1, by simp only [NV.nd, Nd.mk.injEq] at hy2; exact hy2.1⟩)
            rw [hxh.1] at this
            exact this
          have HPC := Lib.hid hPC
          clear hPC hxh hx hcs hrd hN3 hsl hid2
          go_region_with (go_at_call 104; refine (HPC.out _ (by exact bd1 _)).mono ?_; intro e w5 hR; obtain ⟨v5, rfl, hr5, hb5⟩ := hR; have HR5 := Lib.hid hr5; have HB5 := Lib.hid (((bd1 W3)).trans hb5); clear hr5 hb5)
          all_goals
            obtain ⟨m5, hm5⟩ : ∃ m5, (pcs h' k' c').length = m5 := ⟨_, rfl⟩
            have hm50 : 0 < m5 := by rw [← hm5]; exact pcs_pos c' HX.out.2.2.1.1.1.ar
            have hr5 : w5.ownsRow W3.heap.size tZ 2 v5 m5 (pzCells (pcs h' k' c')) := by rw [← hm5]; exact HR5.out
            obtain ⟨g5, cap5, hv5, hg5⟩ : ∃ g5 cap5, v5 = .slice (some ⟨g5, 0, none⟩) m5 cap5 ∧ W3.heap.size ≤ g5 := by
              rcases hr5.2 with ⟨_, h0⟩ | ⟨g5, cap5, cur, hv, hb, _⟩
              · omega
              · exact ⟨g5, cap5, hv, hb⟩
            subst hv5
            obtain ⟨hZ5, -⟩ := BlkZ.of hr5 hm5
            have hbnd := HI2.out.bound
            rw [List.length_append, hm5, HM.out.1] at hbnd
            have hs5 := HB5.out.size
            have hgg : g < W3.heap.size := (HF3.out.2.2.1.lt g rfl).2
            have HF5 : Hid (Wb B b w5 l' bg' nv (.slice (some ⟨gs, 0, none⟩) N N) v' ∧ Blk w5 gs tBo (seenC (S'.set idx true)) ∧ w5.ownsRow w.heap.size tZ 2 (.slice (some ⟨g, 0, none⟩) m cc) m (pzCells st.reverse) ∧ Kw B [b, gs] w w5) := Lib.hid ⟨HF3.out.1.below HB5.out, (HB5.out.block _ HF3.out.2.1.lt).trans HF3.out.2.1, row_keep HF3.out.2.2.1 fun i hi => HB5.out.block i (HF3.out.2.2.1.lt i hi).2, HF3.out.2.2.2.1.trans (.of HB5.out (Nat.le_trans hBw HF3.out.2.2.2.1.low.size))⟩
            have hbg5 : b ≠ g5 ∧ gs ≠ g5 ∧ g ≠ g5 ∧ B ≤ g5 := by
              have h1 := HF3.out.1.lt
              have h2 := HF3.out.2.1.lt
              have h3 := HF3.out.2.2.2.1.low.size
              omega
            have HZ5 := Lib.hid (And.intro hZ5 hm5)
            clear HF3 HB5 HR5 hr5 hZ5 hm5 b3 b4 bl q1 y0 y1 y2 y3 y4 y5 y6 y7 hg9 hg9l
            go_wp2_with fail
            refine (reverse_any (pcs h' k' c') m5 cap5 g5 HZ5.out.2 (by omega) w5 HZ5.out.1).mono ?_
            rintro e w6 ⟨rfl, hZ6, hO6⟩
            have HF6 : Hid (Wb B b w6 l' bg' nv (.slice (some ⟨gs, 0, none⟩) N N) v' ∧ Blk w6 gs tBo (seenC (S'.set idx true)) ∧ w6.ownsRow w.heap.size tZ 2 (.slice (some ⟨g, 0, none⟩) m cc) m (pzCells st.reverse) ∧ Kw B [b, gs] w w6) := Lib.hid ⟨HF5.out.1.same (fun i hi hc => hO6.block i (fun e => by
                subst e
                rcases hc with e | ⟨c9, fz, e⟩
                · exact hbg5.1 e.symm
                · obtain ⟨cur, h1, _⟩ := HZ5.out.1
                  rw [h1] at e
                  cases e)), (hO6.block _ hbg5.2.1).trans HF5.out.2.1, row_keep HF5.out.2.2.1 (fun i hi => hO6.block i (by simp [Value.ownBlock] at hi; omega)), ⟨HF5.out.2.2.2.low.trans (hO6.below hbg5.2.2.2), fun k9 o hk9 hb9 ho9 => (hO6.block k9 (by have := (Array.getElem?_eq_some_iff.1 hk9).1; omega)).trans (HF5.out.2.2.2.kept k9 o hk9 hb9 ho9)⟩⟩
            have hZr := hZ6.row (base := 0) (Nat.zero_le _)
            rw [List.length_reverse, HZ5.out.2] at hZr
            have HZR := Lib.hid hZr
            have hbs6 : w.heap.size ≤ w6.heap.size := HF6.out.2.2.2.low.size
            have HO := Lib.hid hO6
            have hrl : (pcs h' k' c').reverse.length = m5 := by rw [List.length_reverse]; exact HZ5.out.2
            have HRL := Lib.hid hrl
            clear hZ6 hO6 hZr hrl
            go_wp2_with (at_builtin; refine appn_law w.heap.size w6 hbs6 (.slice (some ⟨g, 0, none⟩) m cc) (.slice (some ⟨g5, 0, none⟩) m5 cap5) m m5 st.reverse (pcs h' k' c').reverse HRL.out hm50 (by omega) _ _ 0 rfl rfl rfl rfl HF6.out.2.2.1 HZR.out hm6 ?_; intro g7 cp7 w7 hr7 hg7; have HR7 := Lib.hid hr7; have HG7 := Lib.hid hg7; clear hr7 hg7)
            have hg7 : w6.grownBy w7 (some g) := HG7.out
            have hne : ∀ i, i ≠ g → i < w6.heap.size → w7.heap[i]? = w6.heap[i]? := fun i hi hl => hg7.block i hl (fun e => by simp [Value.ownBlock] at e; exact hi e)
            have hF7 : Wb B b w7 l' bg' nv (.slice (some ⟨gs, 0, none⟩) N N) v' ∧ Blk w7 gs tBo (seenC (S'.set idx true)) ∧ Kw B [b, gs] w w7 := by
              refine ⟨HF6.out.1.same (fun i hi hc => hne i (fun e => by
                subst e
                rcases hc with e | ⟨c9, fz, e⟩
                · omega
                · rcases HF6.out.2.2.1.2 with ⟨hv, _⟩ | ⟨g', cap', cur, hv, _, hb', _⟩
                  · cases hv
                  · simp at hv
                    rw [← hv.1, e] at hb'
                    cases hb') hi), (hne gs (by omega) HF6.out.2.1.lt).trans HF6.out.2.1, HF6.out.2.2.2.low.trans ⟨hg7.os, hg7.tape, hg7.output, hg7.size, fun k9 hk9 => hne k9 (by omega) (by omega)⟩, fun k9 o hk9 hb9 ho9 => (hne k9 (by have := (Array.getElem?_eq_some_iff.1 hk9).1; omega) (by have := (Array.getElem?_eq_some_iff.1 hk9).1; omega)).trans (HF6.out.2.2.2.kept k9 o hk9 hb9 ho9)⟩
            have HF7 := Lib.hid hF7
            have hst : (pcs h' k' c' ++ st).length = m + m5 := by rw [List.length_append, HZ5.out.2, HM.out.1]; omega
            have HST := Lib.hid hst
            clear hg7 hne hF7 hst
            go_roundg j
            case measure => omega
            case rel => exact ⟨some ⟨g7, 0, none⟩, cp7, pcs h' k' c' ++ st, l', bg', v', S'.set idx true, by rw [HST.out], HI2.out, by omega, by rw [HST.out, List.reverse_append]; exact HR7.out, HF7.out.1, HF7.out.2.1, HF7.out.2.2⟩
end Go.Proofs.YtlbjjpfhkgagiaaGreatDoor
