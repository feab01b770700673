/-
  Layer parse in memory: the reader and its nodes.
-/
import Derived.Test.YtfaoiajhoifalaaGreatDoorLexk0
import Derived.Test.YtfaoiajhoifalaaGreatDoorParw
namespace Go.Proofs.YtfaoiajhoifalaaGreatDoor
open Go.RowKit
set_option linter.unusedVariables false
set_option linter.unusedSimpArgs false

abbrev tR : TypeId := 127
abbrev tN : TypeId := 75
abbrev tI : TypeId := 3
abbrev tF : TypeId := 93

/-- A reader: its block, its tokens, the end, what memory is its own, its map. -/
structure Rdr where
  b : Nat
  A : Option Addr
  cap : Nat
  T : List Tok
  e : Tok
  base : Nat
  mb : Nat
  mo : Obj
/-- A node in memory: its kids are a slice. -/
structure NV where
  h : Hd
  kids : List Nat
  v : Value
def NV.nd (x : NV) : Nd := ⟨x.h, x.kids⟩
def cells8 (x : NV) : List Value := [.int .i64 x.h.op, .int .i64 x.h.p, .int .i64 x.h.n, .string (str x.h.s), .int .i64 x.h.to, x.v, .int .i64 x.h.ty, .int .i64 0]
def cellsN (l : List NV) : List Value := l.flatMap cells8
theorem cellsN_snoc (l : List NV) (x : NV) : cellsN (l ++ [x]) = cellsN l ++ cells8 x := by simp [cellsN]
def kidCells (l : List Nat) : List Value := l.map fun k => .int .i64 (k : Nat)
def rdCells (X : Rdr) (pos : Nat) (v : Value) : Array Value :=
  #[.slice X.A X.T.length X.cap, .int .i64 X.e.k, .int .i64 X.e.p, .int .i64 X.e.n, .string (str X.e.s), .int .i64 pos, v, .map (some X.mb)]
def rd (X : Rdr) : Value := .pointer (some ⟨X.b, 0, none⟩)

/-- The reader stands at s; its nodes so far are ns, their slice is v. -/
structure At (X : Rdr) (w : World) (s : St) (ns : List NV) (v : Value) : Prop where
  blk : Blk w X.b tR (rdCells X (X.T.length - s.l.length) v)
  suf : s.l <:+ X.T
  len : X.T.length ≤ 2000000
  toks : RdT w X.base X.A X.T
  txt : ∀ t ∈ X.T, t.s.length ≤ 140737488355328
  fin : X.e.k = 4
  cnt : s.c = ns.length
  max : s.c ≤ 4000
  rows : w.ownsRow X.base tN 8 v ns.length (cellsN ns)
  kids : ∀ x ∈ ns, w.ownsRow X.base tI 1 x.v x.kids.length (kidCells x.kids)
  hb : X.base ≤ X.b
  env : EnvY w
  szE : gY < X.base
  mph : w.heap[X.mb]? = some X.mo
  mpc : X.mo.isCells = false

theorem row_keep {w w' : World} {base size n : Nat} {t : TypeId} {v : Value} {xs : List Value} (h : w.ownsRow base t size v n xs) (hk : ∀ g, v.ownBlock = some g → w'.heap[g]? = w.heap[g]?) : w'.ownsRow base t size v n xs := by
  refine ⟨h.1, h.2.imp id ?_⟩
  rintro ⟨g, cap, cur, rfl, h1, h2, h3⟩
  exact ⟨g, cap, cur, rfl, h1, (hk g rfl).trans h2, h3⟩
theorem At.below {X : Rdr} {w w' : World} {s : St} {ns : List NV} {v : Value} (h : At X w s ns v) (hb : Below w.heap.size w w') : At X w' s ns v where
  blk := (hb.block _ h.blk.lt).trans h.blk
  suf := h.suf
  len := h.len
  toks := h.toks.keep fun g o hg => hb.cell (p := ⟨g, o, none⟩) (Nat.lt_of_lt_of_le hg (Nat.le_trans h.hb (Nat.le_of_lt h.blk.lt)))
  txt := h.txt
  fin := h.fin
  cnt := h.cnt
  max := h.max
  rows := row_keep h.rows fun g hg => hb.block _ (h.rows.lt _ hg).2
  kids := fun x hx => row_keep (h.kids x hx) fun g hg => hb.block _ ((h.kids x hx).lt _ hg).2
  hb := h.hb
  env := h.env.below hb (Nat.le_refl _)
  szE := h.szE
  mph := (hb.block _ (Array.getElem?_eq_some_iff.1 h.mph).1).trans h.mph
  mpc := h.mpc

/-- What a call of the reader's may turn: the reader's block, its nodes' row. -/
structure Kp (X : Rdr) (w : World) (v : Value) (w' : World) (v' : Value) : Prop where
  os : w'.os = w.os
  tape : w'.tape = w.tape
  output : w'.output = w.output
  size : w.heap.size ≤ w'.heap.size
  block : ∀ i, i < w.heap.size → i ≠ X.b → some i ≠ v.ownBlock → w'.heap[i]? = w.heap[i]?
  own : v'.ownBlock = v.ownBlock ∨ ∃ g, v'.ownBlock = some g ∧ w.heap.size ≤ g
theorem Kp.of {X : Rdr} {w w' : World} {v : Value} (h : Below w.heap.size w w') : Kp X w v w' v := ⟨h.os, h.tape, h.output, h.size, fun i hi _ _ => h.block i hi, .inl rfl⟩
theorem Kp.refl (X : Rdr) (w : World) (v : Value) : Kp X w v w v := .of (Below.refl _ _)
theorem Kp.trans {X : Rdr} {a b c : World} {u v x : Value} (h : Kp X a u b v) (k : Kp X b v c x) : Kp X a u c x where
  os := k.os.trans h.os
  tape := k.tape.trans h.tape
  output := k.output.trans h.output
  size := Nat.le_trans h.size k.size
  block := fun i hi hb hv => (k.block i (Nat.lt_of_lt_of_le hi h.size) hb (by
    rcases h.own with e | ⟨g, e, hg⟩
    · rw [e]; exact hv
    · rw [e]; intro e'; cases e'; omega)).trans (h.block i hi hb hv)
  own := by
    rcases k.own with e | ⟨g, e, hg⟩
    · rw [e]; exact h.own.imp id fun ⟨g, e, hg⟩ => ⟨g, e, hg⟩
    · exact .inr ⟨g, e, Nat.le_trans h.size hg⟩
theorem Kp.below {X : Rdr} {w w' : World} {v v' : Value} {s : St} {ns : List NV} (h : Kp X w v w' v') (ha : At X w s ns v) : Below X.base w w' where
  os := h.os
  tape := h.tape
  output := h.output
  size := h.size
  block := fun i hi => by
    have h1 := ha.hb
    have h2 := ha.blk.lt
    refine h.block i (by omega) (by omega) fun e => ?_
    have := (ha.rows.lt i e.symm).1
    omega

/-- The place of the next token. -/
theorem At.pos {X : Rdr} {w : World} {s : St} {ns : List NV} {v : Value} (h : At X w s ns v) : s.l = X.T.drop (X.T.length - s.l.length) ∧ s.l.length ≤ X.T.length := by
  obtain ⟨p, hp⟩ := h.suf
  have hl : p.length + s.l.length = X.T.length := by rw [← hp]; simp
  refine ⟨?_, by omega⟩
  rw [show X.T.length - s.l.length = p.length by omega, ← hp]
  simp

theorem ret_tok {fn : Func} {R : Ending → World → Prop} {a : Act} {w : World} {b : Nat} {p : Nat} {t : Tok} {T : TypeId} {fr : Nat × Nat} (hf : fn.results = #[.cell p tE]) (hd : a.defers = [])
    (h2 : a.tmps.getD p undef = .pointer (some ⟨b, 0, none⟩)) (hb : w.heap[b]? = some (.cells #[.int .i64 t.k, .int .i64 t.p, .int .i64 t.n, .string (str t.s)] T fr))
    (hR : R (.returned (tokV t)) w) : bodyPost Tryz.prog fn R .ret a w := by
  exact bodyPost_ret (v := tokV t) (results_cell_row hf _ _ b T _ fr _ h2 hb Tryz.underlying92 rfl tokInfo) hd hR
theorem ret_tok4 {fn : Func} {R : Ending → World → Prop} {a : Act} {w : World} {b : Nat} {p : Nat} {t : Tok} {T : TypeId} {cs : Array Value} {fr : Nat × Nat} (hf : fn.results = #[.cell p tE]) (hd : a.defers = [])
    (h2 : a.tmps.getD p undef = .pointer (some ⟨b, 0, none⟩)) (hb : w.heap[b]? = some (.cells cs T fr)) (hn : cs.size = 4)
    (hR : R (.returned (tokV t)) (set4 w b t)) : bodyPost Tryz.prog fn R .ret a (set4 w b t) :=
  ret_tok hf hd h2 (cell_set4 (t := t) hb hn) hR

set_option maxHeartbeats 1000000 in
theorem peek_any {X : Rdr} {w : World} {s : St} {ns : List NV} {v : Value} (h : At X w s ns v) :
    Calls Tryz.prog 79 #[rd X] w fun e w' => e = .returned (tokV (pk X.e s)) ∧ Below w.heap.size w w' := by
  obtain ⟨hp1, hp2⟩ := h.pos
  have hlen := h.len
  have hbl := h.blk.lt
  have hcell := h.blk.cell
  have htk := h.toks
  have hbb := h.hb
  unfold rd
  obtain ⟨pos, hpos⟩ : ∃ pos, X.T.length - s.l.length = pos := ⟨_, rfl⟩
  rw [hpos] at hp1 hcell
  obtain ⟨n, hn⟩ : ∃ n, X.T.length = n := ⟨_, rfl⟩
  have c0 := hcell 0; have c1 := hcell 1; have c2 := hcell 2; have c3 := hcell 3; have c4 := hcell 4; have c5 := hcell 5
  simp only [rdCells] at c0 c1 c2 c3 c4 c5
  simp only [List.getElem?_toArray, List.getElem?_cons_zero, List.getElem?_cons_succ, hn] at c0 c1 c2 c3 c4 c5
  by_cases hlt : pos < n
  · obtain ⟨g, o, hA, hg, x0, x1, x2, x3⟩ := htk.at_ (by omega : pos < X.T.length)
    have hgl : g < w.heap.size := by omega
    have ht : pk X.e s = X.T[pos] := by rw [pk, hp1, List.headD_eq_head?_getD, List.head?_drop, List.getElem?_eq_getElem (by omega)]; rfl
    rw [ht]
    generalize X.T[pos] = t at *
    rw [hA] at c0
    clear htk hcell hA hp1 ht
    go_enter Tryz.func79, Tryz.ntmps79
    go_wp2
    go_quiet (fail)
    go_wp2
    go_region
    go_wp2
    refine ret_tok4 (t := t) rfl rfl rfl (heap_alloc_new w _) rfl ⟨rfl, ?_⟩
    exact below_set4 ((((Below.refl _ w).alloc (Nat.le_refl _) _).trans (below_drewN _ _ _))) (Nat.le_refl _)
  · obtain rfl : pos = n := by omega
    have ht : pk X.e s = X.e := by rw [pk, hp1, List.drop_of_length_le (by omega)]; rfl
    rw [ht]
    generalize X.e = t at *
    clear htk hcell hp1 ht
    go_enter Tryz.func79, Tryz.ntmps79
    go_wp2
    go_quiet (fail)
    go_wp2
    refine ret_tok4 (t := t) rfl rfl rfl (heap_alloc_new w _) rfl ⟨rfl, ?_⟩
    exact below_set4 ((((Below.refl _ w).alloc (Nat.le_refl _) _).trans (below_drewN _ _ _))) (Nat.le_refl _)

set_option maxHeartbeats 1000000 in
/-- A token as an argument: its text. -/
theorem quoted_any (t : Tok) (w : World) :
    Calls Tryz.prog 117 #[tokV t] w fun e w' => e = .returned (.string (str (q t))) ∧ Below w.heap.size w w' := by
  rw [str_eta]
  by_cases h3 : t.k = 3
  · have d3 : decide (t.k = 3) = true := by simpa using h3
    have hq : q t = t.s := by simp [q, h3]
    rw [hq]
    go_enter Tryz.func117, Tryz.ntmps117
    go_wp2
    go_ret
    exact ⟨rfl, (Below.refl _ w).alloc (Nat.le_refl _) _⟩
  · have d3 : decide (t.k = 3) = false := by simpa using h3
    by_cases h1 : t.k = 1
    · have d1 : decide (t.k = 1) = true := by simpa using h1
      cases hw : isW t.s
      · have hq : q t = [] := by simp [q, h3, hw]
        rw [hq]
        go_enter Tryz.func117, Tryz.ntmps117
        go_wp2_with (go_at_call 147; refine (isWord_any _ t.s (str_list _) _).mono ?_; rw [hw]; rintro e w1 ⟨rfl, rfl⟩)
        go_ret
        exact ⟨rfl, (Below.refl _ w).alloc (Nat.le_refl _) _⟩
      · have hq : q t = t.s := by simp [q, h1, hw]
        rw [hq]
        go_enter Tryz.func117, Tryz.ntmps117
        go_wp2_with (go_at_call 147; refine (isWord_any _ t.s (str_list _) _).mono ?_; rw [hw]; rintro e w1 ⟨rfl, rfl⟩)
        go_ret
        exact ⟨rfl, (Below.refl _ w).alloc (Nat.le_refl _) _⟩
    · have d1 : decide (t.k = 1) = false := by simpa using h1
      have hq : q t = [] := by simp [q, h3, h1]
      rw [hq]
      go_enter Tryz.func117, Tryz.ntmps117
      go_wp2
      go_ret
      exact ⟨rfl, (Below.refl _ w).alloc (Nat.le_refl _) _⟩

set_option maxHeartbeats 1000000 in
theorem isName_any (t : Tok) (w : World) :
    Calls Tryz.prog 121 #[tokV t] w fun e w' => e = .returned (.bool (isNm t)) ∧ Below w.heap.size w w' := by
  rw [str_eta]
  by_cases h1 : t.k = 1
  · have d1 : decide (t.k = 1) = true := by simpa using h1
    have hq : isNm t = !isW t.s := by simp [isNm, h1]
    rw [hq]
    go_enter Tryz.func121, Tryz.ntmps121
    go_wp2_with (go_at_call 147; refine (isWord_any _ t.s (str_list _) _).mono ?_; rintro e w1 ⟨rfl, rfl⟩)
    go_ret
    exact ⟨rfl, (Below.refl _ w).alloc (Nat.le_refl _) _⟩
  · have d1 : decide (t.k = 1) = false := by simpa using h1
    have hq : isNm t = false := by simp [isNm, h1]
    rw [hq]
    go_enter Tryz.func121, Tryz.ntmps121
    go_wp2
    go_ret
    exact ⟨rfl, (Below.refl _ w).alloc (Nat.le_refl _) _⟩

set_option maxHeartbeats 1000000 in
theorem is_any {X : Rdr} {w : World} {s : St} {ns : List NV} {v : Value} (h : At X w s ns v) (zz : ByteArray) (l : List UInt8) (hz : zz.toList = l) :
    Calls Tryz.prog 82 #[rd X, .string zz] w fun e w' => e = .returned (.bool (isT X.e l s)) ∧ Below w.heap.size w w' := by
  go_enter Tryz.func82, Tryz.ntmps82
  go_wp2_with fail
  refine (peek_any h).mono ?_
  rintro e w1 ⟨rfl, b1⟩
  go_wp2_with fail
  refine (quoted_any _ w1).mono ?_
  rintro e w2 ⟨rfl, b2⟩
  go_wp2
  go_ret
  exact ⟨ret_bool (by rw [Bool.eq_iff_iff]; simp [isT]), b1.trans (b2.mono b1.size)⟩

theorem EnvY.same {w w' : World} (h : EnvY w) (hk : w'.heap[gY]? = w.heap[gY]?) (hs : w.heap.size ≤ w'.heap.size) : EnvY w' :=
  ⟨by rw [← h.ty]; simp only [World.var?, nY, Option.bind_some, hk], Nat.lt_of_lt_of_le h.szY hs⟩
theorem At.mbne {X : Rdr} {w : World} {s : St} {ns : List NV} {v : Value} (h : At X w s ns v) : X.mb ≠ X.b := fun e => by
  have h1 := h.mph
  have h2 := h.blk
  unfold Blk at h2
  rw [e, h2] at h1
  have h3 := h.mpc
  rw [← Option.some.inj h1] at h3
  simp [Obj.isCells] at h3
/-- Nothing but the reader's block has turned. -/
theorem At.turn {X : Rdr} {w w' : World} {s s' : St} {ns : List NV} {v : Value} (h : At X w s ns v) (hk : ∀ g, g < w.heap.size → g ≠ X.b → w'.heap[g]? = w.heap[g]?) (hsz : w.heap.size ≤ w'.heap.size)
    (hb : Blk w' X.b tR (rdCells X (X.T.length - s'.l.length) v)) (hs : s'.l <:+ X.T) (hc : s'.c = s.c) : At X w' s' ns v where
  blk := hb
  suf := hs
  len := h.len
  toks := h.toks.keep fun g o hg => by
    have h1 := h.hb
    have h2 := h.blk.lt
    exact World.cell?_of_block (a := ⟨g, o, none⟩) (hk g (by omega) (by omega))
  txt := h.txt
  fin := h.fin
  cnt := hc.trans h.cnt
  max := by rw [hc]; exact h.max
  rows := row_keep h.rows fun g hg => hk g (h.rows.lt g hg).2 fun e => h.blk.not_row (by decide) h.rows (by rw [hg, e])
  kids := fun x hx => row_keep (h.kids x hx) fun g hg => hk g ((h.kids x hx).lt g hg).2 fun e => h.blk.not_row (by decide) (h.kids x hx) (by rw [hg, e])
  hb := h.hb
  env := h.env.same (hk _ h.env.szY (by have := h.hb; have := h.szE; omega)) hsz
  szE := h.szE
  mph := (hk _ (Array.getElem?_eq_some_iff.1 h.mph).1 h.mbne).trans h.mph
  mpc := h.mpc
/-- A block that is none of the reader's has turned. -/
theorem At.far {X : Rdr} {w w' : World} {s : St} {ns : List NV} {v : Value} {i : Nat} {cs : Array Value} {t : TypeId} {fr : Nat × Nat} (h : At X w s ns v) (hi : w.heap[i]? = some (.cells cs t fr)) (ht : t ≠ tR ∧ t ≠ tI) (hbase : X.base ≤ i)
    (hown : some i ≠ v.ownBlock) (hk : ∀ g, g < w.heap.size → g ≠ i → w'.heap[g]? = w.heap[g]?) (hsz : w.heap.size ≤ w'.heap.size) : At X w' s ns v where
  blk := (hk _ h.blk.lt (fun e => by
    have h1 := h.blk
    unfold Blk at h1
    rw [e, hi] at h1
    cases h1
    exact ht.1 rfl)).trans h.blk
  suf := h.suf
  len := h.len
  toks := h.toks.keep fun g o hg => by
    have h1 := h.hb
    have h2 := h.blk.lt
    exact World.cell?_of_block (a := ⟨g, o, none⟩) (hk g (by omega) (by omega))
  txt := h.txt
  fin := h.fin
  cnt := h.cnt
  max := h.max
  rows := row_keep h.rows fun g hg => hk g (h.rows.lt g hg).2 fun e => hown (by rw [hg, e])
  kids := fun x hx => row_keep (h.kids x hx) fun g hg => hk g ((h.kids x hx).lt g hg).2 fun e => by
    rcases (h.kids x hx).2 with ⟨hv, _⟩ | ⟨g', cap, cur, hv, _, hgb, _⟩
    · rw [hv] at hg; simp [Value.ownBlock] at hg
    · rw [hv] at hg
      simp [Value.ownBlock] at hg
      rw [hg, e, hi] at hgb
      cases hgb
      exact ht.2 rfl
  hb := h.hb
  env := h.env.same (hk _ h.env.szY (by have := h.hb; have := h.szE; omega)) hsz
  szE := h.szE
  mph := (hk _ (Array.getElem?_eq_some_iff.1 h.mph).1 (fun e => by
    have h1 := h.mph
    rw [e, hi] at h1
    have h3 := h.mpc
    rw [← Option.some.inj h1] at h3
    simp [Obj.isCells] at h3)).trans h.mph
  mpc := h.mpc
theorem At.set_ {X : Rdr} {w : World} {s : St} {ns : List NV} {v : Value} {i : Nat} {cs : Array Value} {t : TypeId} (h : At X w s ns v) (hi : Blk w i t cs) (ht : t ≠ tR ∧ t ≠ tI) (hbase : X.base ≤ i)
    (hown : some i ≠ v.ownBlock) (o : Nat) (u : Value) : At X (w.setCell ⟨i, o, none⟩ u) s ns v :=
  h.far hi ht hbase hown (fun g _ hg => Below.heap_setCell w _ _ g hg) (by simp)
theorem Kp.down {X : Rdr} {w w1 w2 : World} {v v1 : Value} (h : Kp X w v w1 v1) (hb : Below w.heap.size w1 w2) : Kp X w v w2 v1 :=
  ⟨hb.os.trans h.os, hb.tape.trans h.tape, hb.output.trans h.output, Nat.le_trans h.size hb.size, fun i hi h1 h2 => (hb.block i hi).trans (h.block i hi h1 h2), h.own⟩
theorem At.own_lt {X : Rdr} {w : World} {s : St} {ns : List NV} {v : Value} (h : At X w s ns v) {i : Nat} (hi : w.heap.size ≤ i) : some i ≠ v.ownBlock := fun e => by
  have := (h.rows.lt i e.symm).2
  omega
theorem nx_suf {s : St} {T : List Tok} (h : s.l <:+ T) : s.nx.l <:+ T := (List.tail_suffix s.l).trans h
theorem At.nx {X : Rdr} {w : World} {s : St} {ns : List NV} {v : Value} (h : At X w s ns v) (hne : s.l ≠ []) : At X (w.setCell ⟨X.b, 5, none⟩ (.int .i64 ((X.T.length - s.l.length : Nat) + 1 : Int))) s.nx ns v := by
  obtain ⟨hp1, hp2⟩ := h.pos
  have hlen : s.nx.l.length + 1 = s.l.length := by
    cases hs : s.l with
    | nil => exact absurd hs hne
    | cons t r => simp [St.nx, hs]
  refine h.turn (fun g _ hg => Below.heap_setCell w _ _ g hg) (by simp) ?_ (nx_suf h.suf) rfl
  have h1 := h.blk.set_ 5 (.int .i64 ((X.T.length - s.l.length : Nat) + 1 : Int))
  have e : (rdCells X (X.T.length - s.l.length) v).setIfInBounds 5 (.int .i64 ((X.T.length - s.l.length : Nat) + 1 : Int)) = rdCells X (X.T.length - s.nx.l.length) v := by
    have : ((X.T.length - s.l.length : Nat) + 1 : Int) = ((X.T.length - s.nx.l.length : Nat) : Int) := by omega
    rw [this]
    rfl
  rw [e] at h1
  exact h1
theorem kp_set {X : Rdr} {w : World} {v : Value} (i : Nat) (u : Value) : Kp X w v (w.setCell ⟨X.b, i, none⟩ u) v :=
  ⟨rfl, rfl, rfl, by simp, fun g _ hg _ => Below.heap_setCell w _ _ g hg, .inl rfl⟩

set_option maxHeartbeats 2000000 in
set_option maxRecDepth 100000 in
theorem next_any {X : Rdr} {w : World} {s : St} {ns : List NV} {v : Value} (h : At X w s ns v) (hne : s.l ≠ []) :
    Calls Tryz.prog 120 #[rd X] w fun e w' => e = .returned (tokV (pk X.e s)) ∧ At X w' s.nx ns v ∧ Kp X w v w' v := by
  have hlen := h.len
  have hw0 : Below w.heap.size w (w.alloc (.cells #[.int .i64 0, .int .i64 0, .int .i64 0, .string ⟨#[]⟩] tE)) := (Below.refl _ w).alloc (Nat.le_refl _) _
  have h0 := h.below hw0
  have hbl0 := h.blk.lt
  have hown : ∀ i, w.heap.size ≤ i → some i ≠ v.ownBlock := fun i hi => h.own_lt hi
  have htx : (str (pk X.e s).s).size ≤ 281474976710656 := by
    rw [str_size]
    have : pk X.e s ∈ X.T := h.suf.subset (by
      cases hs : s.l with
      | nil => exact absurd hs hne
      | cons t r => simp [pk, hs])
    have := h.txt _ this
    omega
  go_enter Tryz.func120, Tryz.ntmps120
  go_wp2_with fail
  refine (peek_any h0).mono ?_
  rintro e w1 ⟨rfl, b1⟩
  have h1 := h0.below b1
  have hbl := h1.blk.lt
  have c5 := h1.blk.cell 5
  have f5 := h1.blk.frozen 5
  simp only [rdCells, List.getElem?_toArray, List.getElem?_cons_zero, List.getElem?_cons_succ] at c5
  have h2 := h1.nx hne
  have k2 : Kp X w v (w1.setCell ⟨X.b, 5, none⟩ (.int .i64 ((X.T.length - s.l.length : Nat) + 1 : Int))) v := (Kp.of (hw0.trans (b1.mono (by simp)))).trans (kp_set 5 _)
  have hz : w1.heap[w.heap.size]? = some (.cells #[.int .i64 0, .int .i64 0, .int .i64 0, .string ⟨#[]⟩] tE) := (b1.block _ (by simp)).trans (heap_alloc_new w _)
  have hws : w.heap.size < w1.heap.size := by have := b1.size; simp at this; omega
  generalize hpos : X.T.length - s.l.length = pos at *
  have hpos2 : pos ≤ 2000000 := by omega
  rw [str_eta]
  generalize htt : pk X.e s = t at *
  unfold rd
  have H1 := Lib.hid (And.intro h1 (And.intro h2 (And.intro k2 hz)))
  clear h1 h2 k2 hz h h0 b1 hw0
  go_wp2_with fail
  have hz2 : ((w1.setCell ⟨X.b, 5, none⟩ (.int .i64 ((pos : Nat) + 1 : Int))).alloc (.cells #[.int .i64 t.k, .int .i64 t.p, .int .i64 t.n, .string (str t.s)] tE)).heap[w.heap.size]? = some (.cells #[.int .i64 0, .int .i64 0, .int .i64 0, .string ⟨#[]⟩] tE) :=
    (heap_alloc_old _ _ _ (by simpa using hws)).trans ((Below.heap_setCell w1 ⟨X.b, 5, none⟩ _ w.heap.size (by simp; omega)).trans H1.out.2.2.2)
  have hn2 := heap_alloc_new (w1.setCell ⟨X.b, 5, none⟩ (.int .i64 ((pos : Nat) + 1 : Int))) (.cells #[.int .i64 t.k, .int .i64 t.p, .int .i64 t.n, .string (str t.s)] tE)
  have hwz : w1.heap.size = (w1.setCell ⟨X.b, 5, none⟩ (.int .i64 ((pos : Nat) + 1 : Int))).heap.size := by simp
  have h3 := H1.out.2.1.below ((Below.refl _ _).alloc (Nat.le_refl _) (.cells #[.int .i64 t.k, .int .i64 t.p, .int .i64 t.n, .string (str t.s)] tE))
  have k3 := H1.out.2.2.1.trans (Kp.of ((Below.refl _ _).alloc (Nat.le_refl _) (.cells #[.int .i64 t.k, .int .i64 t.p, .int .i64 t.n, .string (str t.s)] tE)))
  rw [← hwz] at hn2
  have hsz : ((w1.setCell ⟨X.b, 5, none⟩ (.int .i64 ((pos : Nat) + 1 : Int))).alloc (.cells #[.int .i64 t.k, .int .i64 t.p, .int .i64 t.n, .string (str t.s)] tE)).heap.size = w1.heap.size + 1 := by simp
  generalize (w1.setCell ⟨X.b, 5, none⟩ (.int .i64 ((pos : Nat) + 1 : Int))).alloc (.cells #[.int .i64 t.k, .int .i64 t.p, .int .i64 t.n, .string (str t.s)] tE) = W at *
  refine (clone_any (str t.s) W htx).mono ?_
  rintro e w2 ⟨rfl, b2⟩
  dsimp only
  have hz4 := (b2.block w.heap.size (by omega)).trans hz2
  have hn4 := (b2.block w1.heap.size (by omega)).trans hn2
  have h4 := h3.below b2
  have k4 := k3.trans (Kp.of b2)
  have y3 := (Blk.cell (W := w2) hn4 3)
  have y0 := (Blk.cell (W := w2) hn4 0)
  have y1 := (Blk.cell (W := w2) hn4 1)
  have y2 := (Blk.cell (W := w2) hn4 2)
  have z3 := (Blk.frozen (W := w2) hn4 3)
  simp only [List.getElem?_toArray, List.getElem?_cons_zero, List.getElem?_cons_succ] at y0 y1 y2 y3
  have hl2 : w1.heap.size < w2.heap.size := by have := b2.size; omega
  have hp0 := (Blk.cell (W := w2) hz4 0)
  have hp1 := (Blk.cell (W := w2) hz4 1)
  have hp2 := (Blk.cell (W := w2) hz4 2)
  have hp3 := (Blk.cell (W := w2) hz4 3)
  have hf0 := (Blk.frozen (W := w2) hz4 0)
  have hf1 := (Blk.frozen (W := w2) hz4 1)
  have hf2 := (Blk.frozen (W := w2) hz4 2)
  have hf3 := (Blk.frozen (W := w2) hz4 3)
  simp only [List.getElem?_toArray, List.getElem?_cons_zero, List.getElem?_cons_succ] at hp0 hp1 hp2 hp3
  have HH := Lib.hid (And.intro h4 (And.intro k4 (And.intro hz4 hn4)))
  clear h4 k4 hz4 hn4 h3 k3 hz2 hn2 b2 hsz hwz c5 f5 H1
  go_wp2_with fail
  have hz5 : (w2.setCell ⟨w1.heap.size, 3, none⟩ (.string (str t.s))).heap[w.heap.size]? = some (.cells #[.int .i64 0, .int .i64 0, .int .i64 0, .string ⟨#[]⟩] tE) :=
    (Below.heap_setCell w2 _ _ w.heap.size (by simp; omega)).trans HH.out.2.2.1
  have hb5 : X.base ≤ w.heap.size := by have := HH.out.1.hb; omega
  have h5 := HH.out.1.set_ HH.out.2.2.2 (by decide) (by omega) (hown _ (by omega)) 3 (.string (str t.s))
  refine ret_tok4 (t := t) rfl rfl rfl hz5 rfl ⟨by rw [htt], ?_, HH.out.2.1.down (below_set4 ((Below.refl _ _).setCell (p := ⟨w1.heap.size, 3, none⟩) (by simp; omega) _) (Nat.le_refl _))⟩
  exact (((h5.set_ hz5 (by decide) hb5 (hown _ (Nat.le_refl _)) 0 _).set_ (Blk.set_ hz5 0 _) (by decide) hb5 (hown _ (Nat.le_refl _)) 1 _).set_ (Blk.set_ (Blk.set_ hz5 0 _) 1 _) (by decide) hb5 (hown _ (Nat.le_refl _)) 2 _).set_ (Blk.set_ (Blk.set_ (Blk.set_ hz5 0 _) 1 _) 2 _) (by decide) hb5 (hown _ (Nat.le_refl _)) 3 _

/-! answers that make no nodes -/
def faultV (no p : Int) : Value := .agg #[.int .i64 no, .int .i64 p]
def Pan (no p : Int) : Ending := .panicked [{ v := .iface tF (faultV no p), recovered := false }]
def R0 {α : Type} (X : Rdr) (w : World) (ns : List NV) (v : Value) (enc : α → Value) (R : Rs α) (e : Ending) (w' : World) : Prop :=
  match R with
  | .ok a s => e = .returned (enc a) ∧ At X w' s ns v ∧ Kp X w v w' v
  | .er no p => e = Pan no p ∧ Below X.base w w'
  | .out => False

theorem At.baselt {X : Rdr} {w : World} {s : St} {ns : List NV} {v : Value} (h : At X w s ns v) : X.base ≤ w.heap.size := by
  have h1 := h.hb
  have h2 := h.blk.lt
  omega
theorem At.down {X : Rdr} {w w' : World} {s : St} {ns : List NV} {v : Value} (h : At X w s ns v) (hb : Below w.heap.size w w') : Below X.base w w' := hb.mono h.baselt
theorem bb {w w1 w2 : World} (h : Below w.heap.size w w1) (k : Below w1.heap.size w1 w2) : Below w.heap.size w w2 := h.trans (k.mono h.size)

theorem flInfo : (Tryz.prog.info? tF).map (·.size) = some 2 := by kernel_rfl
theorem fld_p (t : Tok) (w : World) : (Instr.field tE (.agg #[.int .i64 t.k, .int .i64 t.p, .int .i64 t.n, .string (str t.s)]) 1).run Tryz.prog w = .ok (.int .i64 t.p) w := by
  kernel_rfl
theorem ret_fault {fn : Func} {R : Ending → World → Prop} {a : Act} {w : World} {b : Nat} {p : Nat} {x y : Int} {T : TypeId} {fr : Nat × Nat} (hf : fn.results = #[.cell p tF]) (hd : a.defers = [])
    (h2 : a.tmps.getD p undef = .pointer (some ⟨b, 0, none⟩)) (hb : w.heap[b]? = some (.cells #[.int .i64 x, .int .i64 y] T fr))
    (hR : R (.returned (faultV x y)) w) : bodyPost Tryz.prog fn R .ret a w :=
  bodyPost_ret (v := faultV x y) (results_cell_row hf _ _ b T _ fr _ h2 hb Tryz.underlying93 rfl flInfo) hd hR

set_option maxHeartbeats 1000000 in
set_option maxRecDepth 100000 in
theorem wrong_any {X : Rdr} {w : World} {s : St} {ns : List NV} {v : Value} (h : At X w s ns v) (no : Int) :
    Calls Tryz.prog 119 #[rd X, .int .i64 no] w fun e w' => e = .returned (faultV no (pk X.e s).p) ∧ Below w.heap.size w w' := by
  have hw0 : Below w.heap.size w (w.alloc (.cells #[.int .i64 0, .int .i64 0] tF)) := (Below.refl _ w).alloc (Nat.le_refl _) _
  have h0 := h.below hw0
  have hz0 := heap_alloc_new w (.cells #[.int .i64 0, .int .i64 0] tF)
  go_enter Tryz.func119, Tryz.ntmps119
  go_wp2_with fail
  refine (peek_any h0).mono ?_
  rintro e w1 ⟨rfl, b1⟩
  have hfl := fun t W => fld_p t W
  have hz1 := (b1.block w.heap.size (by simp)).trans hz0
  have c0 := (Blk.cell (W := w1) hz1 0)
  have c1 := (Blk.cell (W := w1) hz1 1)
  have f0 := (Blk.frozen (W := w1) hz1 0)
  have f1 := (Blk.frozen (W := w1) hz1 1)
  simp only [List.getElem?_toArray, List.getElem?_cons_zero, List.getElem?_cons_succ] at c0 c1
  have HH := Lib.hid (And.intro b1 hz1)
  have hl : w.heap.size < w1.heap.size := by have := b1.size; simp at this; omega
  clear b1 hz1 hz0 h0 h hw0
  rw [str_eta]
  generalize htt : pk X.e s = t
  go_wp2_with fail
  have hz2 : ((w1.setCell ⟨w.heap.size, 0, none⟩ (.int .i64 no)).setCell ⟨w.heap.size, 1, none⟩ (.int .i64 t.p)).heap[w.heap.size]? = some (.cells #[.int .i64 no, .int .i64 t.p] tF (0, 0)) :=
    Blk.set_ (Blk.set_ HH.out.2 0 (.int .i64 no)) 1 (.int .i64 t.p)
  refine ret_fault (x := no) (y := t.p) rfl rfl rfl hz2 ⟨by rw [htt], ?_⟩
  have := ((Below.refl _ w).alloc (Nat.le_refl _) (.cells #[.int .i64 0, .int .i64 0] tF)).trans (HH.out.1.mono (by simp))
  exact (this.setCell (p := ⟨w.heap.size, 0, none⟩) (Nat.le_refl _) _).setCell (p := ⟨w.heap.size, 1, none⟩) (Nat.le_refl _) _

/-- Behind a word or sign, if it stood here. -/
def acc (e : Tok) (l : List UInt8) (s : St) : St := if isT e l s then s.nx else s
set_option maxHeartbeats 1000000 in
theorem accept_any {X : Rdr} {w : World} {s : St} {ns : List NV} {v : Value} (h : At X w s ns v) (zz : ByteArray) (l : List UInt8) (hz : zz.toList = l) (hl : l ≠ []) :
    Calls Tryz.prog 142 #[rd X, .string zz] w fun e w' => e = .returned (.bool (isT X.e l s)) ∧ At X w' (acc X.e l s) ns v ∧ Kp X w v w' v := by
  go_enter Tryz.func142, Tryz.ntmps142
  go_wp2_with fail
  refine (is_any h zz l hz).mono ?_
  rintro e w1 ⟨rfl, b1⟩
  have h1 := h.below b1
  have k1 := Kp.of (X := X) (v := v) b1
  clear h b1
  cases hq : isT X.e l s
  · have ha : acc X.e l s = s := by simp [acc, hq]
    rw [← ha] at h1
    have HH := Lib.hid (And.intro h1 k1)
    clear h1 k1
    go_wp2_with fail
    go_ret
    exact ⟨ret_bool hq.symm, HH.out⟩
  · have hne : s.l ≠ [] := fun e => by
      have hq2 := hq
      simp only [isT, pk, e, List.headD_nil, q_end h1.fin, decide_eq_true_eq] at hq2
      exact hl hq2.symm
    go_wp2_with fail
    refine (next_any h1 hne).mono ?_
    rintro e w2 ⟨rfl, h2, k2⟩
    have ha : acc X.e l s = s.nx := by simp [acc, hq]
    rw [← ha] at h2
    have HH := Lib.hid (And.intro h2 (k1.trans k2))
    clear h1 k1 h2 k2
    go_wp2_with fail
    go_ret
    exact ⟨ret_bool hq.symm, HH.out⟩

theorem panic_end {fn : Func} {R : Ending → World → Prop} {a : Act} {w : World} {ch : List PanicEntry} (hd : a.defers = []) (hR : R (.panicked ch) w) : bodyPost Tryz.prog fn R (.panic ch) a w := ⟨hd, hR⟩
set_option maxHeartbeats 1000000 in
theorem enter_any {X : Rdr} {w : World} {s : St} {ns : List NV} {v : Value} (h : At X w s ns v) (d : Nat) (hd : d ≤ 1000) :
    Calls Tryz.prog 161 #[rd X, .int .i64 d] w (R0 X w ns v (fun _ => .tuple #[]) (enterM X.e d s)) := by
  by_cases h40 : 40 < d
  · have e : enterM X.e d s = .er 3 (pk X.e s).p := by simp [enterM, h40, wr]
    rw [e]
    go_enter Tryz.func161, Tryz.ntmps161
    go_wp2_with fail
    refine (wrong_any h 3).mono ?_
    rintro e w1 ⟨rfl, b1⟩
    have HH := Lib.hid (h.down b1)
    go_wp2_with fail
    exact panic_end rfl ⟨rfl, HH.out⟩
  · have e : enterM X.e d s = .ok () s := by simp [enterM, h40]
    rw [e]
    go_enter Tryz.func161, Tryz.ntmps161
    go_wp2_with fail
    go_end0
    exact ⟨rfl, h, Kp.refl _ _ _⟩

theorem wrong_eq {α : Type} (e : Tok) (no : Int) (s : St) : (wr e no s : Rs α) = .er no (pk e s).p := rfl
/-! the words and signs that must stand here, one behind the other -/
def mustL (e : Tok) : List (List UInt8) → St → Rs Unit
  | [], s => .ok () s
  | x :: l, s => (must e x s).bind fun _ s => mustL e l s

set_option maxHeartbeats 2000000 in
set_option maxRecDepth 100000 in
theorem expect_any {X : Rdr} {w : World} {s : St} {ns : List NV} {v : Value} (h : At X w s ns v) (L : List (List UInt8)) (n c : Nat) (hn : L.length = n) (hn2 : n ≤ 1000) (hL : ∀ x ∈ L, x ≠ []) (g : Nat) (cs : Array Value)
    (hg : Blk w g 9 cs) (hgv : some g ≠ v.ownBlock) (hcs : ∀ (j : Nat) (x : List UInt8), L[j]? = some x → cs[j]? = some (Value.string (str x))) :
    Calls Tryz.prog 122 #[rd X, .slice (some ⟨g, 0, none⟩) n c] w (R0 X w ns v (fun _ => .tuple #[]) (mustL X.e L s)) := by
  have hgb : g ≠ X.b := fun e => by
    have h1 := h.blk
    unfold Blk at h1 hg
    rw [← e, hg] at h1
    cases h1
  go_enter Tryz.func122, Tryz.ntmps122
  go_wp2_with fail
  go_loopw [8] (fun x wr => ∃ (k : Nat) (s' : St), k ≤ n ∧ x = .int .i64 k ∧ At X wr s' ns v ∧ Kp X w v wr v ∧ mustL X.e (L.drop k) s' = mustL X.e L s) (fun x _ => n - (intOf x).toNat)
  case atStart => exact ⟨0, s, by omega, rfl, h, Kp.refl _ _ _, rfl⟩
  case round =>
    obtain ⟨k, s', hk, rfl, hA, hK, hM⟩ := hrel
    have hgw : wr.heap[g]? = w.heap[g]? := hK.block g hg.lt hgb hgv
    by_cases hlt : k < n
    · have hLk : L[k]? = some (L[k]'(by omega)) := List.getElem?_eq_getElem _
      have hcell := (Blk.cell (W := wr) (hgw.trans hg) k).trans (hcs k _ hLk)
      have hgl : g < wr.heap.size := Nat.lt_of_lt_of_le hg.lt hK.size
      rw [List.drop_eq_getElem_cons (by omega)] at hM
      have hx := hL _ (List.getElem_mem (by omega : k < L.length))
      generalize L[k]'(by omega) = x at *
      have HH := Lib.hid (And.intro hK hM)
      clear hK hM hgw hLk hcs hL hg
      cases hq : isT X.e x s'
      · have e : mustL X.e L s = .er 2 (pk X.e s').p := by rw [← HH.out.2]; simp [mustL, must, hq, wrong_eq, Rs.bind]
        have HE := Lib.hid e
        clear e
        go_wp2_with fail
        refine (accept_any hA (str x) x (str_list x) hx).mono ?_
        rw [hq]
        have ha : acc X.e x s' = s' := by simp [acc, hq]
        rw [ha]
        rintro e w1 ⟨rfl, h1, k1⟩
        have HK1 := Lib.hid (And.intro h1 k1)
        clear k1
        go_wp2_with fail
        refine (wrong_any h1 2).mono ?_
        rintro e w2 ⟨rfl, b2⟩
        have HB := Lib.hid (((HH.out.1.trans HK1.out.2).below h).trans (h1.down b2))
        go_wp2_with fail
        refine panic_end rfl ?_
        rw [HE.out]
        exact ⟨rfl, HB.out⟩
      · have e : mustL X.e (L.drop (k + 1)) s'.nx = mustL X.e L s := by rw [← HH.out.2]; simp [mustL, must, hq, Rs.bind]
        have HE := Lib.hid e
        clear e
        go_wp2_with fail
        refine (accept_any hA (str x) x (str_list x) hx).mono ?_
        rw [hq]
        have ha : acc X.e x s' = s'.nx := by simp [acc, hq]
        rw [ha]
        rintro e w1 ⟨rfl, h1, k1⟩
        have HK1 := Lib.hid (And.intro h1 (HH.out.1.trans k1))
        clear k1 h1 hA h
        go_wp2_with fail
        go_roundw
        case rel => exact ⟨k + 1, s'.nx, by omega, by go_num, HK1.out.1, HK1.out.2, HE.out⟩
        case measure => simp [intOf]; omega
    · obtain rfl : k = n := by omega
      have e : mustL X.e L s = .ok () s' := by rw [← hM, List.drop_of_length_le (by omega)]; rfl
      have HE := Lib.hid e
      have HH := Lib.hid (And.intro hA hK)
      clear e hM hA hK h
      go_wp2_with fail
      go_end0
      rw [HE.out]
      exact ⟨rfl, HH.out⟩

set_option maxHeartbeats 2000000 in
set_option maxRecDepth 100000 in
theorem name_any {X : Rdr} {w : World} {s : St} {ns : List NV} {v : Value} (h : At X w s ns v) :
    Calls Tryz.prog 81 #[rd X] w (R0 X w ns v tokV (nameM X.e s)) := by
  have hw0 : Below w.heap.size w (w.alloc (.cells #[.int .i64 0, .int .i64 0, .int .i64 0, .string ⟨#[]⟩] tE)) := (Below.refl _ w).alloc (Nat.le_refl _) _
  have h0 := h.below hw0
  have hz0 := heap_alloc_new w (.cells #[.int .i64 0, .int .i64 0, .int .i64 0, .string ⟨#[]⟩] tE)
  go_enter Tryz.func81, Tryz.ntmps81
  go_wp2_with fail
  refine (peek_any h0).mono ?_
  rintro e w1 ⟨rfl, b1⟩
  go_wp2_with fail
  refine (isName_any (pk X.e s) w1).mono ?_
  rintro e w2 ⟨rfl, b2⟩
  have b02 : Below w.heap.size w w2 := hw0.trans (((b1.trans (b2.mono b1.size)).mono (by simp)))
  have h2 := h.below b02
  have hz2 : w2.heap[w.heap.size]? = some (.cells #[.int .i64 0, .int .i64 0, .int .i64 0, .string ⟨#[]⟩] tE) := ((b1.trans (b2.mono b1.size)).block _ (by simp)).trans hz0
  cases hq : isNm (pk X.e s)
  · have e : nameM X.e s = .er 2 (pk X.e s).p := by simp [nameM, hq, wr]
    have HE := Lib.hid e
    clear e h0 hz0 b1 b2 hw0
    go_wp2_with fail
    refine (wrong_any h2 2).mono ?_
    rintro e w3 ⟨rfl, b3⟩
    have HB := Lib.hid ((h.down b02).trans (h2.down b3))
    go_wp2_with fail
    refine panic_end rfl ?_
    rw [HE.out]
    exact ⟨rfl, HB.out⟩
  · have e : nameM X.e s = .ok (pk X.e s) s.nx := by simp [nameM, hq]
    have HE := Lib.hid e
    have hne : s.l ≠ [] := fun e => by
      have hq2 := hq
      simp only [pk, e, List.headD_nil, nm_end h2.fin] at hq2
      cases hq2
    have hbl := h.blk.lt
    have hown : some w.heap.size ≠ v.ownBlock := h.own_lt (Nat.le_refl _)
    have hbase := h.baselt
    clear e h0 hz0 b1 b2 hw0
    go_wp2_with fail
    refine (next_any h2 hne).mono ?_
    rintro e w3 ⟨rfl, h3, k3⟩
    have hws2 : w.heap.size < w2.heap.size := (Array.getElem?_eq_some_iff.1 hz2).1
    have hz3 := (k3.block w.heap.size hws2 (by omega) hown).trans hz2
    have c0 := (Blk.cell (W := w3) hz3 0)
    have c1 := (Blk.cell (W := w3) hz3 1)
    have c2 := (Blk.cell (W := w3) hz3 2)
    have c3 := (Blk.cell (W := w3) hz3 3)
    have f0 := (Blk.frozen (W := w3) hz3 0)
    have f1 := (Blk.frozen (W := w3) hz3 1)
    have f2 := (Blk.frozen (W := w3) hz3 2)
    have f3 := (Blk.frozen (W := w3) hz3 3)
    simp only [List.getElem?_toArray, List.getElem?_cons_zero, List.getElem?_cons_succ] at c0 c1 c2 c3
    have hl3 : w.heap.size < w3.heap.size := (Array.getElem?_eq_some_iff.1 hz3).1
    have HH := Lib.hid (And.intro h3 (And.intro ((Kp.of b02).trans k3) hz3))
    clear h h2 h3 k3 hz3 hz2 b02
    rw [str_eta]
    generalize htt : pk X.e s = t
    go_wp2_with fail
    have hz3 := HH.out.2.2
    refine ret_tok4 (t := t) rfl rfl rfl hz3 rfl ?_
    rw [HE.out, htt]
    refine ⟨rfl, ?_, HH.out.2.1.down (below_set4 (Below.refl _ _) (Nat.le_refl _))⟩
    exact (((HH.out.1.set_ hz3 (by decide) hbase hown 0 _).set_ (Blk.set_ hz3 0 _) (by decide) hbase hown 1 _).set_ (Blk.set_ (Blk.set_ hz3 0 _) 1 _) (by decide) hbase hown 2 _).set_ (Blk.set_ (Blk.set_ (Blk.set_ hz3 0 _) 1 _) 2 _) (by decide) hbase hown 3 _
end Go.Proofs.YtfaoiajhoifalaaGreatDoor
