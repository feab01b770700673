/-
  Walks of layer lex: Lex.
-/
import Derived.Test.YtfaoiajhoifalaaGreatDoorLexg
import Derived.Deep.AppendLies
namespace Go.Proofs.YtfaoiajhoifalaaGreatDoor
open Go.RowKit Go.Shelf
set_option linter.unusedVariables false
set_option linter.unusedSimpArgs false

attribute [local go_sem] Oper.semAt_some

abbrev tL : TypeId := 51
abbrev tD : TypeId := 33

def cells1 (t : Tok) : List Value := [.int .i64 t.k, .int .i64 t.p, .int .i64 t.n, .string (str t.s)]
def cellsT (l : List Tok) : List Value := l.flatMap cells1
theorem cellsT_snoc (l : List Tok) (t : Tok) : cellsT (l ++ [t]) = cellsT l ++ cells1 t := by simp [cellsT]
theorem cellsT_length (l : List Tok) : (cellsT l).length = l.length * 4 := by
  induction l with
  | nil => rfl
  | cons t l ih => simp [cellsT] at *; rw [ih]; simp [cells1]; omega

theorem blk_own {β : Type} (b : Nat) (t : TypeId) (f : β → Array Value) : Own (fun s W => Blk W b t (f s)) := fun s X Y row hs hg hrow =>
  Blk.kept hs hg (fun e' => by obtain ⟨o, ho, hc⟩ := hrow b e'.symm; rw [show X.heap[b]? = _ from hs] at ho; cases ho; cases hc)
theorem tokens_in (n : Nat) (s : ByteArray) (w : World) :
    CallsIn Fence.wide n Tryz.prog 41 #[.string s] w fun e w' => e = .returned (.func (.func 73) #[] #[.pointer (some ⟨w.heap.size, 0, none⟩)]) ∧ w' = w.alloc (.cells #[.string s] tS) := by
  refine callsIn_of_wp Tryz.func41 rfl trivial ?_ rfl
  simp only [Tryz.ntmps41, List.size_toArray, List.length_cons, List.length_nil, Nat.reduceAdd, Nat.reduceSub, Array.replicate_succ, Array.replicate_zero, List.push_toArray, List.append_toArray, List.nil_append, List.cons_append]
  gi_wp2
  go_ret
  exact ⟨rfl, rfl⟩

theorem tokens_stops (n : Nat) (hn : 1 ≤ n) (Bn : Nat) (w0 : World) (hE : Env w0) (s : ByteArray) (hs : s.size ≤ 1048576) (w : World) (hB : Below w0.heap.size w0 w) (hBn : Boxed w Bn tS (.string s)) :
    SeqStopsK Fence.wide n Tryz.prog 73 #[.pointer (some ⟨Bn, 0, none⟩)] (fun x : Tok × Int => #[tokV x.1, .int .i64 x.2]) (KpT w0.heap.size Bn s) (fun ys => ys = seqL s.data.toList) (fun pre => pre <+: seqL s.data.toList) (seqL s.data.toList).length w := fun l J Jx W hW hJ _ hY h0 =>
  tokens1_in n hn l Bn w0 hE s hs J Jx W hJ hY (hB.trans (hW.mono hB.size)) ((hW.block Bn hBn.lt).trans hBn) h0

theorem KpT.t {n₀ Bn : Nat} {s : ByteArray} {A B C : World} (h : KpT n₀ Bn s A B) (k : KpT n₀ Bn s B C) : KpT n₀ Bn s A C := by
  obtain ⟨h1, h2⟩ := h
  obtain ⟨k1, k2⟩ := k
  exact ⟨h1.trans k1, fun x => k2 (h2 x)⟩
theorem KpT.b {n₀ Bn : Nat} {s : ByteArray} {w : World} (h1 : n₀ ≤ w.heap.size) (h2 : Bn < w.heap.size) (W : World) (l : Nat) (o o' : Obj) (hl : w.heap.size ≤ l) (h : W.heap[l]? = some o) (hc : o.isCells = false) (hw : o.isWalk = false) : KpT n₀ Bn s W (W.putObj l o') :=
  ⟨belowK_b (w := w) h1 W l o o' hl h hc hw, fun hb => hb.kept (grownBy_putObj' W l o') (fun e => by cases e; omega)⟩

/-- Between two rounds. -/
def LexI (w : World) (pre : List (Tok × Int)) (W : World) : Prop :=
  ((((∃ v, Boxed W (w.heap.size + 1 + 1) tL v ∧ W.ownsRow w.heap.size tE 4 v pre.length (cellsT (pre.map (·.1))) ∧ True) ∧ Boxed W w.heap.size tL (.slice none 0 0)) ∧ Blk W (w.heap.size + 1) tD #[.int .i64 0, .int .i64 0]) ∧ Below w.heap.size w W) ∧ (∀ x ∈ pre, x.2 = 0) ∧ w.heap.size + 1 + 1 + 1 < W.heap.size
/-- Behind a round that has left. -/
def LexX (w : World) (c : Code) (pre : List (Tok × Int)) (W : World) : Prop :=
  (∃ p : List (Tok × Int) × Tok × Int, (Boxed W w.heap.size tL (.slice none 0 0) ∧ Blk W (w.heap.size + 1) tD #[.int .i64 p.2.2, .int .i64 p.2.1.p]) ∧ Below w.heap.size w W ∧ (c = .ret ∧ pre = p.1 ++ [(p.2.1, p.2.2)] ∧ p.2.2 ≠ 0 ∧ ∀ x ∈ p.1, x.2 = 0))

theorem LexI.own {w : World} {B : Nat} (hB : w.heap.size ≤ B) : OwnFrom B (LexI w) :=
  OwnFrom.and (OwnFrom.and (OwnFrom.and (OwnFrom.and (Own.from (holdsRow_own w.heap.size (w.heap.size + 1 + 1) tL tE 4 (fun pre : List (Tok × Int) => pre.length) (fun pre : List (Tok × Int) => cellsT (pre.map (·.1))) (fun _ _ => True)) B) (Own.from (boxed_own w.heap.size tL (fun _ => .slice none 0 0)) B)) (Own.from (blk_own (w.heap.size + 1) tD (fun _ => #[.int .i64 0, .int .i64 0])) B)) (ownFrom_below (Nat.le_refl _) hB)) (OwnFrom.and (ownFrom_pure B (fun pre : List (Tok × Int) => ∀ x ∈ pre, x.2 = 0)) (fun _ _ _ _ hs hg _ => Nat.lt_of_lt_of_le hs hg.size))
theorem LexX.own {w : World} {B : Nat} (hB : w.heap.size ≤ B) (c : Code) : OwnFrom B (LexX w c) := by
  rintro pre W W' row ⟨p, ⟨h1, h2⟩, h3, h4⟩ hg hr
  exact ⟨p, ⟨boxed_own w.heap.size tL (fun _ : Unit => .slice none 0 0) () W W' row h1 hg (fun r e => (hr r e).2), blk_own (w.heap.size + 1) tD (fun _ : Unit => #[.int .i64 p.2.2, .int .i64 p.2.1.p]) () W W' row h2 hg (fun r e => (hr r e).2)⟩,
    ownFrom_below (β := Unit) (Nat.le_refl _) hB () W W' row h3 hg hr, h4⟩

/-- What Lex hands back. -/
def LexPost (w : World) (x : List Tok × Int × Int) (e : Ending) (w' : World) : Prop :=
  ∃ v, e = .returned (.tuple #[v, .agg #[.int .i64 x.2.1, .int .i64 x.2.2]]) ∧ w'.ownsRow w.heap.size tE 4 v x.1.length (cellsT x.1) ∧ Below w.heap.size w w'

theorem run_loadL {w : World} {b : Nat} {v : Value} (h : Boxed w b tL v) : (loadVar tL ⟨b, 0, none⟩).run Tryz.prog w = .ok v w := by
  have hc := h.cell
  unfold loadVar
  simp [go_sem, Tryz.isAgg51, hc]

theorem results_lex {fn : Func} {b c : Nat} {v x y : Value} (h : fn.results = #[.cell 2 tL, .cell 3 tD]) (tmps : Array Value) (w : World)
    (h2 : tmps.getD 2 undef = .pointer (some ⟨b, 0, none⟩)) (h3 : tmps.getD 3 undef = .pointer (some ⟨c, 0, none⟩)) (hb : Boxed w b tL v) (hc : Blk w c tD #[x, y]) :
    (results fn tmps).run Tryz.prog w = .ok (.tuple #[v, .agg #[x, y]]) w := by
  have hr : w.rangeAt c 0 [x, y] := by
    intro j u hu
    rw [Nat.zero_add, hc.cell]
    simpa using hu
  have hd := run_loadVar_mid (P := Tryz.prog) w c 0 tD [x, y] _ hr Tryz.underlying33 rfl (by kernel_rfl)
  have hl := run_loadL hb
  simp only [results, h]
  simp [Sem.run_bind, Result.andThen]
  rw [show tmps[2]?.getD undef = .pointer (some ⟨b, 0, none⟩) from by simpa using h2, show tmps[3]?.getD undef = .pointer (some ⟨c, 0, none⟩) from by simpa using h3]
  simp [asAddr, hl, hd]

theorem sq_len (n a : Nat) (l : List UInt8) : (sq n a l).length ≤ l.length + 1 := by
  induction n generalizing a l with
  | zero => simp [sq]
  | succ n ih =>
    simp only [sq]
    split
    · simp
    · rename_i hl
      split
      · simp
      · rename_i h0
        have h1 := sc_size (l := l) (by simpa using h0)
        have h2 := ih (a + (sc l).2.1 + sk false (l.drop (sc l).2.1)) (l.drop ((sc l).2.1 + sk false (l.drop (sc l).2.1)))
        rw [List.length_drop] at h2
        rw [List.length_cons]
        omega
theorem seqL_len (s : ByteArray) : (seqL s.data.toList).length ≤ s.size + 1 := by
  have h := sq_len (s.data.toList.length + 1 - skAt s.data.toList 0) (skAt s.data.toList 0) (s.data.toList.drop (skAt s.data.toList 0))
  rw [List.length_drop] at h
  unfold seqL seqAt
  rw [Lib.size_eq]
  omega

theorem infoT : (Tryz.prog.info? tE).map (fun i => (i.zero, i.size, i.bytes)) = some (some (.agg #[.int .i64 0, .int .i64 0, .int .i64 0, .string ⟨#[]⟩]), 4, 40) := by kernel_rfl

theorem res_prefix {xs pre : List (Tok × Int)} {p : List (Tok × Int)} {t : Tok} {no : Int} (h : pre <+: xs) (he : pre = p ++ [(t, no)]) (hp : ∀ x ∈ p, x.2 = 0) (hno : no ≠ 0) : res [] xs = ([], no, t.p) := by
  obtain ⟨q, rfl⟩ := h
  rw [he, List.append_assoc, res_ok _ _ _ hp, List.singleton_append, res, if_pos hno]
theorem res_all {xs : List (Tok × Int)} (hp : ∀ x ∈ xs, x.2 = 0) : res [] xs = (xs.map (·.1), 0, 0) := by
  have h := res_ok [] xs [] hp
  rw [List.append_nil] at h
  rw [h, res, List.nil_append]

theorem lexR {W : World} {b c : Nat} {v : Value} (h : Boxed W b tL v) (x y : Value) (hc : b ≠ c) : Boxed (((W.setCell ⟨b, 0, none⟩ v).setCell ⟨c, 0, none⟩ x).setCell ⟨c, 1, none⟩ y).drew b tL v :=
  Blk.far (Blk.far (h.set v) hc x) hc y
theorem lexD {W : World} {b c : Nat} {u v : Value} (h : Blk W c tD #[u, v]) (z x y : Value) (hc : b ≠ c) : Blk (((W.setCell ⟨b, 0, none⟩ z).setCell ⟨c, 0, none⟩ x).setCell ⟨c, 1, none⟩ y).drew c tD #[x, y] :=
  Blk.set_ (cs := #[x, v]) (Blk.set_ (cs := #[u, v]) (Blk.far h (p := ⟨b, 0, none⟩) (Ne.symm hc) z) 0 x) 1 y

theorem grownBy_set (W : World) (p : Addr) (v : Value) : W.grownBy (W.setCell p v) (some p.block) :=
  ⟨rfl, rfl, rfl, (KeepsWalks.setCell W _ v).size, fun k _ hk => Below.heap_setCell _ _ _ k (fun e => hk (by rw [e]))⟩

theorem lex_end {W : World} {w : World} {D b : Nat} {u v x y : Value} {k : Nat} {xs : List Value} {d0 d1 : Value} (hD : b + 1 < D) (hb0 : b = w.heap.size) (hbR : Boxed W b tL u) (hbD : Blk W (b + 1) tD #[d0, d1]) (hrow : W.ownsRow w.heap.size tE 4 v k xs) (hbl : Below w.heap.size w W)
    (hK : W.heap[D]? = some (.deferred (some []))) (z : Value) :
    (((W.setCell ⟨b, 0, none⟩ z).setCell ⟨b + 1, 0, none⟩ x).setCell ⟨b + 1, 1, none⟩ y).heap[D]? = some (.deferred (some [])) ∧
    Boxed ((((W.setCell ⟨b, 0, none⟩ z).setCell ⟨b + 1, 0, none⟩ x).setCell ⟨b + 1, 1, none⟩ y).putObj D (.deferred none)) b tL z ∧
    Blk ((((W.setCell ⟨b, 0, none⟩ z).setCell ⟨b + 1, 0, none⟩ x).setCell ⟨b + 1, 1, none⟩ y).putObj D (.deferred none)) (b + 1) tD #[x, y] ∧
    ((((W.setCell ⟨b, 0, none⟩ z).setCell ⟨b + 1, 0, none⟩ x).setCell ⟨b + 1, 1, none⟩ y).putObj D (.deferred none)).ownsRow w.heap.size tE 4 v k xs ∧
    Below w.heap.size w ((((W.setCell ⟨b, 0, none⟩ z).setCell ⟨b + 1, 0, none⟩ x).setCell ⟨b + 1, 1, none⟩ y).putObj D (.deferred none)) := by
  have hK2 := (((KeepsOthers.setCell W ⟨b, 0, none⟩ z).trans (KeepsOthers.setCell _ ⟨b + 1, 0, none⟩ x)).trans (KeepsOthers.setCell _ ⟨b + 1, 1, none⟩ y)).same D _ hK rfl
  have h1 : Boxed (((W.setCell ⟨b, 0, none⟩ z).setCell ⟨b + 1, 0, none⟩ x).setCell ⟨b + 1, 1, none⟩ y) b tL z := Blk.far (Blk.far (hbR.set z) (by simp) x) (by simp) y
  have h2 : Blk (((W.setCell ⟨b, 0, none⟩ z).setCell ⟨b + 1, 0, none⟩ x).setCell ⟨b + 1, 1, none⟩ y) (b + 1) tD #[x, y] := Blk.set_ (cs := #[x, d1]) (Blk.set_ (cs := #[d0, d1]) (hbD.far (p := ⟨b, 0, none⟩) (by simp) z) 0 x) 1 y
  have r1 := hrow.kept (grownBy_set W ⟨b, 0, none⟩ z) (.inr (hbR.not_row (by decide) hrow).symm)
  have r2 := r1.kept (grownBy_set _ ⟨b + 1, 0, none⟩ x) (.inr ((hbD.far (p := ⟨b, 0, none⟩) (by simp) z).not_row (by decide) r1).symm)
  have r3 := r2.kept (grownBy_set _ ⟨b + 1, 1, none⟩ y) (.inr ((Blk.set_ (hbD.far (p := ⟨b, 0, none⟩) (by simp) z) 0 x).not_row (by decide) r2).symm)
  have hb3 := ((hbl.setCell (p := ⟨b, 0, none⟩) (by simp [hb0]) z).setCell (p := ⟨b + 1, 0, none⟩) (by simp [hb0]) x).setCell (p := ⟨b + 1, 1, none⟩) (by simp [hb0]) y
  refine ⟨hK2, h1.kept (grownBy_putObj' _ D _) (fun e => by cases e; omega), h2.kept (grownBy_putObj' _ D _) (fun e => by cases e; omega), ownsRow_putObj r3 _ hK2 rfl, hb3.trans (belowK_b (w := w) (Nat.le_refl _) _ D _ _ (by omega) hK2 rfl rfl)⟩

theorem lex_end0 {W : World} {w : World} {D b : Nat} {u x y : Value} (hD : b + 1 < D) (hb0 : b = w.heap.size) (hbR : Boxed W b tL u) (hbD : Blk W (b + 1) tD #[x, y]) (hbl : Below w.heap.size w W)
    (hK : W.heap[D]? = some (.deferred (some []))) :
    Boxed (W.putObj D (.deferred none)) b tL u ∧ Blk (W.putObj D (.deferred none)) (b + 1) tD #[x, y] ∧ Below w.heap.size w (W.putObj D (.deferred none)) :=
  ⟨hbR.kept (grownBy_putObj' _ D _) (fun e => by cases e; omega), hbD.kept (grownBy_putObj' _ D _) (fun e => by cases e; omega), hbl.trans (belowK_b (w := w) (Nat.le_refl _) _ D _ _ (by omega) hK rfl rfl)⟩

set_option maxRecDepth 100000 in
set_option maxHeartbeats 4000000 in
theorem lex_in (s : ByteArray) (hs : s.size ≤ maxLen) (w : World) (hE : Env w) :
    CallsIn Fence.wide 9 Tryz.prog 17 #[.string s] w (LexPost w (lexL s.data.toList)) := by
  by_cases hbig : 1048576 < s.size
  · have hL : lexL s.data.toList = ([], 10, 0) := by rw [lexL, if_pos (by rw [← Lib.size_eq]; exact hbig)]
    refine callsIn_of_wp Tryz.func17 rfl trivial ?_ rfl
    simp only [Tryz.ntmps17, List.size_toArray, List.length_cons, List.length_nil, Nat.reduceAdd, Nat.reduceSub, Array.replicate_succ, Array.replicate_zero, List.push_toArray, List.append_toArray, List.nil_append, List.cons_append]
    gi_wp2
    rw [hL]
    have b1 := (Boxed.new w tL (.slice none 0 0)).alloc (.cells #[.int .i64 10, .int .i64 0] tD)
    have b2 := Blk.new (w.alloc (.cells #[.slice none 0 0] tL)) tD #[.int .i64 10, .int .i64 0]
    rw [World.size_alloc] at b2
    refine bodyPost_ret (results_lex rfl _ _ rfl rfl b1 b2) rfl ⟨_, rfl, World.ownsRow_nil _ _ _ _, ((Below.refl _ w).alloc (Nat.le_refl _) _).alloc (by simp) _⟩
  · have hs2 : s.size ≤ 1048576 := by omega
    have hdec : decide ((1048576 : Int) < (s.size : Int)) = false := by simp; omega
    have hq := seqL_len s
    obtain ⟨i0, hi, hz0, hz1, hz2⟩ := info_parts infoT
    have hL : lexL s.data.toList = res [] (seqL s.data.toList) := by rw [lexL, if_neg (by rw [← Lib.size_eq]; exact hbig)]
    rw [hL]
    clear hL
    refine callsIn_of_wp_marks Tryz.func17 rfl trivial ?_ rfl
    simp only [Tryz.ntmps17, List.size_toArray, List.length_cons, List.length_nil, Nat.reduceAdd, Nat.reduceSub, Array.replicate_succ, Array.replicate_zero, List.push_toArray, List.append_toArray, List.nil_append, List.cons_append]
    gi_wp2_with (refine ⟨trivial, ?_⟩; gi_at_call 41; refine (tokens_in _ s _).mono ?_; rintro e w1 ⟨rfl, rfl⟩)
    have bR := ((Boxed.new w tL (.slice none 0 0)).alloc (.cells #[.int .i64 0, .int .i64 0] tD)).alloc (.cells #[.slice none 0 0] tL) |>.alloc (.cells #[.string s] tS)
    have bD := ((Blk.new (w.alloc (.cells #[.slice none 0 0] tL)) tD #[.int .i64 0, .int .i64 0]).alloc (.cells #[.slice none 0 0] tL)).alloc (.cells #[.string s] tS)
    have bO := (Boxed.new ((w.alloc (.cells #[.slice none 0 0] tL)).alloc (.cells #[.int .i64 0, .int .i64 0] tD)) tL (.slice none 0 0)).alloc (.cells #[.string s] tS)
    have bN := Boxed.new (((w.alloc (.cells #[.slice none 0 0] tL)).alloc (.cells #[.int .i64 0, .int .i64 0] tD)).alloc (.cells #[.slice none 0 0] tL)) tS (.string s)
    simp only [World.size_alloc] at bR bD bO bN
    have hB0 : Below w.heap.size w ((((w.alloc (.cells #[.slice none 0 0] tL)).alloc (.cells #[.int .i64 0, .int .i64 0] tD)).alloc (.cells #[.slice none 0 0] tL)).alloc (.cells #[.string s] tS)) := ((((Below.refl _ w).alloc (Nat.le_refl _) _).alloc (by simp) _).alloc (by simp; omega) _).alloc (by simp; omega) _
    have hsz : ((((w.alloc (.cells #[.slice none 0 0] tL)).alloc (.cells #[.int .i64 0, .int .i64 0] tD)).alloc (.cells #[.slice none 0 0] tL)).alloc (.cells #[.string s] tS)).heap.size = w.heap.size + 4 := by simp
    obtain ⟨W0, hW0⟩ : ∃ W0, (((w.alloc (.cells #[.slice none 0 0] tL)).alloc (.cells #[.int .i64 0, .int .i64 0] tD)).alloc (.cells #[.slice none 0 0] tL)).alloc (.cells #[.string s] tS) = W0 := ⟨_, rfl⟩
    rw [hW0] at bR bD bO bN hB0 hsz ⊢
    clear hW0
    refine wpIn_rangeFunc_ownH rfl (by omega) (gf := 73) (lb := #[.pointer (some ⟨w.heap.size + 1 + 1 + 1, 0, none⟩)]) rfl trivial (enters_of Tryz.func73 (by kernel_rfl) rfl)
      (tokens_stops _ (by omega) (w.heap.size + 1 + 1 + 1) w hE s hs2 W0 hB0 bN) KpT.t (KpT.b (by omega) (by omega)) (Below.refl _ _) (fun _ => rfl)
      (LexI w) (LexX w) (LexI.own (by omega)) (LexX.own (by omega)) ⟨⟨⟨⟨⟨_, bO, World.ownsRow_nil _ _ _ _, trivial⟩, bR⟩, bD⟩, hB0⟩, by simp, by omega⟩
      (fun x a' W => ∃ Bx, w.heap.size + 1 + 1 + 1 < Bx ∧ Blk W Bx tE (cells1 x.1).toArray ∧ a' = { tmps := #[.string s, undef, .pointer (some ⟨w.heap.size, 0, none⟩), .pointer (some ⟨w.heap.size + 1, 0, none⟩), .pointer (some ⟨w.heap.size + 1 + 1, 0, none⟩), .pointer (some ⟨Bx, 0, none⟩), .int .i64 x.2, .string s, .int .i64 s.size, .bool false, undef, .string s, .func (.func 73) #[] #[.pointer (some ⟨w.heap.size + 1 + 1 + 1, 0, none⟩)], tokV x.1, .int .i64 x.2, undef, undef, undef, undef, undef, undef, undef, undef, undef, undef, undef, undef], defers := [] })
      (fun x a' _ X Y row hs hg hr => by obtain ⟨Bx, h1, h2, h3⟩ := hs; exact ⟨Bx, h1, blk_own Bx tE (fun (_ : Unit) => (cells1 x.1).toArray) () X Y row h2 hg (fun r e => (hr r e).2), h3⟩)
      ?assign ?body ?done ?stop
    case assign =>
      rintro l pre ⟨t, no⟩ W K hI hK
      have hbW := hI.1.2.size
      have hbO : w.heap.size + 1 + 1 + 1 < W.heap.size := hI.2.2
      have HI := Lib.hid hI
      clear hI
      simp only [tokV]
      gi_wp2
      refine hK _ _ ((KeepsOthers.alloc _ _).from _) ⟨(Below.refl _ W).alloc hbW _, fun hb => hb.alloc _⟩ (LexI.own (Nat.le_refl _) pre W _ none HI.out (World.grownBy_alloc W _ none) (fun r e => by cases e)) ⟨W.heap.size, hbO, (by have := Blk.new W tE (cells1 t).toArray; exact this), rfl⟩
    case body =>
      rintro l pre x a' W hl ⟨r, hr⟩ hI ⟨Bx, hBx, bX, rfl⟩ hlt
      obtain ⟨⟨⟨⟨⟨v, hv, hrow, _⟩, hbR⟩, hbD⟩, hbl⟩, hok, hsW⟩ := hI
      have hcv := hv.cell
      have hcR := hbR.cell
      have hfR := hbR.frozen
      have hcD0 := hbD.cell 0
      have hcD1 := hbD.cell 1
      have hfD0 := hbD.frozen 0
      have hfD1 := hbD.frozen 1
      have hX0 := bX.cell 0
      have hX1 := bX.cell 1
      have hX2 := bX.cell 2
      have hX3 := bX.cell 3
      simp only [cells1, List.getElem?_toArray, List.getElem?_cons_zero, List.getElem?_cons_succ] at hX0 hX1 hX2 hX3
      simp at hcD0 hcD1
      obtain ⟨t, no⟩ := x
      simp only at hX0 hX1 hX2 hX3
      by_cases hno : no = 0
      · subst hno
        have hb1 : pre.length + 1 ≤ maxLen := by unfold maxLen; omega
        have hb2 : (pre.length + 1) * 40 ≤ 140737488355328 := by omega
        have hnews : ∀ j u, (cells1 t)[j]? = some u → (W.alloc (.cells #[.int .i64 t.k, .int .i64 t.p, .int .i64 t.n, .string (str t.s)] tE)).cell? ((⟨W.heap.size, 0, none⟩ : Addr).add j) = some u :=
          World.news_of_block (cs := #[.int .i64 t.k, .int .i64 t.p, .int .i64 t.n, .string (str t.s)]) (heap_alloc_new W _)
        have h1c : ∀ u ∈ cells1 t, u.oneCell' = true := by simp [cells1, Value.oneCell']
        gi_wp2_with (gi_at_builtin; refine wpListIn_append_own _ rfl _ _ tL rfl w.heap.size tE i0 (.agg #[.int .i64 0, .int .i64 0, .int .i64 0, .string ⟨#[]⟩]) 4 40 Tryz.underlying51 hi hz0 hz1 hz2 rfl (by decide) _ _ _ rfl (hrow.alloc _) ⟨W.heap.size, 0, none⟩ 1 1 (cells1 t) rfl rfl hnews h1c hb1 hb2 (by have := hbl.size; simp; omega) ?_; intro v' w1 hown' hgrow _; obtain ⟨g', cap', rfl⟩ := ownsRow_succ hown'; obtain ⟨hv1, hv2, hr2, hk2, hbb⟩ := hv.appended (by decide) hrow hbl.size (by omega) hown' hgrow; have hc1 := hv1.cell; have hf1 := hv1.frozen)
        refine ⟨hk2.from _, ⟨hbb, fun hb => ((hb.alloc _).kept hgrow (hb.not_row (by decide) hrow)).other (by omega) _⟩, ⟨⟨⟨⟨_, hv2, ?_, trivial⟩, ((hbR.alloc _).kept hgrow (hbR.not_row (by decide) hrow)).other (by omega) _⟩, ((hbD.alloc _).kept hgrow (hbD.not_row (by decide) hrow)).far (by simp) _⟩, hbl.trans hbb⟩, ?_, Nat.lt_of_lt_of_le hsW hbb.size⟩
        · rw [List.map_append, List.map_cons, List.map_nil, cellsT_snoc, List.length_append]
          exact hr2
        · intro y hy
          rcases List.mem_append.1 hy with h | h
          · exact hok y h
          · simp at h; subst h; rfl
      · have hno' : (no != 0) = true := by simpa using hno
        gi_wp2
        have hmx : Tryz.prog.follows .mixedOrders = true := by kernel_rfl
        gi_region_with_o (fail)
        all_goals gi_wp2
        all_goals (try go_bits)
        all_goals exact ⟨((((KeepsOthers.setCell _ _ _).trans (KeepsOthers.setCell _ _ _)).trans (KeepsOthers.setCell _ _ _)).trans (KeepsOthers.drew _)).from _, ⟨(pre, t, no), ⟨lexR hbR _ _ (by omega), lexD hbD _ _ _ (by omega)⟩, (((hbl.setCell (p := ⟨w.heap.size, 0, none⟩) (Nat.le_refl _) _).setCell (p := ⟨w.heap.size + 1, 0, none⟩) (by simp) _).setCell (p := ⟨w.heap.size + 1, 1, none⟩) (by simp) _).drew, rfl, rfl, hno, hok⟩⟩
    case done =>
      rintro D ys W hD rfl ⟨⟨⟨⟨⟨v, hv, hrow, _⟩, hbR⟩, hbD⟩, hbl⟩, hok, hsW⟩ hK
      have hcv := hv.cell
      have hcR := hbR.cell
      have hfR := hbR.frozen
      have hcD0 := hbD.cell 0
      have hcD1 := hbD.cell 1
      have hfD0 := hbD.frozen 0
      have hfD1 := hbD.frozen 1
      simp at hcD0 hcD1
      have hres := res_all hok
      have HR := Lib.hid hres
      clear hres
      obtain ⟨A, c, rfl⟩ : ∃ A c, v = .slice A (seqL s.data.toList).length c := by
        rcases hrow.2 with ⟨rfl, h0⟩ | ⟨g, cap, cur, rfl, _⟩
        · exact ⟨none, 0, by rw [h0]⟩
        · exact ⟨_, _, rfl⟩
      have HEND := Lib.hid (lex_end (x := .int .i64 0) (y := .int .i64 0) (by omega : w.heap.size + 1 < D) rfl hbR hbD hrow hbl hK (.slice A (seqL s.data.toList).length c))
      clear hK hrow hbl hbR hbD
      gi_wp2
      obtain ⟨e1, e2, e3, e4, e5⟩ := HEND.out
      refine ⟨by simp, .inl ⟨_, _, rfl, run_takeDeferred e1, ?_⟩⟩
      rw [HR.out]
      exact ⟨_, results_lex rfl _ _ rfl rfl e2 e3, _, rfl, by rw [List.length_map]; exact e4, e5⟩
    case stop =>
      rintro D c pre W hD hpre ⟨⟨p, t, no⟩, ⟨hbR, hbD⟩, hbl, rfl, hpe, hno, hok⟩ hK
      have hres := res_prefix hpre hpe hok hno
      obtain ⟨e2, e3, e5⟩ := lex_end0 (by omega : w.heap.size + 1 < D) rfl hbR hbD hbl hK
      gi_wp2
      refine ⟨by simp, .inl ⟨_, _, rfl, run_takeDeferred hK, ?_⟩⟩
      first | rw [hres] | skip
      exact ⟨_, results_lex rfl _ _ rfl rfl e2 e3, _, rfl, World.ownsRow_nil _ _ _ _, e5⟩

/-- Lex, whatever the text. -/
theorem lex_any (s : ByteArray) (hs : s.size ≤ maxLen) (w : World) (hE : Env w) :
    Calls Tryz.prog 17 #[.string s] w (LexPost w (lexL s.data.toList)) := callsIn_wide.1 (lex_in s hs w hE)
end Go.Proofs.YtfaoiajhoifalaaGreatDoor
