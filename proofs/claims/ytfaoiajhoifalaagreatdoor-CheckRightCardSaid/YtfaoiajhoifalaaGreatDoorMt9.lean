/-
  Layer check, plain mathematics: what is said of a text, reckoned. Layer check: Parsed, of a text that is a program. Layer check: says, of a text whose answer is reckoned; known. Layer check: says of a text whose answer is reckoned, known, and the walk of CheckKnown.
-/
import Derived.Test.YtfaoiajhoifalaaGreatDoorMt3
import Derived.Test.YtfaoiajhoifalaaGreatDoorLexm
import Derived.Test.YtfaoiajhoifalaaGreatDoorMt6
import Derived.Test.YtfaoiajhoifalaaGreatDoorMa
/-! Clk -/
namespace Go.Proofs.YtfaoiajhoifalaaGreatDoor
set_option linter.unusedVariables false
set_option linter.unusedSimpArgs false

def okF : Fo → Bool
  | .nil => true
  | .cons h k r => decide (h.s.length ≤ 1000000) && (decide (h.op ≠ 4) || decide (k.len = 1)) && (decide (h.op ≠ 5) || decide (k.len = 2)) && (decide (h.op ≠ 15 ∧ h.op ≠ 16) || decide (1 ≤ k.len)) && okF k && okF r
theorem okF_tr : ∀ F : Fo, okF F = true → TrW F := by
  intro F
  induction F with
  | nil => intro _; trivial
  | cons h k r ih1 ih2 =>
    intro e
    simp only [okF, Bool.and_eq_true, Bool.or_eq_true, decide_eq_true_eq] at e
    obtain ⟨⟨⟨⟨⟨e1, e2⟩, e3⟩, e4⟩, e5⟩, e6⟩ := e
    refine ⟨⟨e1, fun h4 => e2.resolve_left (fun n => n h4), fun h5 => e3.resolve_left (fun n => n h5), fun h15 => e4.resolve_left (fun n => ?_)⟩, ih1 e5, ih2 e6⟩
    rcases h15 with h | h
    · exact n.1 h
    · exact n.2 h
/-- All that is asked of a program, reckoned. -/
def okPg (pg : Pg) : Bool := decide (pg.f ≠ []) && decide (pg.f.map (·.b) = pg.t.roots 0) && okF pg.t && decide (pg.t.size ≤ 50000) && decide (pg.g.length ≤ 500000) && pg.g.all (fun g => decide (g.s.length ≤ 1000000 ∧ g.n ≤ 1000000)) && decide (pg.f.length ≤ 500000) &&
  pg.f.all (fun f => decide (f.s.length ≤ 1000000 ∧ f.ps.length ≤ 1000000) && f.ps.all fun p => decide (p.s.length ≤ 1000000)) && (pg.t.flat 0).all (fun n => decide (n.h.s.length ≤ 1000000 ∧ n.kids.length ≤ 1000000))
def okT (l : List Tok) : Bool := decide (l.length ≤ 1000000) && l.all fun t => decide (t.s.length ≤ 1000000)
/-- What is said of a text: the first error of a check, if the text is a program. -/
def saysL (l : List UInt8) : Option (Int × Int) :=
  if (lexL l).2.1 = 0 then (if okT (lexL l).1 then (match parseL (lexL l).1 with
    | .ok pg _ => if okPg pg then (match checkM pg with | .ok _ => some (0, 0) | .er n p => some (n, p)) else none
    | _ => none) else none) else none
/-- The texts of the closed statement, and what is said of each. -/
def kTx : List (List UInt8) := [
  [105, 110, 116, 32, 102, 40, 41, 123, 114, 101, 116, 117, 114, 110, 32, 48, 59, 125],
  [105, 110, 116, 32, 109, 97, 105, 110, 40, 41, 123, 32, 105, 110, 116, 32, 97, 32, 61, 32, 49, 59, 32, 123, 32, 105, 110, 116, 32, 97, 32, 61, 32, 50, 59, 32, 125, 32, 105, 110, 116, 32, 97, 32, 61, 32, 51, 59, 32, 114, 101, 116, 117, 114, 110, 32, 97, 59, 125],
  [118, 111, 105, 100, 32, 102, 40, 41, 123, 125, 32, 105, 110, 116, 32, 109, 97, 105, 110, 40, 41, 123, 32, 114, 101, 116, 117, 114, 110, 32, 102, 40, 41, 59, 125],
  [105, 110, 116, 32, 109, 97, 105, 110, 40, 41, 123, 32, 103, 111, 116, 111, 32, 108, 59, 32, 114, 101, 116, 117, 114, 110, 32, 48, 59, 125],
  [105, 110, 116, 32, 109, 97, 105, 110, 40, 105, 110, 116, 32, 97, 41, 123, 114, 101, 116, 117, 114, 110, 32, 48, 59, 125],
  [105, 110, 116, 32, 97, 59, 32, 108, 111, 110, 103, 32, 97, 59, 32, 105, 110, 116, 32, 109, 97, 105, 110, 40, 41, 123, 114, 101, 116, 117, 114, 110, 32, 48, 59, 125],
  [108, 111, 110, 103, 32, 97, 91, 53, 49, 50, 93, 59, 32, 105, 110, 116, 32, 98, 59, 32, 105, 110, 116, 32, 109, 97, 105, 110, 40, 41, 123, 114, 101, 116, 117, 114, 110, 32, 48, 59, 125],
  [105, 110, 116, 32, 102, 40, 105, 110, 116, 32, 97, 44, 32, 105, 110, 116, 32, 97, 41, 123, 114, 101, 116, 117, 114, 110, 32, 48, 59, 125, 32, 105, 110, 116, 32, 109, 97, 105, 110, 40, 41, 123, 114, 101, 116, 117, 114, 110, 32, 48, 59, 125],
  [105, 110, 116, 32, 120, 59, 32, 105, 110, 116, 32, 120, 40, 41, 123, 114, 101, 116, 117, 114, 110, 32, 48, 59, 125, 32, 105, 110, 116, 32, 109, 97, 105, 110, 40, 41, 123, 114, 101, 116, 117, 114, 110, 32, 48, 59, 125],
  [105, 110, 116, 32, 109, 97, 105, 110, 40, 41, 123, 32, 108, 58, 32, 111, 117, 116, 40, 49, 41, 59, 32, 108, 58, 32, 111, 117, 116, 40, 50, 41, 59, 32, 114, 101, 116, 117, 114, 110, 32, 48, 59, 125],
  [105, 110, 116, 32, 97, 91, 51, 93, 59, 32, 105, 110, 116, 32, 109, 97, 105, 110, 40, 41, 123, 32, 97, 32, 61, 32, 49, 59, 32, 114, 101, 116, 117, 114, 110, 32, 48, 59, 125],
  [105, 110, 116, 32, 97, 59, 32, 105, 110, 116, 32, 109, 97, 105, 110, 40, 41, 123, 32, 97, 91, 48, 93, 32, 61, 32, 49, 59, 32, 114, 101, 116, 117, 114, 110, 32, 48, 59, 125],
  [105, 110, 116, 32, 102, 40, 105, 110, 116, 32, 97, 41, 123, 114, 101, 116, 117, 114, 110, 32, 97, 59, 125, 32, 105, 110, 116, 32, 109, 97, 105, 110, 40, 41, 123, 32, 114, 101, 116, 117, 114, 110, 32, 102, 40, 41, 59, 125],
  [105, 110, 116, 32, 109, 97, 105, 110, 40, 41, 123, 32, 102, 40, 41, 59, 32, 114, 101, 116, 117, 114, 110, 32, 48, 59, 125],
  [105, 110, 116, 32, 109, 97, 105, 110, 40, 105, 110, 116, 32, 97, 41, 123, 114, 101, 116, 117, 114, 110, 32, 48, 59, 125],
  [108, 111, 110, 103, 32, 109, 97, 105, 110, 40, 41, 123, 114, 101, 116, 117, 114, 110, 32, 48, 59, 125],
  [118, 111, 105, 100, 32, 102, 40, 41, 123, 114, 101, 116, 117, 114, 110, 32, 49, 59, 125, 32, 105, 110, 116, 32, 109, 97, 105, 110, 40, 41, 123, 114, 101, 116, 117, 114, 110, 32, 48, 59, 125],
  [105, 110, 116, 32, 109, 97, 105, 110, 40, 41, 123, 114, 101, 116, 117, 114, 110, 59, 125],
  [105, 110, 116, 32, 109, 97, 105, 110, 40, 41, 123, 32, 105, 110, 116, 32, 97, 32, 61, 32, 97, 59, 32, 114, 101, 116, 117, 114, 110, 32, 48, 59, 125],
  [105, 110, 116, 32, 109, 97, 105, 110, 40, 41, 123, 32, 108, 58, 32, 103, 111, 116, 111, 32, 108, 59, 32, 125],
  [105, 110, 116, 32, 97, 59, 32, 105, 110, 116, 32, 109, 97, 105, 110, 40, 41, 123, 32, 105, 110, 116, 32, 97, 32, 61, 32, 97, 59, 32, 114, 101, 116, 117, 114, 110, 32, 97, 59, 125],
  [108, 111, 110, 103, 32, 97, 91, 53, 49, 50, 93, 59, 32, 105, 110, 116, 32, 109, 97, 105, 110, 40, 41, 123, 32, 114, 101, 116, 117, 114, 110, 32, 97, 91, 49, 93, 32, 61, 61, 32, 50, 59, 125]]
def kWt : List (Int × Int) := [(12, 0), (5, 38), (6, 23), (8, 12), (12, 4), (5, 12), (9, 17), (5, 4), (5, 11), (5, 23), (6, 22), (6, 19), (7, 43), (4, 12), (12, 4), (12, 5), (6, 9), (6, 11), (4, 20), (0, 0), (0, 0), (0, 0)]
def k1Tx : List UInt8 := [105, 110, 116, 32, 109, 97, 105, 110, 40, 41, 123, 114, 101, 116, 117, 114, 110, 32, 48, 59, 125]
def k2Tx : List UInt8 := [105, 110, 116, 32, 120, 59, 32, 105, 110, 116, 32, 109, 97, 105, 110, 40, 41, 123, 32, 120, 32, 61, 32, 121, 59, 32, 114, 101, 116, 117, 114, 110, 32, 48, 59, 125]
theorem ktab_ok : (kTx.map saysL) = kWt.map some := by decide +kernel
theorem k1_ok : saysL k1Tx = some (0, 0) := by decide +kernel
theorem k2_ok : saysL k2Tx = some (4, 23) := by decide +kernel
theorem kTx_len : ∀ x ∈ kTx, x.length ≤ 1000 := by decide +kernel
end Go.Proofs.YtfaoiajhoifalaaGreatDoor
/-! Cll -/
namespace Go.Proofs.YtfaoiajhoifalaaGreatDoor
open Go Go.RowKit Go.Maps
set_option linter.unusedVariables false
set_option linter.unusedSimpArgs false

theorem lexp_usec {w : World} {x : List Tok × Int × Int} {e : Ending} {w' : World} (h : LexPost w x e w') :
    ∃ A c, e = .returned (.tuple #[.slice A x.1.length c, .agg #[.int .i64 x.2.1, .int .i64 x.2.2]]) ∧ RdT w' w'.heap.size A x.1 ∧ x.1.length ≤ c ∧ c ≤ maxLen ∧ (A = none → c = 0) ∧ Below w.heap.size w w' := by
  obtain ⟨v, rfl, hr, hb⟩ := h
  obtain ⟨A, c, rfl, hA⟩ : ∃ A c, v = .slice A x.1.length c ∧ (A = none → c = 0) := by
    rcases hr.2 with ⟨rfl, h0⟩ | ⟨g, cap, cur, rfl, _⟩
    · exact ⟨none, 0, by rw [h0], fun _ => rfl⟩
    · exact ⟨_, _, rfl, fun h => by cases h⟩
  obtain ⟨h1, h2, h3⟩ := RdT.of_own hr rfl
  exact ⟨A, c, rfl, h1, h2, h3, hA, hb⟩

theorem pgUc : ∃ d, Tryz.prog.underlying tPg = some d ∧ d.isRow = true := ⟨_, Tryz.underlying27, rfl⟩
theorem pgInf3c : (Tryz.prog.info? tPg).map (·.size) = some 3 := by kernel_rfl
theorem results_parsed {fn : Func} {b : Nat} {x y z : Value} (h : fn.results = #[.cell 2 tPg, .tmp 3]) (tmps : Array Value) (w : World)
    (hp : tmps.getD 2 undef = .pointer (some ⟨b, 0, none⟩)) (hb : Blk w b tPg #[x, y, z]) :
    (results fn tmps).run Tryz.prog w = .ok (.tuple #[.agg #[x, y, z], tmps.getD 3 undef]) w := by
  obtain ⟨d, hu, hr⟩ := pgUc
  have hc : w.rangeAt b 0 [x, y, z] := by
    intro j v hv
    rw [Nat.zero_add, hb.cell]
    simpa using hv
  have hl := run_loadVar_mid (P := Tryz.prog) w b 0 tPg [x, y, z] d hc hu hr pgInf3c
  simp only [results, h]
  simp [Sem.run_bind, Result.andThen]
  rw [show tmps[2]?.getD undef = .pointer (some ⟨b, 0, none⟩) from by simpa using hp]
  simp [asAddr, hl]

abbrev vNil : Value := .slice none 0 0
/-- What Parsed answers, of a text that is a program. -/
def ParsedP (pg : Pg) (w : World) (e : Ending) (w' : World) : Prop :=
  Below w.heap.size w w' ∧ ∃ gA fA uA gc fc uc fl ns, e = .returned (.tuple #[pgV gA fA uA pg.g.length gc fl.length fc ns.length uc, .bool true]) ∧ PgM w.heap.size w' pg (.slice gA pg.g.length gc) (.slice fA fl.length fc) (.slice uA ns.length uc) fl ns
set_option maxHeartbeats 4000000 in
set_option maxRecDepth 100000 in
theorem parsed_ok (s : ByteArray) (hs : s.size ≤ 1048576) (w : World) (hE : Env w ∧ EnvY w) {toks : List Tok} {at_ : Int} {pg : Pg} {st : St} (hx : lexL s.data.toList = (toks, 0, at_)) (hok : okT toks = true) (hP : parseL toks = .ok pg st) :
    Calls Tryz.prog 8 #[.string s] w (ParsedP pg w) := by
  have hb0 : Below w.heap.size w (w.alloc (.cells #[vNil, vNil, vNil] tPg)) := (Below.refl _ _).alloc (Nat.le_refl _) _
  have hL := lex_any s (by unfold maxLen; omega) _ (hE.1.of hb0)
  have b0 := Blk.new w tPg #[vNil, vNil, vNil]
  have e1 : (w.alloc (.cells #[vNil, vNil, vNil] tPg)).heap.size = w.heap.size + 1 := by simp
  obtain ⟨R, hR⟩ : ∃ R : Ending → World → Prop, ParsedP pg w = R := ⟨_, rfl⟩
  rw [hR]
  have HR0 := Lib.hid hR
  have HP := Lib.hid hP
  simp only [okT, Bool.and_eq_true, decide_eq_true_eq, List.all_eq_true] at hok
  have hcnt := hok.1
  have htx : ∀ t ∈ toks, t.s.length ≤ 140737488355328 := fun t ht => by have := hok.2 t ht; omega
  rw [hx] at hL
  clear hR hx hok hP
  have HE := Lib.hid hE
  have HB0 := Lib.hid hb0
  clear hE hb0
  go_enter Tryz.func8, Tryz.ntmps8
  go_wp2_with fail
  refine hL.mono ?_
  rintro e w1 hp
  clear hL
  obtain ⟨A, c, rfl, hr, hlc, hcm, hA0, hb⟩ := lexp_usec hp
  simp only at hr hlc ⊢
  rw [e1] at hb
  have b1 : Blk w1 w.heap.size tPg #[vNil, vNil, vNil] := (hb.block _ (by omega)).trans b0
  have hz1 : w.heap.size < w1.heap.size := b1.lt
  have hbw := HB0.out.trans (hb.mono (Nat.le_succ _))
  have b2 := b1.alloc (.cells #[.int .i64 0, .int .i64 at_] tD)
  have d2 := Blk.new w1 tD #[.int .i64 0, .int .i64 at_]
  have hbw2 := hbw.alloc hbw.size (.cells #[.int .i64 0, .int .i64 at_] tD)
  have B2 := Lib.hid b2
  have D2 := Lib.hid d2
  have HW2 := Lib.hid hbw2
  have HR1 := Lib.hid hr
  clear hp hb hr b0 b1
  have HCN := Lib.hid (And.intro hcnt (And.intro htx (And.intro hlc (And.intro hcm hA0))))
  clear hcnt htx hbw hbw2 hcm hlc hA0 e1
  go_upto_region 4 with (fail)
  have hr2 : RdT (w1.alloc (.cells #[.int .i64 0, .int .i64 at_] tD)) (w1.alloc (.cells #[.int .i64 0, .int .i64 at_] tD)).heap.size A toks := (HR1.out.below ((Below.refl _ _).alloc (Nat.le_refl _) _)).more (by simp)
  generalize w1.alloc (.cells #[.int .i64 0, .int .i64 at_] tD) = W2 at *
  have HR2 := Lib.hid hr2
  have hE2 := HE.out.2.below HW2.out (Nat.le_refl _)
  have HPA := Lib.hid (parse_any toks toks.length c rfl (by have := HCN.out.1; omega) HCN.out.2.2.1 HCN.out.2.2.2.1 A HCN.out.2.2.2.2 W2 HR2.out HCN.out.2.1 hE2)
  clear hr2 hE2 b2 d2
  go_wp2_with fail
  refine HPA.out.mono ?_
  rintro e w3 ⟨hb3, hp3⟩
  rw [HP.out] at hp3
  obtain ⟨gv, fv, nv, fl, ns, rfl, hM⟩ := hp3
  obtain ⟨gA, gc, rfl⟩ := shape_row hM.gs
  obtain ⟨fA, fc, rfl⟩ := shape_row hM.fs
  obtain ⟨uA, uc, rfl⟩ := shape_row hM.rows
  have hfin : ∀ w' : World, (∀ i, W2.heap.size ≤ i → i < w3.heap.size → w'.heap[i]? = w3.heap[i]?) → PgM w.heap.size w' pg (.slice gA pg.g.length gc) (.slice fA fl.length fc) (.slice uA ns.length uc) fl ns := fun w' hk => (hM.keep hk).down HW2.out.size
  clear hM
  obtain ⟨gn, hgn⟩ : ∃ n, pg.g.length = n := ⟨_, rfl⟩
  obtain ⟨fn, hfn⟩ : ∃ n, fl.length = n := ⟨_, rfl⟩
  obtain ⟨un, hun⟩ : ∃ n, ns.length = n := ⟨_, rfl⟩
  rw [hgn, hfn, hun] at hfin ⊢
  have HLN := Lib.hid (And.intro hgn (And.intro hfn hun))
  clear hgn hfn hun
  have HFN := Lib.hid hfin
  have b3 : Blk w3 w.heap.size tPg #[vNil, vNil, vNil] := (hb3.block _ B2.out.lt).trans B2.out
  have HB3 := Lib.hid (HW2.out.trans (hb3.mono HW2.out.size))
  have HZ3 := Lib.hid hb3.size
  clear hb3 hfin HPA HR2 HCN
  have B3 := Lib.hid b3
  clear b3
  go_upto_region 5 with (fail)
  have bA : Blk ((w3.alloc (.cells #[.slice gA gn gc, .slice fA fn fc, .slice uA un uc] tPg)).alloc (.cells #[.int .i64 0, .int .i64 0] tD)) w3.heap.size tPg #[.slice gA gn gc, .slice fA fn fc, .slice uA un uc] := (Blk.new w3 tPg _).alloc _
  have bD := Blk.new (w3.alloc (.cells #[.slice gA gn gc, .slice fA fn fc, .slice uA un uc] tPg)) tD #[.int .i64 0, .int .i64 0]
  have eD : (w3.alloc (.cells #[.slice gA gn gc, .slice fA fn fc, .slice uA un uc] tPg)).heap.size = w3.heap.size + 1 := by simp
  rw [eD] at bD
  have bR := (B3.out.alloc (.cells #[.slice gA gn gc, .slice fA fn fc, .slice uA un uc] tPg)).alloc (.cells #[.int .i64 0, .int .i64 0] tD)
  have hbl := (HB3.out.alloc HB3.out.size (.cells #[.slice gA gn gc, .slice fA fn fc, .slice uA un uc] tPg)).alloc (by have := HB3.out.size; simp; omega) (.cells #[.int .i64 0, .int .i64 0] tD)
  have hkp : ∀ i, i < w3.heap.size → ((w3.alloc (.cells #[.slice gA gn gc, .slice fA fn fc, .slice uA un uc] tPg)).alloc (.cells #[.int .i64 0, .int .i64 0] tD)).heap[i]? = w3.heap[i]? := fun i hi => by rw [Below.heap_alloc _ _ _ (by simp; omega), Below.heap_alloc _ _ _ (by omega)]
  clear eD
  generalize (w3.alloc (.cells #[.slice gA gn gc, .slice fA fn fc, .slice uA un uc] tPg)).alloc (.cells #[.int .i64 0, .int .i64 0] tD) = W4 at *
  have a0 : W4.cell? ⟨w3.heap.size, 0, none⟩ = some (.slice gA gn gc) := bA.cell 0
  have a1 : W4.cell? ⟨w3.heap.size, 1, none⟩ = some (.slice fA fn fc) := bA.cell 1
  have a2 : W4.cell? ⟨w3.heap.size, 2, none⟩ = some (.slice uA un uc) := bA.cell 2
  have al := bA.lt
  have d0 : W4.cell? ⟨w3.heap.size + 1, 0, none⟩ = some (.int .i64 0) := bD.cell 0
  have dl := bD.lt
  have c0 : W4.cell? ⟨w.heap.size, 0, none⟩ = some vNil := bR.cell 0
  have c1 : W4.cell? ⟨w.heap.size, 1, none⟩ = some vNil := bR.cell 1
  have c2 : W4.cell? ⟨w.heap.size, 2, none⟩ = some vNil := bR.cell 2
  have f0 := bR.frozen 0
  have f1 := bR.frozen 1
  have f2 := bR.frozen 2
  have rl := bR.lt
  have hne : w.heap.size ≠ w3.heap.size := by have := B3.out.lt; omega
  have hne1 : w.heap.size ≠ w3.heap.size + 1 := by have := B3.out.lt; omega
  have HR4 := Lib.hid (And.intro bR (And.intro hbl hkp))
  clear bA bD bR hbl hkp
  go_region
  go_wp2_with fail
  have r0 : Blk (((W4.setCell ⟨w.heap.size, 0, none⟩ (.slice gA gn gc)).setCell ⟨w.heap.size, 1, none⟩ (.slice fA fn fc)).setCell ⟨w.heap.size, 2, none⟩ (.slice uA un uc)) w.heap.size tPg #[.slice gA gn gc, .slice fA fn fc, .slice uA un uc] := ((HR4.out.1.set_ 0 _).set_ 1 _).set_ 2 _
  have hbl : Below w.heap.size w (((W4.setCell ⟨w.heap.size, 0, none⟩ (.slice gA gn gc)).setCell ⟨w.heap.size, 1, none⟩ (.slice fA fn fc)).setCell ⟨w.heap.size, 2, none⟩ (.slice uA un uc)) := ((HR4.out.2.1.setCell (p := ⟨w.heap.size, 0, none⟩) (by simp) _).setCell (p := ⟨w.heap.size, 1, none⟩) (by simp) _).setCell (p := ⟨w.heap.size, 2, none⟩) (by simp) _
  have hkp : ∀ i, W2.heap.size ≤ i → i < w3.heap.size → (((W4.setCell ⟨w.heap.size, 0, none⟩ (.slice gA gn gc)).setCell ⟨w.heap.size, 1, none⟩ (.slice fA fn fc)).setCell ⟨w.heap.size, 2, none⟩ (.slice uA un uc)).heap[i]? = w3.heap[i]? := fun i h1 h2 => by
    have hlt := B2.out.lt
    have hc : ∀ (W : World) (o : Nat) (x : Value), (W.setCell ⟨w.heap.size, o, none⟩ x).heap[i]? = W.heap[i]? := fun W o x => Below.heap_setCell _ _ _ _ (by simp; omega)
    rw [hc, hc, hc]
    exact HR4.out.2.2 i h2
  have HEN := Lib.hid (And.intro r0 (And.intro hbl (HFN.out ((((W4.setCell ⟨w.heap.size, 0, none⟩ (.slice gA gn gc)).setCell ⟨w.heap.size, 1, none⟩ (.slice fA fn fc)).setCell ⟨w.heap.size, 2, none⟩ (.slice uA un uc)).drew) hkp)))
  clear r0 hbl hkp
  (try simp only [Exit.inBlock, Exit.then])
  refine bodyPost_ret (results_parsed rfl _ _ rfl HEN.out.1) rfl ?_
  rw [← HR0.out]
  refine ⟨HEN.out.2.1.drew, gA, fA, uA, gc, fc, uc, fl, ns, ?_, ?_⟩
  · rw [HLN.out.1, HLN.out.2.1, HLN.out.2.2]
    rfl
  · rw [HLN.out.1, HLN.out.2.1, HLN.out.2.2]
    exact HEN.out.2.2
end Go.Proofs.YtfaoiajhoifalaaGreatDoor
/-! Clm -/
namespace Go.Proofs.YtfaoiajhoifalaaGreatDoor
open Go Go.RowKit Go.Maps
set_option linter.unusedVariables false
set_option linter.unusedSimpArgs false

def toCN (x : NV) : CN := ⟨x.h, x.kids, x.v⟩
theorem toCN_nd (l : List NV) : (l.map toCN).map CN.nd = l.map NV.nd := by rw [List.map_map]; rfl
theorem fnCells_cs (l : List (Fn' × Value)) : fnCells l = fnCs l (List.replicate l.length (.slice none 0 0)) := by
  induction l with
  | nil => rfl
  | cons x l ih =>
    unfold fnCells fnCs at ih ⊢
    rw [List.flatMap_cons, List.length_cons, List.replicate_succ, List.zip_cons_cons, List.flatMap_cons, ih]
    rfl
theorem cellsN_tr (l : List NV) : cellsN l = cellsTr (l.map toCN) (l.map fun x => (x.h.ty, 0)) := by
  induction l with
  | nil => rfl
  | cons x l ih =>
    unfold cellsN cellsTr at ih ⊢
    rw [List.flatMap_cons, List.map_cons, List.map_cons, List.zip_cons_cons, List.flatMap_cons, ih]
    rfl
/-- What Parse leaves is read by Check. -/
theorem pgM_in {B : Nat} {w : World} {pg : Pg} {gA fA uA : Option Addr} {gc fc uc : Nat} {fl : List (Fn' × Value)} {ns : List NV} (h : PgM B w pg (.slice gA pg.g.length gc) (.slice fA fl.length fc) (.slice uA ns.length uc) fl ns) :
    PgI w gA fA uA gc fc uc pg.g fl (List.replicate fl.length (.slice none 0 0)) (ns.map toCN) (ns.map fun x => (x.h.ty, 0)) where
  g := RdS.of_row h.gs
  f := by have := RdS.of_row h.fs; rw [fnCells_cs] at this; exact this
  n := by have := RdS.of_row h.rows; rw [cellsN_tr] at this; rw [List.length_map]; exact this
  vl := List.length_replicate
  tl := by simp
  vs := fun v hv => ⟨none, 0, 0, List.eq_of_mem_replicate hv⟩
  ps := fun x hx => by
    obtain ⟨n, hr⟩ := h.ps x hx
    have hl := hr.1
    have e : (pmCells x.1.ps).length = x.1.ps.length * 2 := flat_len' pmC' 2 (fun _ => rfl) x.1.ps
    obtain rfl : n = x.1.ps.length := by rw [e] at hl; omega
    exact RdS.of_row hr
  ks := fun y hy => by
    obtain ⟨x, hx, rfl⟩ := List.mem_map.1 hy
    have hr := h.kids x hx
    have e : kidCells x.kids = ints (natI x.kids) := by simp [kidCells, ints, natI]
    rw [e] at hr
    exact RdS.of_row hr
theorem ckIn_of {B : Nat} {w : World} {pg : Pg} {gA fA uA : Option Addr} {gc fc uc : Nat} {fl : List (Fn' × Value)} {ns : List NV} (h : PgM B w pg (.slice gA pg.g.length gc) (.slice fA fl.length fc) (.slice uA ns.length uc) fl ns) (hk : okPg pg = true) :
    CkIn pg pg.g fl (ns.map toCN) (ns.map fun x => (x.h.ty, 0)) ∧ 1 ≤ fl.length := by
  simp only [okPg, Bool.and_eq_true, decide_eq_true_eq, List.all_eq_true] at hk
  obtain ⟨⟨⟨⟨⟨⟨⟨⟨k1, k2⟩, k3⟩, k4⟩, k5⟩, k6⟩, k7⟩, k8⟩, k9⟩ := hk
  refine ⟨⟨rfl, h.fe, by rw [toCN_nd]; exact h.nl, k2, okF_tr _ k3, ?_, k4, ⟨k5, k6⟩, ⟨k7, fun f hf => ⟨(k8 f hf).1.1, (k8 f hf).1.2, (k8 f hf).2⟩⟩, ?_⟩, ?_⟩
  · intro i x t hx ht _
    rw [List.getElem?_map] at hx ht
    cases hn : ns[i]? with
    | none => rw [hn] at hx; cases hx
    | some y =>
      rw [hn] at hx ht
      simp only [Option.map_some, Option.some.injEq] at hx ht
      subst hx ht
      rfl
  · intro y hy
    obtain ⟨x, hx, rfl⟩ := List.mem_map.1 hy
    have hm := List.mem_map_of_mem (f := NV.nd) hx
    rw [h.nl] at hm
    exact k9 _ hm
  · have e := congrArg List.length h.fe
    rw [List.length_map] at e
    rw [e]
    exact List.length_pos_iff.2 k1
theorem says_un {l : List UInt8} {n p : Int} (h : saysL l = some (n, p)) : ∃ toks at_ pg st, lexL l = (toks, 0, at_) ∧ okT toks = true ∧ parseL toks = .ok pg st ∧ okPg pg = true ∧ (checkM pg = .er n p ∨ ∃ y, checkM pg = .ok y ∧ n = 0 ∧ p = 0) := by
  obtain ⟨⟨toks, no, at_⟩, hx⟩ : ∃ x, lexL l = x := ⟨_, rfl⟩
  unfold saysL at h
  rw [hx] at h
  simp only at h
  split at h
  · next h0 =>
    subst h0
    split at h
    · next h1 =>
      cases hP : parseL toks with
      | er a b => rw [hP] at h; cases h
      | out => rw [hP] at h; cases h
      | ok pg st =>
        rw [hP] at h
        simp only at h
        split at h
        · next h2 =>
          refine ⟨toks, at_, pg, st, hx, h1, hP, h2, ?_⟩
          cases hc : checkM pg with
          | ok y =>
            rw [hc] at h
            simp only [Option.some.injEq, Prod.mk.injEq] at h
            exact .inr ⟨y, rfl, h.1.symm, h.2.symm⟩
          | er a b =>
            rw [hc] at h
            simp only [Option.some.injEq, Prod.mk.injEq] at h
            exact .inl (by rw [h.1, h.2])
        · cases h
    · cases h
  · cases h
end Go.Proofs.YtfaoiajhoifalaaGreatDoor
/-! Cln -/
namespace Go.Proofs.YtfaoiajhoifalaaGreatDoor
open Go Go.RowKit Go.Maps
set_option linter.unusedVariables false
set_option linter.unusedSimpArgs false

theorem dgInfo : (Tryz.prog.info? tDg).map (·.size) = some 2 := by kernel_rfl
theorem ret_dg {fn : Func} {R : Ending → World → Prop} {a : Act} {w : World} {p : Tmp} {b : Nat} {T : TypeId} {fr : Nat × Nat} {x y : Value} (hf : fn.results = #[.cell p tDg]) (h2 : a.tmps.getD p undef = .pointer (some ⟨b, 0, none⟩)) (hb : w.heap[b]? = some (.cells #[x, y] T fr)) (hd : a.defers = []) (hR : R (.returned (.agg #[x, y])) w) : bodyPost Tryz.prog fn R .ret a w :=
  bodyPost_ret (v := .agg #[x, y]) (results_cell_row hf _ _ b T _ fr _ h2 hb Tryz.underlying33 rfl dgInfo) hd hR
set_option maxHeartbeats 1000000 in
set_option maxRecDepth 100000 in
theorem says_any {l : List UInt8} (hl : l.length ≤ 100000) {n p : Int} (h : saysL l = some (n, p)) (w : World) (hE : Env w ∧ EnvY w) :
    Calls Tryz.prog 16 #[.string (str l)] w fun e w' => e = .returned (.agg #[.int .i64 n, .int .i64 p]) ∧ Below w.heap.size w w' := by
  obtain ⟨toks, at_, pg, st, hx, hok, hP, hpg, hck⟩ := says_un h
  obtain ⟨R, hR⟩ : ∃ R : Ending → World → Prop, (fun e w' => e = .returned (.agg #[.int .i64 n, .int .i64 p]) ∧ Below w.heap.size w w') = R := ⟨_, rfl⟩
  rw [hR]
  have HR := Lib.hid hR
  have h0 : Below w.heap.size w (w.alloc (.cells #[.int .i64 0, .int .i64 0] tDg)) := (Below.refl _ _).alloc (Nat.le_refl _) _
  have b0 := Blk.new w tDg #[.int .i64 0, .int .i64 0]
  have HPa := Lib.hid (parsed_ok (str l) (by rw [str_size]; omega) _ ⟨hE.1.of h0, hE.2.below h0 (Nat.le_refl _)⟩ hx hok hP)
  have HC := Lib.hid (And.intro hpg (And.intro hck (And.intro h0 b0)))
  obtain ⟨zz, hzz⟩ : ∃ z, str l = z := ⟨_, rfl⟩
  rw [hzz] at HPa ⊢
  clear hR hx hok hP hpg hck h0 b0 hE h hl hzz
  go_enter Tryz.func16, Tryz.ntmps16
  go_wp2_with fail
  refine HPa.out.mono ?_
  clear HPa
  rintro e w1 ⟨hb1, gA, fA, uA, gc, fc, uc, fl, ns, rfl, hM⟩
  have hin := ckIn_of hM HC.out.1
  have hI := pgM_in hM
  have hb1' : Below w.heap.size w w1 := HC.out.2.2.1.trans (hb1.mono (by simp))
  have b1 := HC.out.2.2.2.below hb1 HC.out.2.2.2.lt
  have hb2 : Below w1.heap.size w1 (w1.alloc (.cells #[.slice gA pg.g.length gc, .slice fA fl.length fc, .slice uA ns.length uc] tPro)) := (Below.refl _ _).alloc (Nat.le_refl _) _
  have k2 := Blk.new w1 tPro #[.slice gA pg.g.length gc, .slice fA fl.length fc, .slice uA ns.length uc]
  have HCk := Lib.hid (check_any (hI.on hb2) hin.1 hin.2)
  rw [List.length_map] at HCk
  obtain ⟨gn, hgn⟩ : ∃ n, pg.g.length = n := ⟨_, rfl⟩
  obtain ⟨fn, hfn⟩ : ∃ n, fl.length = n := ⟨_, rfl⟩
  obtain ⟨un, hun⟩ : ∃ n, ns.length = n := ⟨_, rfl⟩
  rw [hgn, hfn, hun] at hb2 k2 HCk ⊢
  have H1 := Lib.hid (And.intro hb1' (And.intro b1 (And.intro hb2 k2)))
  clear hM hin hI hb1 hb1' b1 hgn hfn hun hb2 k2
  go_upto_region 4 with (fail)
  obtain ⟨h1, b1, hb2, k2⟩ := H1.out
  have b2 := b1.alloc (.cells #[.slice gA gn gc, .slice fA fn fc, .slice uA un uc] tPro)
  have h2 := h1.trans (hb2.mono h1.size)
  obtain ⟨K, hK⟩ : ∃ x, w1.heap.size = x := ⟨_, rfl⟩
  rw [hK] at k2
  generalize w1.alloc (.cells #[.slice gA gn gc, .slice fA fn fc, .slice uA un uc] tPro) = W2 at *
  simp only [hK]
  have z0 : W2.cell? ⟨K, 0, none⟩ = some (.slice gA gn gc) := k2.cell 0
  have z1 : W2.cell? ⟨K, 1, none⟩ = some (.slice fA fn fc) := k2.cell 1
  have z2 : W2.cell? ⟨K, 2, none⟩ = some (.slice uA un uc) := k2.cell 2
  have zl := k2.lt
  have H2 := Lib.hid (And.intro h2 b2)
  clear h1 b1 hb2 k2 b2 h2 hK H1
  go_wp2_with fail
  refine HCk.out.mono ?_
  clear HCk
  rintro e w3 ⟨hb3, hres⟩
  obtain ⟨A1, n1, c1, A2, n2, c2, A3, n3, c3, rfl⟩ : ∃ A1 n1 c1 A2 n2 c2 A3 n3 c3, e = .returned (.tuple #[.agg #[.slice A1 n1 c1, .slice A2 n2 c2, .slice A3 n3 c3], .agg #[.int .i64 n, .int .i64 p]]) := by
    rcases hres with ⟨no, q, hc, rfl⟩ | ⟨tr, vs, gA', fA', nA', gc', fc', nc', fl', vls', ns', hc, rfl, -⟩
    · rcases HC.out.2.1 with h9 | ⟨y, h9, -⟩
      · rw [hc] at h9
        cases h9
        exact ⟨none, 0, 0, none, 0, 0, none, 0, 0, rfl⟩
      · rw [hc] at h9; cases h9
    · rcases HC.out.2.1 with h9 | ⟨y, h9, rfl, rfl⟩
      · rw [hc] at h9; cases h9
      · exact ⟨_, _, _, _, _, _, _, _, _, rfl⟩
  have h3 := H2.out.1.trans (hb3.mono H2.out.1.size)
  have b3 := H2.out.2.below hb3 H2.out.2.lt
  have H3 := Lib.hid (And.intro h3 b3)
  clear hres hb3 h3 b3 z0 z1 z2 zl
  go_upto_region 5 with (fail)
  obtain ⟨h3, b3⟩ := H3.out
  have b5 := (b3.alloc (.cells #[.slice A1 n1 c1, .slice A2 n2 c2, .slice A3 n3 c3] tPro)).alloc (.cells #[.int .i64 n, .int .i64 p] tDg)
  have k5 := Blk.new (w3.alloc (.cells #[.slice A1 n1 c1, .slice A2 n2 c2, .slice A3 n3 c3] tPro)) tDg #[.int .i64 n, .int .i64 p]
  have h5 := (h3.alloc h3.size (.cells #[.slice A1 n1 c1, .slice A2 n2 c2, .slice A3 n3 c3] tPro)).alloc (by have := h3.size; simp; omega) (.cells #[.int .i64 n, .int .i64 p] tDg)
  rw [show (w3.alloc (.cells #[.slice A1 n1 c1, .slice A2 n2 c2, .slice A3 n3 c3] tPro)).heap.size = w3.heap.size + 1 by simp] at k5
  generalize (w3.alloc (.cells #[.slice A1 n1 c1, .slice A2 n2 c2, .slice A3 n3 c3] tPro)).alloc (.cells #[.int .i64 n, .int .i64 p] tDg) = W5 at *
  have d0 : W5.cell? ⟨w3.heap.size + 1, 0, none⟩ = some (.int .i64 n) := k5.cell 0
  have d1 : W5.cell? ⟨w3.heap.size + 1, 1, none⟩ = some (.int .i64 p) := k5.cell 1
  have dl := k5.lt
  have r0 : W5.cell? ⟨w.heap.size, 0, none⟩ = some (.int .i64 0) := b5.cell 0
  have r1 : W5.cell? ⟨w.heap.size, 1, none⟩ = some (.int .i64 0) := b5.cell 1
  have g0 := b5.frozen 0
  have g1 := b5.frozen 1
  have rl := b5.lt
  have bF := (b5.set_ 0 (.int .i64 n)).set_ 1 (.int .i64 p)
  have HF := Lib.hid (And.intro bF ((h5.setCell (p := ⟨w.heap.size, 0, none⟩) (Nat.le_refl _) (.int .i64 n)).setCell (p := ⟨w.heap.size, 1, none⟩) (Nat.le_refl _) (.int .i64 p)))
  clear h3 b3 b5 k5 h5 bF
  go_wp2_with fail
  refine ret_dg rfl rfl HF.out.1 rfl ?_
  rw [← HR.out]
  exact ⟨rfl, HF.out.2⟩
set_option maxHeartbeats 1000000 in
set_option maxRecDepth 100000 in
theorem knownC_any (w : World) (hE : Env w ∧ EnvY w) : Calls Tryz.prog 7 #[] w fun e w' => e = .returned (.bool true) ∧ Below w.heap.size w w' := by
  have h1 := Lib.hid (says_any (l := [105, 110, 116, 32, 109, 97, 105, 110, 40, 41, 123, 114, 101, 116, 117, 114, 110, 32, 48, 59, 125]) (by decide) k1_ok w hE)
  have HE := Lib.hid hE
  clear hE
  go_enter Tryz.func7, Tryz.ntmps7
  go_wp2_with fail
  refine h1.out.mono ?_
  clear h1
  rintro e w1 ⟨rfl, hb1⟩
  have h2 := Lib.hid (says_any (l := [105, 110, 116, 32, 120, 59, 32, 105, 110, 116, 32, 109, 97, 105, 110, 40, 41, 123, 32, 120, 32, 61, 32, 121, 59, 32, 114, 101, 116, 117, 114, 110, 32, 48, 59, 125]) (by decide) k2_ok w1 ⟨HE.out.1.of hb1, HE.out.2.below hb1 (Nat.le_refl _)⟩)
  have HB := Lib.hid hb1
  clear hb1
  go_wp2_with fail
  refine h2.out.mono ?_
  clear h2
  rintro e w2 ⟨rfl, hb2⟩
  have HB2 := Lib.hid (HB.out.trans (hb2.mono HB.out.size))
  clear hb2
  go_wp2_with fail
  go_ret
  exact ⟨rfl, HB2.out⟩
def kTxV : Array Value := (kTx.map fun z => Value.string (str z)).toArray
def kWtV : Array Value := (kWt.flatMap fun x => [Value.int .i64 x.1, Value.int .i64 x.2]).toArray
theorem kTx_at (k : Nat) (hk : k < 22) : ∃ x, kTx[k]? = some x := ⟨_, List.getElem?_eq_getElem hk⟩
theorem kTxV_at (k : Nat) {x : List UInt8} (h : kTx[k]? = some x) : kTxV[k]? = some (.string (str x)) := by
  simp only [kTxV, List.getElem?_toArray, List.getElem?_map, h, Option.map_some]
theorem kWtV_at : ∀ k, k < 22 → ∀ y, kWt[k]? = some y → kWtV[k * 2]? = some (.int .i64 y.1) ∧ kWtV[k * 2 + 1]? = some (.int .i64 y.2) := by
  intro k hk y hy
  have h1 := flat_at' (fun x : Int × Int => [Value.int .i64 x.1, Value.int .i64 x.2]) 2 (fun _ => rfl) kWt k 0 (by omega)
  have h2 := flat_at' (fun x : Int × Int => [Value.int .i64 x.1, Value.int .i64 x.2]) 2 (fun _ => rfl) kWt k 1 (by omega)
  rw [hy] at h1 h2
  simp only [kWtV, List.getElem?_toArray]
  exact ⟨h1, h2⟩
theorem kSays (k : Nat) {x : List UInt8} {y : Int × Int} (h : kTx[k]? = some x) (h2 : kWt[k]? = some y) : saysL x = some y := by
  have e := congrArg (fun l => l[k]?) ktab_ok
  simp only [List.getElem?_map, h, h2, Option.map_some, Option.some.injEq] at e
  exact e
set_option maxHeartbeats 1000000 in
set_option maxRecDepth 100000 in
theorem checkKnown_walk (w : World) (hE : Env w ∧ EnvY w) : Calls Tryz.prog 6 #[] w fun e w' => e = .returned (.bool true) ∧ Below w.heap.size w w' := by
  have HE := Lib.hid hE
  have bT : Blk (w.alloc (.cells #[.string ⟨#[105, 110, 116, 32, 102, 40, 41, 123, 114, 101, 116, 117, 114, 110, 32, 48, 59, 125]⟩, .string ⟨#[105, 110, 116, 32, 109, 97, 105, 110, 40, 41, 123, 32, 105, 110, 116, 32, 97, 32, 61, 32, 49, 59, 32, 123, 32, 105, 110, 116, 32, 97, 32, 61, 32, 50, 59, 32, 125, 32, 105, 110, 116, 32, 97, 32, 61, 32, 51, 59, 32, 114, 101, 116, 117, 114, 110, 32, 97, 59, 125]⟩, .string ⟨#[118, 111, 105, 100, 32, 102, 40, 41, 123, 125, 32, 105, 110, 116, 32, 109, 97, 105, 110, 40, 41, 123, 32, 114, 101, 116, 117, 114, 110, 32, 102, 40, 41, 59, 125]⟩, .string ⟨#[105, 110, 116, 32, 109, 97, 105, 110, 40, 41, 123, 32, 103, 111, 116, 111, 32, 108, 59, 32, 114, 101, 116, 117, 114, 110, 32, 48, 59, 125]⟩, .string ⟨#[105, 110, 116, 32, 109, 97, 105, 110, 40, 105, 110, 116, 32, 97, 41, 123, 114, 101, 116, 117, 114, 110, 32, 48, 59, 125]⟩, .string ⟨#[105, 110, 116, 32, 97, 59, 32, 108, 111, 110, 103, 32, 97, 59, 32, 105, 110, 116, 32, 109, 97, 105, 110, 40, 41, 123, 114, 101, 116, 117, 114, 110, 32, 48, 59, 125]⟩, .string ⟨#[108, 111, 110, 103, 32, 97, 91, 53, 49, 50, 93, 59, 32, 105, 110, 116, 32, 98, 59, 32, 105, 110, 116, 32, 109, 97, 105, 110, 40, 41, 123, 114, 101, 116, 117, 114, 110, 32, 48, 59, 125]⟩, .string ⟨#[105, 110, 116, 32, 102, 40, 105, 110, 116, 32, 97, 44, 32, 105, 110, 116, 32, 97, 41, 123, 114, 101, 116, 117, 114, 110, 32, 48, 59, 125, 32, 105, 110, 116, 32, 109, 97, 105, 110, 40, 41, 123, 114, 101, 116, 117, 114, 110, 32, 48, 59, 125]⟩, .string ⟨#[105, 110, 116, 32, 120, 59, 32, 105, 110, 116, 32, 120, 40, 41, 123, 114, 101, 116, 117, 114, 110, 32, 48, 59, 125, 32, 105, 110, 116, 32, 109, 97, 105, 110, 40, 41, 123, 114, 101, 116, 117, 114, 110, 32, 48, 59, 125]⟩, .string ⟨#[105, 110, 116, 32, 109, 97, 105, 110, 40, 41, 123, 32, 108, 58, 32, 111, 117, 116, 40, 49, 41, 59, 32, 108, 58, 32, 111, 117, 116, 40, 50, 41, 59, 32, 114, 101, 116, 117, 114, 110, 32, 48, 59, 125]⟩, .string ⟨#[105, 110, 116, 32, 97, 91, 51, 93, 59, 32, 105, 110, 116, 32, 109, 97, 105, 110, 40, 41, 123, 32, 97, 32, 61, 32, 49, 59, 32, 114, 101, 116, 117, 114, 110, 32, 48, 59, 125]⟩, .string ⟨#[105, 110, 116, 32, 97, 59, 32, 105, 110, 116, 32, 109, 97, 105, 110, 40, 41, 123, 32, 97, 91, 48, 93, 32, 61, 32, 49, 59, 32, 114, 101, 116, 117, 114, 110, 32, 48, 59, 125]⟩, .string ⟨#[105, 110, 116, 32, 102, 40, 105, 110, 116, 32, 97, 41, 123, 114, 101, 116, 117, 114, 110, 32, 97, 59, 125, 32, 105, 110, 116, 32, 109, 97, 105, 110, 40, 41, 123, 32, 114, 101, 116, 117, 114, 110, 32, 102, 40, 41, 59, 125]⟩, .string ⟨#[105, 110, 116, 32, 109, 97, 105, 110, 40, 41, 123, 32, 102, 40, 41, 59, 32, 114, 101, 116, 117, 114, 110, 32, 48, 59, 125]⟩, .string ⟨#[105, 110, 116, 32, 109, 97, 105, 110, 40, 105, 110, 116, 32, 97, 41, 123, 114, 101, 116, 117, 114, 110, 32, 48, 59, 125]⟩, .string ⟨#[108, 111, 110, 103, 32, 109, 97, 105, 110, 40, 41, 123, 114, 101, 116, 117, 114, 110, 32, 48, 59, 125]⟩, .string ⟨#[118, 111, 105, 100, 32, 102, 40, 41, 123, 114, 101, 116, 117, 114, 110, 32, 49, 59, 125, 32, 105, 110, 116, 32, 109, 97, 105, 110, 40, 41, 123, 114, 101, 116, 117, 114, 110, 32, 48, 59, 125]⟩, .string ⟨#[105, 110, 116, 32, 109, 97, 105, 110, 40, 41, 123, 114, 101, 116, 117, 114, 110, 59, 125]⟩, .string ⟨#[105, 110, 116, 32, 109, 97, 105, 110, 40, 41, 123, 32, 105, 110, 116, 32, 97, 32, 61, 32, 97, 59, 32, 114, 101, 116, 117, 114, 110, 32, 48, 59, 125]⟩, .string ⟨#[105, 110, 116, 32, 109, 97, 105, 110, 40, 41, 123, 32, 108, 58, 32, 103, 111, 116, 111, 32, 108, 59, 32, 125]⟩, .string ⟨#[105, 110, 116, 32, 97, 59, 32, 105, 110, 116, 32, 109, 97, 105, 110, 40, 41, 123, 32, 105, 110, 116, 32, 97, 32, 61, 32, 97, 59, 32, 114, 101, 116, 117, 114, 110, 32, 97, 59, 125]⟩, .string ⟨#[108, 111, 110, 103, 32, 97, 91, 53, 49, 50, 93, 59, 32, 105, 110, 116, 32, 109, 97, 105, 110, 40, 41, 123, 32, 114, 101, 116, 117, 114, 110, 32, 97, 91, 49, 93, 32, 61, 61, 32, 50, 59, 125]⟩] 9)) w.heap.size 9 kTxV := Blk.new w 9 #[.string ⟨#[105, 110, 116, 32, 102, 40, 41, 123, 114, 101, 116, 117, 114, 110, 32, 48, 59, 125]⟩, .string ⟨#[105, 110, 116, 32, 109, 97, 105, 110, 40, 41, 123, 32, 105, 110, 116, 32, 97, 32, 61, 32, 49, 59, 32, 123, 32, 105, 110, 116, 32, 97, 32, 61, 32, 50, 59, 32, 125, 32, 105, 110, 116, 32, 97, 32, 61, 32, 51, 59, 32, 114, 101, 116, 117, 114, 110, 32, 97, 59, 125]⟩, .string ⟨#[118, 111, 105, 100, 32, 102, 40, 41, 123, 125, 32, 105, 110, 116, 32, 109, 97, 105, 110, 40, 41, 123, 32, 114, 101, 116, 117, 114, 110, 32, 102, 40, 41, 59, 125]⟩, .string ⟨#[105, 110, 116, 32, 109, 97, 105, 110, 40, 41, 123, 32, 103, 111, 116, 111, 32, 108, 59, 32, 114, 101, 116, 117, 114, 110, 32, 48, 59, 125]⟩, .string ⟨#[105, 110, 116, 32, 109, 97, 105, 110, 40, 105, 110, 116, 32, 97, 41, 123, 114, 101, 116, 117, 114, 110, 32, 48, 59, 125]⟩, .string ⟨#[105, 110, 116, 32, 97, 59, 32, 108, 111, 110, 103, 32, 97, 59, 32, 105, 110, 116, 32, 109, 97, 105, 110, 40, 41, 123, 114, 101, 116, 117, 114, 110, 32, 48, 59, 125]⟩, .string ⟨#[108, 111, 110, 103, 32, 97, 91, 53, 49, 50, 93, 59, 32, 105, 110, 116, 32, 98, 59, 32, 105, 110, 116, 32, 109, 97, 105, 110, 40, 41, 123, 114, 101, 116, 117, 114, 110, 32, 48, 59, 125]⟩, .string ⟨#[105, 110, 116, 32, 102, 40, 105, 110, 116, 32, 97, 44, 32, 105, 110, 116, 32, 97, 41, 123, 114, 101, 116, 117, 114, 110, 32, 48, 59, 125, 32, 105, 110, 116, 32, 109, 97, 105, 110, 40, 41, 123, 114, 101, 116, 117, 114, 110, 32, 48, 59, 125]⟩, .string ⟨#[105, 110, 116, 32, 120, 59, 32, 105, 110, 116, 32, 120, 40, 41, 123, 114, 101, 116, 117, 114, 110, 32, 48, 59, 125, 32, 105, 110, 116, 32, 109, 97, 105, 110, 40, 41, 123, 114, 101, 116, 117, 114, 110, 32, 48, 59, 125]⟩, .string ⟨#[105, 110, 116, 32, 109, 97, 105, 110, 40, 41, 123, 32, 108, 58, 32, 111, 117, 116, 40, 49, 41, 59, 32, 108, 58, 32, 111, 117, 116, 40, 50, 41, 59, 32, 114, 101, 116, 117, 114, 110, 32, 48, 59, 125]⟩, .string ⟨#[105, 110, 116, 32, 97, 91, 51, 93, 59, 32, 105, 110, 116, 32, 109, 97, 105, 110, 40, 41, 123, 32, 97, 32, 61, 32, 49, 59, 32, 114, 101, 116, 117, 114, 110, 32, 48, 59, 125]⟩, .string ⟨#[105, 110, 116, 32, 97, 59, 32, 105, 110, 116, 32, 109, 97, 105, 110, 40, 41, 123, 32, 97, 91, 48, 93, 32, 61, 32, 49, 59, 32, 114, 101, 116, 117, 114, 110, 32, 48, 59, 125]⟩, .string ⟨#[105, 110, 116, 32, 102, 40, 105, 110, 116, 32, 97, 41, 123, 114, 101, 116, 117, 114, 110, 32, 97, 59, 125, 32, 105, 110, 116, 32, 109, 97, 105, 110, 40, 41, 123, 32, 114, 101, 116, 117, 114, 110, 32, 102, 40, 41, 59, 125]⟩, .string ⟨#[105, 110, 116, 32, 109, 97, 105, 110, 40, 41, 123, 32, 102, 40, 41, 59, 32, 114, 101, 116, 117, 114, 110, 32, 48, 59, 125]⟩, .string ⟨#[105, 110, 116, 32, 109, 97, 105, 110, 40, 105, 110, 116, 32, 97, 41, 123, 114, 101, 116, 117, 114, 110, 32, 48, 59, 125]⟩, .string ⟨#[108, 111, 110, 103, 32, 109, 97, 105, 110, 40, 41, 123, 114, 101, 116, 117, 114, 110, 32, 48, 59, 125]⟩, .string ⟨#[118, 111, 105, 100, 32, 102, 40, 41, 123, 114, 101, 116, 117, 114, 110, 32, 49, 59, 125, 32, 105, 110, 116, 32, 109, 97, 105, 110, 40, 41, 123, 114, 101, 116, 117, 114, 110, 32, 48, 59, 125]⟩, .string ⟨#[105, 110, 116, 32, 109, 97, 105, 110, 40, 41, 123, 114, 101, 116, 117, 114, 110, 59, 125]⟩, .string ⟨#[105, 110, 116, 32, 109, 97, 105, 110, 40, 41, 123, 32, 105, 110, 116, 32, 97, 32, 61, 32, 97, 59, 32, 114, 101, 116, 117, 114, 110, 32, 48, 59, 125]⟩, .string ⟨#[105, 110, 116, 32, 109, 97, 105, 110, 40, 41, 123, 32, 108, 58, 32, 103, 111, 116, 111, 32, 108, 59, 32, 125]⟩, .string ⟨#[105, 110, 116, 32, 97, 59, 32, 105, 110, 116, 32, 109, 97, 105, 110, 40, 41, 123, 32, 105, 110, 116, 32, 97, 32, 61, 32, 97, 59, 32, 114, 101, 116, 117, 114, 110, 32, 97, 59, 125]⟩, .string ⟨#[108, 111, 110, 103, 32, 97, 91, 53, 49, 50, 93, 59, 32, 105, 110, 116, 32, 109, 97, 105, 110, 40, 41, 123, 32, 114, 101, 116, 117, 114, 110, 32, 97, 91, 49, 93, 32, 61, 61, 32, 50, 59, 125]⟩]
  have bW : Blk ((w.alloc (.cells #[.string ⟨#[105, 110, 116, 32, 102, 40, 41, 123, 114, 101, 116, 117, 114, 110, 32, 48, 59, 125]⟩, .string ⟨#[105, 110, 116, 32, 109, 97, 105, 110, 40, 41, 123, 32, 105, 110, 116, 32, 97, 32, 61, 32, 49, 59, 32, 123, 32, 105, 110, 116, 32, 97, 32, 61, 32, 50, 59, 32, 125, 32, 105, 110, 116, 32, 97, 32, 61, 32, 51, 59, 32, 114, 101, 116, 117, 114, 110, 32, 97, 59, 125]⟩, .string ⟨#[118, 111, 105, 100, 32, 102, 40, 41, 123, 125, 32, 105, 110, 116, 32, 109, 97, 105, 110, 40, 41, 123, 32, 114, 101, 116, 117, 114, 110, 32, 102, 40, 41, 59, 125]⟩, .string ⟨#[105, 110, 116, 32, 109, 97, 105, 110, 40, 41, 123, 32, 103, 111, 116, 111, 32, 108, 59, 32, 114, 101, 116, 117, 114, 110, 32, 48, 59, 125]⟩, .string ⟨#[105, 110, 116, 32, 109, 97, 105, 110, 40, 105, 110, 116, 32, 97, 41, 123, 114, 101, 116, 117, 114, 110, 32, 48, 59, 125]⟩, .string ⟨#[105, 110, 116, 32, 97, 59, 32, 108, 111, 110, 103, 32, 97, 59, 32, 105, 110, 116, 32, 109, 97, 105, 110, 40, 41, 123, 114, 101, 116, 117, 114, 110, 32, 48, 59, 125]⟩, .string ⟨#[108, 111, 110, 103, 32, 97, 91, 53, 49, 50, 93, 59, 32, 105, 110, 116, 32, 98, 59, 32, 105, 110, 116, 32, 109, 97, 105, 110, 40, 41, 123, 114, 101, 116, 117, 114, 110, 32, 48, 59, 125]⟩, .string ⟨#[105, 110, 116, 32, 102, 40, 105, 110, 116, 32, 97, 44, 32, 105, 110, 116, 32, 97, 41, 123, 114, 101, 116, 117, 114, 110, 32, 48, 59, 125, 32, 105, 110, 116, 32, 109, 97, 105, 110, 40, 41, 123, 114, 101, 116, 117, 114, 110, 32, 48, 59, 125]⟩, .string ⟨#[105, 110, 116, 32, 120, 59, 32, 105, 110, 116, 32, 120, 40, 41, 123, 114, 101, 116, 117, 114, 110, 32, 48, 59, 125, 32, 105, 110, 116, 32, 109, 97, 105, 110, 40, 41, 123, 114, 101, 116, 117, 114, 110, 32, 48, 59, 125]⟩, .string ⟨#[105, 110, 116, 32, 109, 97, 105, 110, 40, 41, 123, 32, 108, 58, 32, 111, 117, 116, 40, 49, 41, 59, 32, 108, 58, 32, 111, 117, 116, 40, 50, 41, 59, 32, 114, 101, 116, 117, 114, 110, 32, 48, 59, 125]⟩, .string ⟨#[105, 110, 116, 32, 97, 91, 51, 93, 59, 32, 105, 110, 116, 32, 109, 97, 105, 110, 40, 41, 123, 32, 97, 32, 61, 32, 49, 59, 32, 114, 101, 116, 117, 114, 110, 32, 48, 59, 125]⟩, .string ⟨#[105, 110, 116, 32, 97, 59, 32, 105, 110, 116, 32, 109, 97, 105, 110, 40, 41, 123, 32, 97, 91, 48, 93, 32, 61, 32, 49, 59, 32, 114, 101, 116, 117, 114, 110, 32, 48, 59, 125]⟩, .string ⟨#[105, 110, 116, 32, 102, 40, 105, 110, 116, 32, 97, 41, 123, 114, 101, 116, 117, 114, 110, 32, 97, 59, 125, 32, 105, 110, 116, 32, 109, 97, 105, 110, 40, 41, 123, 32, 114, 101, 116, 117, 114, 110, 32, 102, 40, 41, 59, 125]⟩, .string ⟨#[105, 110, 116, 32, 109, 97, 105, 110, 40, 41, 123, 32, 102, 40, 41, 59, 32, 114, 101, 116, 117, 114, 110, 32, 48, 59, 125]⟩, .string ⟨#[105, 110, 116, 32, 109, 97, 105, 110, 40, 105, 110, 116, 32, 97, 41, 123, 114, 101, 116, 117, 114, 110, 32, 48, 59, 125]⟩, .string ⟨#[108, 111, 110, 103, 32, 109, 97, 105, 110, 40, 41, 123, 114, 101, 116, 117, 114, 110, 32, 48, 59, 125]⟩, .string ⟨#[118, 111, 105, 100, 32, 102, 40, 41, 123, 114, 101, 116, 117, 114, 110, 32, 49, 59, 125, 32, 105, 110, 116, 32, 109, 97, 105, 110, 40, 41, 123, 114, 101, 116, 117, 114, 110, 32, 48, 59, 125]⟩, .string ⟨#[105, 110, 116, 32, 109, 97, 105, 110, 40, 41, 123, 114, 101, 116, 117, 114, 110, 59, 125]⟩, .string ⟨#[105, 110, 116, 32, 109, 97, 105, 110, 40, 41, 123, 32, 105, 110, 116, 32, 97, 32, 61, 32, 97, 59, 32, 114, 101, 116, 117, 114, 110, 32, 48, 59, 125]⟩, .string ⟨#[105, 110, 116, 32, 109, 97, 105, 110, 40, 41, 123, 32, 108, 58, 32, 103, 111, 116, 111, 32, 108, 59, 32, 125]⟩, .string ⟨#[105, 110, 116, 32, 97, 59, 32, 105, 110, 116, 32, 109, 97, 105, 110, 40, 41, 123, 32, 105, 110, 116, 32, 97, 32, 61, 32, 97, 59, 32, 114, 101, 116, 117, 114, 110, 32, 97, 59, 125]⟩, .string ⟨#[108, 111, 110, 103, 32, 97, 91, 53, 49, 50, 93, 59, 32, 105, 110, 116, 32, 109, 97, 105, 110, 40, 41, 123, 32, 114, 101, 116, 117, 114, 110, 32, 97, 91, 49, 93, 32, 61, 61, 32, 50, 59, 125]⟩] 9)).alloc (.cells #[.int .i64 12, .int .i64 0, .int .i64 5, .int .i64 38, .int .i64 6, .int .i64 23, .int .i64 8, .int .i64 12, .int .i64 12, .int .i64 4, .int .i64 5, .int .i64 12, .int .i64 9, .int .i64 17, .int .i64 5, .int .i64 4, .int .i64 5, .int .i64 11, .int .i64 5, .int .i64 23, .int .i64 6, .int .i64 22, .int .i64 6, .int .i64 19, .int .i64 7, .int .i64 43, .int .i64 4, .int .i64 12, .int .i64 12, .int .i64 4, .int .i64 12, .int .i64 5, .int .i64 6, .int .i64 9, .int .i64 6, .int .i64 11, .int .i64 4, .int .i64 20, .int .i64 0, .int .i64 0, .int .i64 0, .int .i64 0, .int .i64 0, .int .i64 0] tDg)) (w.heap.size + 1) tDg kWtV := by
    have h := Blk.new (w.alloc (.cells #[.string ⟨#[105, 110, 116, 32, 102, 40, 41, 123, 114, 101, 116, 117, 114, 110, 32, 48, 59, 125]⟩, .string ⟨#[105, 110, 116, 32, 109, 97, 105, 110, 40, 41, 123, 32, 105, 110, 116, 32, 97, 32, 61, 32, 49, 59, 32, 123, 32, 105, 110, 116, 32, 97, 32, 61, 32, 50, 59, 32, 125, 32, 105, 110, 116, 32, 97, 32, 61, 32, 51, 59, 32, 114, 101, 116, 117, 114, 110, 32, 97, 59, 125]⟩, .string ⟨#[118, 111, 105, 100, 32, 102, 40, 41, 123, 125, 32, 105, 110, 116, 32, 109, 97, 105, 110, 40, 41, 123, 32, 114, 101, 116, 117, 114, 110, 32, 102, 40, 41, 59, 125]⟩, .string ⟨#[105, 110, 116, 32, 109, 97, 105, 110, 40, 41, 123, 32, 103, 111, 116, 111, 32, 108, 59, 32, 114, 101, 116, 117, 114, 110, 32, 48, 59, 125]⟩, .string ⟨#[105, 110, 116, 32, 109, 97, 105, 110, 40, 105, 110, 116, 32, 97, 41, 123, 114, 101, 116, 117, 114, 110, 32, 48, 59, 125]⟩, .string ⟨#[105, 110, 116, 32, 97, 59, 32, 108, 111, 110, 103, 32, 97, 59, 32, 105, 110, 116, 32, 109, 97, 105, 110, 40, 41, 123, 114, 101, 116, 117, 114, 110, 32, 48, 59, 125]⟩, .string ⟨#[108, 111, 110, 103, 32, 97, 91, 53, 49, 50, 93, 59, 32, 105, 110, 116, 32, 98, 59, 32, 105, 110, 116, 32, 109, 97, 105, 110, 40, 41, 123, 114, 101, 116, 117, 114, 110, 32, 48, 59, 125]⟩, .string ⟨#[105, 110, 116, 32, 102, 40, 105, 110, 116, 32, 97, 44, 32, 105, 110, 116, 32, 97, 41, 123, 114, 101, 116, 117, 114, 110, 32, 48, 59, 125, 32, 105, 110, 116, 32, 109, 97, 105, 110, 40, 41, 123, 114, 101, 116, 117, 114, 110, 32, 48, 59, 125]⟩, .string ⟨#[105, 110, 116, 32, 120, 59, 32, 105, 110, 116, 32, 120, 40, 41, 123, 114, 101, 116, 117, 114, 110, 32, 48, 59, 125, 32, 105, 110, 116, 32, 109, 97, 105, 110, 40, 41, 123, 114, 101, 116, 117, 114, 110, 32, 48, 59, 125]⟩, .string ⟨#[105, 110, 116, 32, 109, 97, 105, 110, 40, 41, 123, 32, 108, 58, 32, 111, 117, 116, 40, 49, 41, 59, 32, 108, 58, 32, 111, 117, 116, 40, 50, 41, 59, 32, 114, 101, 116, 117, 114, 110, 32, 48, 59, 125]⟩, .string ⟨#[105, 110, 116, 32, 97, 91, 51, 93, 59, 32, 105, 110, 116, 32, 109, 97, 105, 110, 40, 41, 123, 32, 97, 32, 61, 32, 49, 59, 32, 114, 101, 116, 117, 114, 110, 32, 48, 59, 125]⟩, .string ⟨#[105, 110, 116, 32, 97, 59, 32, 105, 110, 116, 32, 109, 97, 105, 110, 40, 41, 123, 32, 97, 91, 48, 93, 32, 61, 32, 49, 59, 32, 114, 101, 116, 117, 114, 110, 32, 48, 59, 125]⟩, .string ⟨#[105, 110, 116, 32, 102, 40, 105, 110, 116, 32, 97, 41, 123, 114, 101, 116, 117, 114, 110, 32, 97, 59, 125, 32, 105, 110, 116, 32, 109, 97, 105, 110, 40, 41, 123, 32, 114, 101, 116, 117, 114, 110, 32, 102, 40, 41, 59, 125]⟩, .string ⟨#[105, 110, 116, 32, 109, 97, 105, 110, 40, 41, 123, 32, 102, 40, 41, 59, 32, 114, 101, 116, 117, 114, 110, 32, 48, 59, 125]⟩, .string ⟨#[105, 110, 116, 32, 109, 97, 105, 110, 40, 105, 110, 116, 32, 97, 41, 123, 114, 101, 116, 117, 114, 110, 32, 48, 59, 125]⟩, .string ⟨#[108, 111, 110, 103, 32, 109, 97, 105, 110, 40, 41, 123, 114, 101, 116, 117, 114, 110, 32, 48, 59, 125]⟩, .string ⟨#[118, 111, 105, 100, 32, 102, 40, 41, 123, 114, 101, 116, 117, 114, 110, 32, 49, 59, 125, 32, 105, 110, 116, 32, 109, 97, 105, 110, 40, 41, 123, 114, 101, 116, 117, 114, 110, 32, 48, 59, 125]⟩, .string ⟨#[105, 110, 116, 32, 109, 97, 105, 110, 40, 41, 123, 114, 101, 116, 117, 114, 110, 59, 125]⟩, .string ⟨#[105, 110, 116, 32, 109, 97, 105, 110, 40, 41, 123, 32, 105, 110, 116, 32, 97, 32, 61, 32, 97, 59, 32, 114, 101, 116, 117, 114, 110, 32, 48, 59, 125]⟩, .string ⟨#[105, 110, 116, 32, 109, 97, 105, 110, 40, 41, 123, 32, 108, 58, 32, 103, 111, 116, 111, 32, 108, 59, 32, 125]⟩, .string ⟨#[105, 110, 116, 32, 97, 59, 32, 105, 110, 116, 32, 109, 97, 105, 110, 40, 41, 123, 32, 105, 110, 116, 32, 97, 32, 61, 32, 97, 59, 32, 114, 101, 116, 117, 114, 110, 32, 97, 59, 125]⟩, .string ⟨#[108, 111, 110, 103, 32, 97, 91, 53, 49, 50, 93, 59, 32, 105, 110, 116, 32, 109, 97, 105, 110, 40, 41, 123, 32, 114, 101, 116, 117, 114, 110, 32, 97, 91, 49, 93, 32, 61, 61, 32, 50, 59, 125]⟩] 9)) tDg #[.int .i64 12, .int .i64 0, .int .i64 5, .int .i64 38, .int .i64 6, .int .i64 23, .int .i64 8, .int .i64 12, .int .i64 12, .int .i64 4, .int .i64 5, .int .i64 12, .int .i64 9, .int .i64 17, .int .i64 5, .int .i64 4, .int .i64 5, .int .i64 11, .int .i64 5, .int .i64 23, .int .i64 6, .int .i64 22, .int .i64 6, .int .i64 19, .int .i64 7, .int .i64 43, .int .i64 4, .int .i64 12, .int .i64 12, .int .i64 4, .int .i64 12, .int .i64 5, .int .i64 6, .int .i64 9, .int .i64 6, .int .i64 11, .int .i64 4, .int .i64 20, .int .i64 0, .int .i64 0, .int .i64 0, .int .i64 0, .int .i64 0, .int .i64 0]
    rw [show (w.alloc (.cells #[.string ⟨#[105, 110, 116, 32, 102, 40, 41, 123, 114, 101, 116, 117, 114, 110, 32, 48, 59, 125]⟩, .string ⟨#[105, 110, 116, 32, 109, 97, 105, 110, 40, 41, 123, 32, 105, 110, 116, 32, 97, 32, 61, 32, 49, 59, 32, 123, 32, 105, 110, 116, 32, 97, 32, 61, 32, 50, 59, 32, 125, 32, 105, 110, 116, 32, 97, 32, 61, 32, 51, 59, 32, 114, 101, 116, 117, 114, 110, 32, 97, 59, 125]⟩, .string ⟨#[118, 111, 105, 100, 32, 102, 40, 41, 123, 125, 32, 105, 110, 116, 32, 109, 97, 105, 110, 40, 41, 123, 32, 114, 101, 116, 117, 114, 110, 32, 102, 40, 41, 59, 125]⟩, .string ⟨#[105, 110, 116, 32, 109, 97, 105, 110, 40, 41, 123, 32, 103, 111, 116, 111, 32, 108, 59, 32, 114, 101, 116, 117, 114, 110, 32, 48, 59, 125]⟩, .string ⟨#[105, 110, 116, 32, 109, 97, 105, 110, 40, 105, 110, 116, 32, 97, 41, 123, 114, 101, 116, 117, 114, 110, 32, 48, 59, 125]⟩, .string ⟨#[105, 110, 116, 32, 97, 59, 32, 108, 111, 110, 103, 32, 97, 59, 32, 105, 110, 116, 32, 109, 97, 105, 110, 40, 41, 123, 114, 101, 116, 117, 114, 110, 32, 48, 59, 125]⟩, .string ⟨#[108, 111, 110, 103, 32, 97, 91, 53, 49, 50, 93, 59, 32, 105, 110, 116, 32, 98, 59, 32, 105, 110, 116, 32, 109, 97, 105, 110, 40, 41, 123, 114, 101, 116, 117, 114, 110, 32, 48, 59, 125]⟩, .string ⟨#[105, 110, 116, 32, 102, 40, 105, 110, 116, 32, 97, 44, 32, 105, 110, 116, 32, 97, 41, 123, 114, 101, 116, 117, 114, 110, 32, 48, 59, 125, 32, 105, 110, 116, 32, 109, 97, 105, 110, 40, 41, 123, 114, 101, 116, 117, 114, 110, 32, 48, 59, 125]⟩, .string ⟨#[105, 110, 116, 32, 120, 59, 32, 105, 110, 116, 32, 120, 40, 41, 123, 114, 101, 116, 117, 114, 110, 32, 48, 59, 125, 32, 105, 110, 116, 32, 109, 97, 105, 110, 40, 41, 123, 114, 101, 116, 117, 114, 110, 32, 48, 59, 125]⟩, .string ⟨#[105, 110, 116, 32, 109, 97, 105, 110, 40, 41, 123, 32, 108, 58, 32, 111, 117, 116, 40, 49, 41, 59, 32, 108, 58, 32, 111, 117, 116, 40, 50, 41, 59, 32, 114, 101, 116, 117, 114, 110, 32, 48, 59, 125]⟩, .string ⟨#[105, 110, 116, 32, 97, 91, 51, 93, 59, 32, 105, 110, 116, 32, 109, 97, 105, 110, 40, 41, 123, 32, 97, 32, 61, 32, 49, 59, 32, 114, 101, 116, 117, 114, 110, 32, 48, 59, 125]⟩, .string ⟨#[105, 110, 116, 32, 97, 59, 32, 105, 110, 116, 32, 109, 97, 105, 110, 40, 41, 123, 32, 97, 91, 48, 93, 32, 61, 32, 49, 59, 32, 114, 101, 116, 117, 114, 110, 32, 48, 59, 125]⟩, .string ⟨#[105, 110, 116, 32, 102, 40, 105, 110, 116, 32, 97, 41, 123, 114, 101, 116, 117, 114, 110, 32, 97, 59, 125, 32, 105, 110, 116, 32, 109, 97, 105, 110, 40, 41, 123, 32, 114, 101, 116, 117, 114, 110, 32, 102, 40, 41, 59, 125]⟩, .string ⟨#[105, 110, 116, 32, 109, 97, 105, 110, 40, 41, 123, 32, 102, 40, 41, 59, 32, 114, 101, 116, 117, 114, 110, 32, 48, 59, 125]⟩, .string ⟨#[105, 110, 116, 32, 109, 97, 105, 110, 40, 105, 110, 116, 32, 97, 41, 123, 114, 101, 116, 117, 114, 110, 32, 48, 59, 125]⟩, .string ⟨#[108, 111, 110, 103, 32, 109, 97, 105, 110, 40, 41, 123, 114, 101, 116, 117, 114, 110, 32, 48, 59, 125]⟩, .string ⟨#[118, 111, 105, 100, 32, 102, 40, 41, 123, 114, 101, 116, 117, 114, 110, 32, 49, 59, 125, 32, 105, 110, 116, 32, 109, 97, 105, 110, 40, 41, 123, 114, 101, 116, 117, 114, 110, 32, 48, 59, 125]⟩, .string ⟨#[105, 110, 116, 32, 109, 97, 105, 110, 40, 41, 123, 114, 101, 116, 117, 114, 110, 59, 125]⟩, .string ⟨#[105, 110, 116, 32, 109, 97, 105, 110, 40, 41, 123, 32, 105, 110, 116, 32, 97, 32, 61, 32, 97, 59, 32, 114, 101, 116, 117, 114, 110, 32, 48, 59, 125]⟩, .string ⟨#[105, 110, 116, 32, 109, 97, 105, 110, 40, 41, 123, 32, 108, 58, 32, 103, 111, 116, 111, 32, 108, 59, 32, 125]⟩, .string ⟨#[105, 110, 116, 32, 97, 59, 32, 105, 110, 116, 32, 109, 97, 105, 110, 40, 41, 123, 32, 105, 110, 116, 32, 97, 32, 61, 32, 97, 59, 32, 114, 101, 116, 117, 114, 110, 32, 97, 59, 125]⟩, .string ⟨#[108, 111, 110, 103, 32, 97, 91, 53, 49, 50, 93, 59, 32, 105, 110, 116, 32, 109, 97, 105, 110, 40, 41, 123, 32, 114, 101, 116, 117, 114, 110, 32, 97, 91, 49, 93, 32, 61, 61, 32, 50, 59, 125]⟩] 9)).heap.size = w.heap.size + 1 by simp] at h
    exact h
  have bT2 := bT.alloc (.cells #[.int .i64 12, .int .i64 0, .int .i64 5, .int .i64 38, .int .i64 6, .int .i64 23, .int .i64 8, .int .i64 12, .int .i64 12, .int .i64 4, .int .i64 5, .int .i64 12, .int .i64 9, .int .i64 17, .int .i64 5, .int .i64 4, .int .i64 5, .int .i64 11, .int .i64 5, .int .i64 23, .int .i64 6, .int .i64 22, .int .i64 6, .int .i64 19, .int .i64 7, .int .i64 43, .int .i64 4, .int .i64 12, .int .i64 12, .int .i64 4, .int .i64 12, .int .i64 5, .int .i64 6, .int .i64 9, .int .i64 6, .int .i64 11, .int .i64 4, .int .i64 20, .int .i64 0, .int .i64 0, .int .i64 0, .int .i64 0, .int .i64 0, .int .i64 0] tDg)
  have hb0 : Below w.heap.size w ((w.alloc (.cells #[.string ⟨#[105, 110, 116, 32, 102, 40, 41, 123, 114, 101, 116, 117, 114, 110, 32, 48, 59, 125]⟩, .string ⟨#[105, 110, 116, 32, 109, 97, 105, 110, 40, 41, 123, 32, 105, 110, 116, 32, 97, 32, 61, 32, 49, 59, 32, 123, 32, 105, 110, 116, 32, 97, 32, 61, 32, 50, 59, 32, 125, 32, 105, 110, 116, 32, 97, 32, 61, 32, 51, 59, 32, 114, 101, 116, 117, 114, 110, 32, 97, 59, 125]⟩, .string ⟨#[118, 111, 105, 100, 32, 102, 40, 41, 123, 125, 32, 105, 110, 116, 32, 109, 97, 105, 110, 40, 41, 123, 32, 114, 101, 116, 117, 114, 110, 32, 102, 40, 41, 59, 125]⟩, .string ⟨#[105, 110, 116, 32, 109, 97, 105, 110, 40, 41, 123, 32, 103, 111, 116, 111, 32, 108, 59, 32, 114, 101, 116, 117, 114, 110, 32, 48, 59, 125]⟩, .string ⟨#[105, 110, 116, 32, 109, 97, 105, 110, 40, 105, 110, 116, 32, 97, 41, 123, 114, 101, 116, 117, 114, 110, 32, 48, 59, 125]⟩, .string ⟨#[105, 110, 116, 32, 97, 59, 32, 108, 111, 110, 103, 32, 97, 59, 32, 105, 110, 116, 32, 109, 97, 105, 110, 40, 41, 123, 114, 101, 116, 117, 114, 110, 32, 48, 59, 125]⟩, .string ⟨#[108, 111, 110, 103, 32, 97, 91, 53, 49, 50, 93, 59, 32, 105, 110, 116, 32, 98, 59, 32, 105, 110, 116, 32, 109, 97, 105, 110, 40, 41, 123, 114, 101, 116, 117, 114, 110, 32, 48, 59, 125]⟩, .string ⟨#[105, 110, 116, 32, 102, 40, 105, 110, 116, 32, 97, 44, 32, 105, 110, 116, 32, 97, 41, 123, 114, 101, 116, 117, 114, 110, 32, 48, 59, 125, 32, 105, 110, 116, 32, 109, 97, 105, 110, 40, 41, 123, 114, 101, 116, 117, 114, 110, 32, 48, 59, 125]⟩, .string ⟨#[105, 110, 116, 32, 120, 59, 32, 105, 110, 116, 32, 120, 40, 41, 123, 114, 101, 116, 117, 114, 110, 32, 48, 59, 125, 32, 105, 110, 116, 32, 109, 97, 105, 110, 40, 41, 123, 114, 101, 116, 117, 114, 110, 32, 48, 59, 125]⟩, .string ⟨#[105, 110, 116, 32, 109, 97, 105, 110, 40, 41, 123, 32, 108, 58, 32, 111, 117, 116, 40, 49, 41, 59, 32, 108, 58, 32, 111, 117, 116, 40, 50, 41, 59, 32, 114, 101, 116, 117, 114, 110, 32, 48, 59, 125]⟩, .string ⟨#[105, 110, 116, 32, 97, 91, 51, 93, 59, 32, 105, 110, 116, 32, 109, 97, 105, 110, 40, 41, 123, 32, 97, 32, 61, 32, 49, 59, 32, 114, 101, 116, 117, 114, 110, 32, 48, 59, 125]⟩, .string ⟨#[105, 110, 116, 32, 97, 59, 32, 105, 110, 116, 32, 109, 97, 105, 110, 40, 41, 123, 32, 97, 91, 48, 93, 32, 61, 32, 49, 59, 32, 114, 101, 116, 117, 114, 110, 32, 48, 59, 125]⟩, .string ⟨#[105, 110, 116, 32, 102, 40, 105, 110, 116, 32, 97, 41, 123, 114, 101, 116, 117, 114, 110, 32, 97, 59, 125, 32, 105, 110, 116, 32, 109, 97, 105, 110, 40, 41, 123, 32, 114, 101, 116, 117, 114, 110, 32, 102, 40, 41, 59, 125]⟩, .string ⟨#[105, 110, 116, 32, 109, 97, 105, 110, 40, 41, 123, 32, 102, 40, 41, 59, 32, 114, 101, 116, 117, 114, 110, 32, 48, 59, 125]⟩, .string ⟨#[105, 110, 116, 32, 109, 97, 105, 110, 40, 105, 110, 116, 32, 97, 41, 123, 114, 101, 116, 117, 114, 110, 32, 48, 59, 125]⟩, .string ⟨#[108, 111, 110, 103, 32, 109, 97, 105, 110, 40, 41, 123, 114, 101, 116, 117, 114, 110, 32, 48, 59, 125]⟩, .string ⟨#[118, 111, 105, 100, 32, 102, 40, 41, 123, 114, 101, 116, 117, 114, 110, 32, 49, 59, 125, 32, 105, 110, 116, 32, 109, 97, 105, 110, 40, 41, 123, 114, 101, 116, 117, 114, 110, 32, 48, 59, 125]⟩, .string ⟨#[105, 110, 116, 32, 109, 97, 105, 110, 40, 41, 123, 114, 101, 116, 117, 114, 110, 59, 125]⟩, .string ⟨#[105, 110, 116, 32, 109, 97, 105, 110, 40, 41, 123, 32, 105, 110, 116, 32, 97, 32, 61, 32, 97, 59, 32, 114, 101, 116, 117, 114, 110, 32, 48, 59, 125]⟩, .string ⟨#[105, 110, 116, 32, 109, 97, 105, 110, 40, 41, 123, 32, 108, 58, 32, 103, 111, 116, 111, 32, 108, 59, 32, 125]⟩, .string ⟨#[105, 110, 116, 32, 97, 59, 32, 105, 110, 116, 32, 109, 97, 105, 110, 40, 41, 123, 32, 105, 110, 116, 32, 97, 32, 61, 32, 97, 59, 32, 114, 101, 116, 117, 114, 110, 32, 97, 59, 125]⟩, .string ⟨#[108, 111, 110, 103, 32, 97, 91, 53, 49, 50, 93, 59, 32, 105, 110, 116, 32, 109, 97, 105, 110, 40, 41, 123, 32, 114, 101, 116, 117, 114, 110, 32, 97, 91, 49, 93, 32, 61, 61, 32, 50, 59, 125]⟩] 9)).alloc (.cells #[.int .i64 12, .int .i64 0, .int .i64 5, .int .i64 38, .int .i64 6, .int .i64 23, .int .i64 8, .int .i64 12, .int .i64 12, .int .i64 4, .int .i64 5, .int .i64 12, .int .i64 9, .int .i64 17, .int .i64 5, .int .i64 4, .int .i64 5, .int .i64 11, .int .i64 5, .int .i64 23, .int .i64 6, .int .i64 22, .int .i64 6, .int .i64 19, .int .i64 7, .int .i64 43, .int .i64 4, .int .i64 12, .int .i64 12, .int .i64 4, .int .i64 12, .int .i64 5, .int .i64 6, .int .i64 9, .int .i64 6, .int .i64 11, .int .i64 4, .int .i64 20, .int .i64 0, .int .i64 0, .int .i64 0, .int .i64 0, .int .i64 0, .int .i64 0] tDg)) := ((Below.refl _ _).alloc (Nat.le_refl _) _).alloc (by simp) _
  have HT := Lib.hid (And.intro bT2 (And.intro bW hb0))
  clear bT bW bT2 hb0 hE
  go_enter Tryz.func6, Tryz.ntmps6
  go_upto_region 3 with (fail)
  obtain ⟨W, hW⟩ : ∃ W, (w.alloc (.cells #[.string ⟨#[105, 110, 116, 32, 102, 40, 41, 123, 114, 101, 116, 117, 114, 110, 32, 48, 59, 125]⟩, .string ⟨#[105, 110, 116, 32, 109, 97, 105, 110, 40, 41, 123, 32, 105, 110, 116, 32, 97, 32, 61, 32, 49, 59, 32, 123, 32, 105, 110, 116, 32, 97, 32, 61, 32, 50, 59, 32, 125, 32, 105, 110, 116, 32, 97, 32, 61, 32, 51, 59, 32, 114, 101, 116, 117, 114, 110, 32, 97, 59, 125]⟩, .string ⟨#[118, 111, 105, 100, 32, 102, 40, 41, 123, 125, 32, 105, 110, 116, 32, 109, 97, 105, 110, 40, 41, 123, 32, 114, 101, 116, 117, 114, 110, 32, 102, 40, 41, 59, 125]⟩, .string ⟨#[105, 110, 116, 32, 109, 97, 105, 110, 40, 41, 123, 32, 103, 111, 116, 111, 32, 108, 59, 32, 114, 101, 116, 117, 114, 110, 32, 48, 59, 125]⟩, .string ⟨#[105, 110, 116, 32, 109, 97, 105, 110, 40, 105, 110, 116, 32, 97, 41, 123, 114, 101, 116, 117, 114, 110, 32, 48, 59, 125]⟩, .string ⟨#[105, 110, 116, 32, 97, 59, 32, 108, 111, 110, 103, 32, 97, 59, 32, 105, 110, 116, 32, 109, 97, 105, 110, 40, 41, 123, 114, 101, 116, 117, 114, 110, 32, 48, 59, 125]⟩, .string ⟨#[108, 111, 110, 103, 32, 97, 91, 53, 49, 50, 93, 59, 32, 105, 110, 116, 32, 98, 59, 32, 105, 110, 116, 32, 109, 97, 105, 110, 40, 41, 123, 114, 101, 116, 117, 114, 110, 32, 48, 59, 125]⟩, .string ⟨#[105, 110, 116, 32, 102, 40, 105, 110, 116, 32, 97, 44, 32, 105, 110, 116, 32, 97, 41, 123, 114, 101, 116, 117, 114, 110, 32, 48, 59, 125, 32, 105, 110, 116, 32, 109, 97, 105, 110, 40, 41, 123, 114, 101, 116, 117, 114, 110, 32, 48, 59, 125]⟩, .string ⟨#[105, 110, 116, 32, 120, 59, 32, 105, 110, 116, 32, 120, 40, 41, 123, 114, 101, 116, 117, 114, 110, 32, 48, 59, 125, 32, 105, 110, 116, 32, 109, 97, 105, 110, 40, 41, 123, 114, 101, 116, 117, 114, 110, 32, 48, 59, 125]⟩, .string ⟨#[105, 110, 116, 32, 109, 97, 105, 110, 40, 41, 123, 32, 108, 58, 32, 111, 117, 116, 40, 49, 41, 59, 32, 108, 58, 32, 111, 117, 116, 40, 50, 41, 59, 32, 114, 101, 116, 117, 114, 110, 32, 48, 59, 125]⟩, .string ⟨#[105, 110, 116, 32, 97, 91, 51, 93, 59, 32, 105, 110, 116, 32, 109, 97, 105, 110, 40, 41, 123, 32, 97, 32, 61, 32, 49, 59, 32, 114, 101, 116, 117, 114, 110, 32, 48, 59, 125]⟩, .string ⟨#[105, 110, 116, 32, 97, 59, 32, 105, 110, 116, 32, 109, 97, 105, 110, 40, 41, 123, 32, 97, 91, 48, 93, 32, 61, 32, 49, 59, 32, 114, 101, 116, 117, 114, 110, 32, 48, 59, 125]⟩, .string ⟨#[105, 110, 116, 32, 102, 40, 105, 110, 116, 32, 97, 41, 123, 114, 101, 116, 117, 114, 110, 32, 97, 59, 125, 32, 105, 110, 116, 32, 109, 97, 105, 110, 40, 41, 123, 32, 114, 101, 116, 117, 114, 110, 32, 102, 40, 41, 59, 125]⟩, .string ⟨#[105, 110, 116, 32, 109, 97, 105, 110, 40, 41, 123, 32, 102, 40, 41, 59, 32, 114, 101, 116, 117, 114, 110, 32, 48, 59, 125]⟩, .string ⟨#[105, 110, 116, 32, 109, 97, 105, 110, 40, 105, 110, 116, 32, 97, 41, 123, 114, 101, 116, 117, 114, 110, 32, 48, 59, 125]⟩, .string ⟨#[108, 111, 110, 103, 32, 109, 97, 105, 110, 40, 41, 123, 114, 101, 116, 117, 114, 110, 32, 48, 59, 125]⟩, .string ⟨#[118, 111, 105, 100, 32, 102, 40, 41, 123, 114, 101, 116, 117, 114, 110, 32, 49, 59, 125, 32, 105, 110, 116, 32, 109, 97, 105, 110, 40, 41, 123, 114, 101, 116, 117, 114, 110, 32, 48, 59, 125]⟩, .string ⟨#[105, 110, 116, 32, 109, 97, 105, 110, 40, 41, 123, 114, 101, 116, 117, 114, 110, 59, 125]⟩, .string ⟨#[105, 110, 116, 32, 109, 97, 105, 110, 40, 41, 123, 32, 105, 110, 116, 32, 97, 32, 61, 32, 97, 59, 32, 114, 101, 116, 117, 114, 110, 32, 48, 59, 125]⟩, .string ⟨#[105, 110, 116, 32, 109, 97, 105, 110, 40, 41, 123, 32, 108, 58, 32, 103, 111, 116, 111, 32, 108, 59, 32, 125]⟩, .string ⟨#[105, 110, 116, 32, 97, 59, 32, 105, 110, 116, 32, 109, 97, 105, 110, 40, 41, 123, 32, 105, 110, 116, 32, 97, 32, 61, 32, 97, 59, 32, 114, 101, 116, 117, 114, 110, 32, 97, 59, 125]⟩, .string ⟨#[108, 111, 110, 103, 32, 97, 91, 53, 49, 50, 93, 59, 32, 105, 110, 116, 32, 109, 97, 105, 110, 40, 41, 123, 32, 114, 101, 116, 117, 114, 110, 32, 97, 91, 49, 93, 32, 61, 61, 32, 50, 59, 125]⟩] 9)).alloc (.cells #[.int .i64 12, .int .i64 0, .int .i64 5, .int .i64 38, .int .i64 6, .int .i64 23, .int .i64 8, .int .i64 12, .int .i64 12, .int .i64 4, .int .i64 5, .int .i64 12, .int .i64 9, .int .i64 17, .int .i64 5, .int .i64 4, .int .i64 5, .int .i64 11, .int .i64 5, .int .i64 23, .int .i64 6, .int .i64 22, .int .i64 6, .int .i64 19, .int .i64 7, .int .i64 43, .int .i64 4, .int .i64 12, .int .i64 12, .int .i64 4, .int .i64 12, .int .i64 5, .int .i64 6, .int .i64 9, .int .i64 6, .int .i64 11, .int .i64 4, .int .i64 20, .int .i64 0, .int .i64 0, .int .i64 0, .int .i64 0, .int .i64 0, .int .i64 0] tDg) = W := ⟨_, rfl⟩
  rw [hW] at HT ⊢
  have HEW := Lib.hid (show Env W ∧ EnvY W from ⟨HE.out.1.of HT.out.2.2, HE.out.2.below HT.out.2.2 (Nat.le_refl _)⟩)
  have HW := Lib.hid HT.out.2.2
  obtain ⟨H0, hH0⟩ : ∃ x, w.heap.size = x := ⟨_, rfl⟩
  rw [hH0] at HT
  simp only [World.size_alloc, hH0]
  clear hW hH0
  go_wp2_with fail
  go_loopw [3] (fun v wr => ∃ k : Nat, k ≤ 22 ∧ v = .int .i64 k ∧ Below W.heap.size W wr) (fun v _ => 22 - (intOf v).toNat)
  case atStart => exact ⟨0, by omega, rfl, Below.refl _ _⟩
  case round =>
    obtain ⟨k, hk, rfl, hb⟩ := hrel
    by_cases hlt : k < 22
    · obtain ⟨x, hx⟩ := kTx_at k hlt
      obtain ⟨⟨n, p⟩, hy⟩ : ∃ y, kWt[k]? = some y := ⟨_, List.getElem?_eq_getElem (show k < kWt.length from hlt)⟩
      have hTl := HT.out.1.lt
      have hWl := HT.out.2.1.lt
      have t0 : wr.cell? ⟨H0, k, none⟩ = some (.string (str x)) := (hb.cell (p := ⟨H0, k, none⟩) hTl).trans ((HT.out.1.cell k).trans (kTxV_at k hx))
      have q0 : wr.cell? ⟨H0 + 1, k * 2, none⟩ = some (.int .i64 n) := (hb.cell (p := ⟨H0 + 1, k * 2, none⟩) hWl).trans ((HT.out.2.1.cell _).trans (kWtV_at k hlt _ hy).1)
      have q1 : wr.cell? ⟨H0 + 1, k * 2 + 1, none⟩ = some (.int .i64 p) := (hb.cell (p := ⟨H0 + 1, k * 2 + 1, none⟩) hWl).trans ((HT.out.2.1.cell _).trans (kWtV_at k hlt _ hy).2)
      have tl : H0 < wr.heap.size := Nat.lt_of_lt_of_le hTl hb.size
      have ql : H0 + 1 < wr.heap.size := Nat.lt_of_lt_of_le hWl hb.size
      have hkI : (k : Int) < 22 := by omega
      have hsy := kSays k hx hy
      have hxl := kTx_len x (List.mem_of_getElem? hx)
      have HSy : Hid (∀ W', Below wr.heap.size wr W' → Calls Tryz.prog 16 #[.string (str x)] W' fun e w' => e = .returned (.agg #[.int .i64 n, .int .i64 p]) ∧ Below wr.heap.size wr w') := Lib.hid fun W' hW' => by
        have hb2 : Below W.heap.size W W' := hb.trans (hW'.mono hb.size)
        exact (says_any (by omega) hsy W' ⟨HEW.out.1.of hb2, HEW.out.2.below hb2 (Nat.le_refl _)⟩).mono fun e w' h => ⟨h.1, hW'.trans (h.2.mono hW'.size)⟩
      obtain ⟨zz, hzz⟩ : ∃ z, str x = z := ⟨_, rfl⟩
      rw [hzz] at t0 HSy
      have HS : Hid (∀ Wx, Below wr.heap.size wr Wx → Wx.cell? ⟨H0, k, none⟩ = some (.string zz) ∧ Wx.cell? ⟨H0 + 1, k * 2, none⟩ = some (.int .i64 n) ∧ Wx.cell? ⟨H0 + 1, k * 2 + 1, none⟩ = some (.int .i64 p) ∧ H0 < Wx.heap.size ∧ H0 + 1 < Wx.heap.size) := Lib.hid fun Wx hW =>
        ⟨(hW.cell (p := ⟨H0, _, none⟩) tl).trans t0, (hW.cell (p := ⟨H0 + 1, _, none⟩) ql).trans q0, (hW.cell (p := ⟨H0 + 1, _, none⟩) ql).trans q1, Nat.lt_of_lt_of_le tl hW.size, Nat.lt_of_lt_of_le ql hW.size⟩
      have J : Below wr.heap.size wr wr := Below.refl _ _
      have HB := Lib.hid hb
      clear hb hx hy hsy hxl hzz hTl hWl
      go_upto_region 6 with (fail)
      go_cut [43] (fun v43 wx => v43 = .bool false ∧ Below wr.heap.size wr wx)
      case first =>
        go_region_held2 (fun Wx => Wx.cell? ⟨H0, k, none⟩ = some (.string zz) ∧ Wx.cell? ⟨H0 + 1, k * 2, none⟩ = some (.int .i64 n) ∧ Wx.cell? ⟨H0 + 1, k * 2 + 1, none⟩ = some (.int .i64 p) ∧ H0 < Wx.heap.size ∧ H0 + 1 < Wx.heap.size)
          (first | exact ⟨t0, q0, q1, tl, ql⟩ | exact HS.out _ J)
          ((go_at_call 16; (with_reducible refine Calls.mono (HSy.out _ (by first | exact J | exact J.drew)) ?_); rintro e v1 ⟨rfl, J⟩))
        all_goals
          go_wp2_with fail
          go_meet
          exact ⟨by simp, by first | exact J | exact J.drew⟩
      case rest =>
        obtain ⟨rfl, hbc⟩ := hcut
        have HBC := Lib.hid (HB.out.trans (hbc.mono HB.out.size))
        clear hbc HS HSy t0 q0 q1 tl ql J
        go_wp2_with fail
        go_roundw
        case rel => exact ⟨k + 1, by omega, by go_num, HBC.out⟩
        case measure => simp [intOf]; omega
    · obtain rfl : k = 22 := by omega
      have HK := Lib.hid (knownC_any wr ⟨HEW.out.1.of hb, HEW.out.2.below hb (Nat.le_refl _)⟩)
      have HB := Lib.hid (HW.out.trans (hb.mono HW.out.size))
      clear hb
      go_wp2_with fail
      refine HK.out.mono ?_
      clear HK
      rintro e w9 ⟨rfl, hb9⟩
      have HB9 := Lib.hid (HB.out.trans (hb9.mono HB.out.size))
      clear hb9
      go_wp2_with fail
      go_ret
      exact ⟨rfl, HB9.out⟩
end Go.Proofs.YtfaoiajhoifalaaGreatDoor
