/-
  Programs that are read, checked or not: what of them lies in memory. Layer check: Parsed, of any text; what is asked of a program that is checked holds of what was parsed. Layer check, mathematics: numbers keep their Types; what was checked may be checked again, and says the same.
-/
import Derived.Test.YtfaoiajhoifalaaGreatDoorMu2
import Derived.Test.YtfaoiajhoifalaaGreatDoorMt9
import Derived.Test.YtfaoiajhoifalaaGreatDoorMu1
/-! Cma0 -/
namespace Go.Proofs.YtfaoiajhoifalaaGreatDoor
open Go Go.RowKit Go.Maps
set_option linter.unusedVariables false
set_option linter.unusedSimpArgs false

theorem RdS.get {w : World} {A : Option Addr} {n c : Nat} {xs : List Value} (h : RdS w (.slice A n c) n xs) (hne : xs ≠ []) : ∃ b o, A = some ⟨b, o, none⟩ ∧ b < w.heap.size ∧ ∀ (j : Nat) (u : Value), xs[j]? = some u → w.cell? ⟨b, o + j, none⟩ = some u := by
  obtain ⟨A', c', e, h⟩ := h
  simp only [Value.slice.injEq] at e
  obtain ⟨rfl, -, rfl⟩ := e
  rcases h with ⟨-, h0⟩ | ⟨b, o, e, hc⟩
  · exact absurd h0 hne
  · obtain ⟨u, hu⟩ : ∃ u, xs[0]? = some u := by
      cases xs with
      | nil => exact absurd rfl hne
      | cons x l => exact ⟨x, rfl⟩
    exact ⟨b, o, e, (hc 0 u hu).1, fun j u hj => (hc j u hj).2⟩
theorem RdS.shape {w : World} {v : Value} {n : Nat} {xs : List Value} (h : RdS w v n xs) : ∃ A c, v = .slice A n c := by
  obtain ⟨A, c, e, -⟩ := h
  exact ⟨A, c, e⟩
/-- A program that is read, with its functions' variables. -/
structure PgR (w : World) (gA fA nA : Option Addr) (gc fc nc : Nat) (gs : List Gl) (fl : List (Fn' × Value)) (vls : List Value) (ns : List CN) (tr : List (Int × Int)) (vs : List (List Int)) : Prop where
  pi : PgI w gA fA nA gc fc nc gs fl vls ns tr
  vn : vs.length = fl.length
  vr : ∀ (j : Nat) (v : Value) (l : List Int), vls[j]? = some v → vs[j]? = some l → RdS w v l.length (ints l)
theorem PgR.on {w w' : World} {gA fA nA : Option Addr} {gc fc nc : Nat} {gs : List Gl} {fl : List (Fn' × Value)} {vls : List Value} {ns : List CN} {tr : List (Int × Int)} {vs : List (List Int)} (h : PgR w gA fA nA gc fc nc gs fl vls ns tr vs) (hb : Below w.heap.size w w') : PgR w' gA fA nA gc fc nc gs fl vls ns tr vs :=
  ⟨h.pi.on hb, h.vn, fun j v l h1 h2 => (h.vr j v l h1 h2).on hb⟩
theorem PgC.rd {B : Nat} {w : World} {gA fA nA : Option Addr} {gc fc nc : Nat} {pg : Pg} {fl : List (Fn' × Value)} {vls : List Value} {ns : List CN} {tr : List (Int × Int)} {vs : List (List Int)} (h : PgC B w gA fA nA gc fc nc pg fl vls ns tr vs) : PgR w gA fA nA gc fc nc pg.g fl vls ns tr vs where
  pi := ⟨RdS.of_row h.g, RdS.of_row h.f, RdS.of_row h.n, h.vl, h.tl, fun v hv => by
    obtain ⟨j, hj, rfl⟩ := List.getElem_of_mem hv
    obtain ⟨l, hl⟩ : ∃ l, vs[j]? = some l := ⟨_, List.getElem?_eq_getElem (by rw [h.vn, ← h.vl]; exact hj)⟩
    obtain ⟨A, c, e⟩ := own_ex (h.vr j _ l (List.getElem?_eq_getElem hj) hl)
    exact ⟨A, _, c, e⟩, fun x hx => RdS.of_row (h.ps x hx), fun x hx => RdS.of_row (h.ks x hx)⟩
  vn := h.vn
  vr := fun j v l h1 h2 => RdS.of_row (h.vr j v l h1 h2)
end Go.Proofs.YtfaoiajhoifalaaGreatDoor
/-! Cmb -/
namespace Go.Proofs.YtfaoiajhoifalaaGreatDoor
open Go Go.RowKit Go.Maps
set_option linter.unusedVariables false
set_option linter.unusedSimpArgs false

/-- The answer of Parsed. -/
def ParsedA (l : List UInt8) (w : World) (e : Ending) (w' : World) : Prop :=
  Below w.heap.size w w' ∧ match readL l with
  | some pg => ∃ gv fv nv fl ns, e = .returned (.tuple #[.agg #[gv, fv, nv], .bool true]) ∧ PgM w.heap.size w' pg gv fv nv fl ns
  | none => e = .returned (.tuple #[.agg #[vNil, vNil, vNil], .bool false])

set_option maxHeartbeats 4000000 in
set_option maxRecDepth 100000 in
theorem parsedA_any (s : ByteArray) (hs : s.size ≤ maxLen) (w : World) (hE : Env w ∧ EnvY w) :
    Calls Tryz.prog 8 #[.string s] w (ParsedA s.data.toList w) := by
  have hb0 : Below w.heap.size w (w.alloc (.cells #[vNil, vNil, vNil] tPg)) := (Below.refl _ _).alloc (Nat.le_refl _) _
  have hL := lex_any s hs _ (hE.1.of hb0)
  have b0 := Blk.new w tPg #[vNil, vNil, vNil]
  have e1 : (w.alloc (.cells #[vNil, vNil, vNil] tPg)).heap.size = w.heap.size + 1 := by simp
  have hlx := @lex_toks s.data.toList
  have hpe := parse_e (lexL s.data.toList).1
  have hpo := parse_ends (lexL s.data.toList).1
  obtain ⟨R, hR⟩ : ∃ R : Ending → World → Prop, ParsedA s.data.toList w = R := ⟨_, rfl⟩
  rw [hR]
  obtain ⟨⟨toks, no, at_⟩, hx⟩ : ∃ x, lexL s.data.toList = x := ⟨_, rfl⟩
  rw [hx] at hL hlx hpe hpo
  simp only at hlx hpe hpo
  have HPO : Hid (∀ e w', (Below w.heap.size w w' ∧ match (if no ≠ 0 then none else match parseL toks with | .ok pg _ => some pg | _ => none) with
      | some pg => ∃ gv fv nv fl ns, e = .returned (.tuple #[.agg #[gv, fv, nv], .bool true]) ∧ PgM w.heap.size w' pg gv fv nv fl ns
      | none => e = .returned (.tuple #[.agg #[vNil, vNil, vNil], .bool false])) → R e w') := Lib.hid fun e w' h => by
    rw [← hR]
    unfold ParsedA readL
    rw [hx]
    exact h
  clear hR hx
  have HE := Lib.hid hE
  have HB0 := Lib.hid hb0
  have HX := Lib.hid (And.intro hpe hpo)
  clear hE hb0 hpe hpo
  go_enter Tryz.func8, Tryz.ntmps8
  go_wp2_with fail
  refine hL.mono ?_
  rintro e w1 hp
  clear hL
  obtain ⟨A, c, rfl, hr, hlc, hcm, hA0, hb⟩ := lexp_usec hp
  simp only at hr hlc ⊢
  rw [e1] at hb
  have b1 : Blk w1 w.heap.size tPg #[vNil, vNil, vNil] := (hb.block _ (by omega)).trans b0
  have hz1 : w.heap.size < w1.heap.size := b1.lt
  have hbw := HB0.out.trans (hb.mono (Nat.le_succ _))
  have b2 := b1.alloc (.cells #[.int .i64 no, .int .i64 at_] tD)
  have d2 := Blk.new w1 tD #[.int .i64 no, .int .i64 at_]
  have hbw2 := hbw.alloc hbw.size (.cells #[.int .i64 no, .int .i64 at_] tD)
  have B2 := Lib.hid b2
  have D2 := Lib.hid d2
  have HW2 := Lib.hid hbw2
  have HR1 := Lib.hid hr
  clear hp hb hr b0 b1
  by_cases h0 : no = 0
  · obtain ⟨hzl, hcnt, htv⟩ := hlx h0
    subst h0
    have htx : ∀ t ∈ toks, t.s.length ≤ 140737488355328 := fun t ht => by have := (htv t ht).sl; omega
    have HCN := Lib.hid (And.intro hcnt (And.intro hzl (And.intro htx (And.intro hlc (And.intro hcm hA0)))))
    clear hlx hcnt htv hbw hbw2 hcm hlc hA0 htx hzl e1
    go_upto_region 4 with (fail)
    have hr2 : RdT (w1.alloc (.cells #[.int .i64 0, .int .i64 at_] tD)) (w1.alloc (.cells #[.int .i64 0, .int .i64 at_] tD)).heap.size A toks := (HR1.out.below ((Below.refl _ _).alloc (Nat.le_refl _) _)).more (by simp)
    generalize w1.alloc (.cells #[.int .i64 0, .int .i64 at_] tD) = W2 at *
    have HR2 := Lib.hid hr2
    have hE2 := HE.out.2.below HW2.out (Nat.le_refl _)
    have HPA := Lib.hid (parse_any toks toks.length c rfl (by have := HCN.out.1; have := HCN.out.2.1; omega) HCN.out.2.2.2.1 HCN.out.2.2.2.2.1 A HCN.out.2.2.2.2.2 W2 HR2.out HCN.out.2.2.1 hE2)
    clear hr2 hE2 b2 d2
    go_wp2_with fail
    refine HPA.out.mono ?_
    rintro e w3 ⟨hb3, hp3⟩
    obtain ⟨gA, gn, gc, fA, fn, fc, uA, un, uc, n, p, rfl, hfin⟩ : ∃ gA gn gc fA fn fc uA un uc n p, e = .returned (.tuple #[.agg #[.slice gA gn gc, .slice fA fn fc, .slice uA un uc], .agg #[.int .i64 n, .int .i64 p]]) ∧
        ∀ w' : World, (∀ i, W2.heap.size ≤ i → i < w3.heap.size → w'.heap[i]? = w3.heap[i]?) →
          match (match parseL toks with | .ok pg _ => some pg | _ => none) with
          | some pg => ∃ gv fv nv fl ns, Ending.returned (.tuple #[.agg #[.slice gA gn gc, .slice fA fn fc, .slice uA un uc], .bool (n == 0)]) = .returned (.tuple #[.agg #[gv, fv, nv], .bool true]) ∧ PgM w.heap.size w' pg gv fv nv fl ns
          | none => Ending.returned (.tuple #[.agg #[.slice gA gn gc, .slice fA fn fc, .slice uA un uc], .bool (n == 0)]) = .returned (.tuple #[.agg #[vNil, vNil, vNil], .bool false]) := by
      have hx1 := HX.out.1
      have hx2 := HX.out.2
      have hsz := HW2.out.size
      cases hP : parseL toks with
      | out => exact absurd hP hx2
      | er n p =>
        rw [hP] at hp3
        refine ⟨none, 0, 0, none, 0, 0, none, 0, 0, n, p, hp3, fun w' hk => ?_⟩
        have hn : (n == 0) = false := by simpa using hx1 n p hP
        simp only [hn]
      | ok pg st =>
        rw [hP] at hp3
        obtain ⟨gv, fv, nv, fl, ns, rfl, hM⟩ := hp3
        obtain ⟨gA, gc, rfl⟩ := shape_row hM.gs
        obtain ⟨fA, fc, rfl⟩ := shape_row hM.fs
        obtain ⟨uA, uc, rfl⟩ := shape_row hM.rows
        exact ⟨gA, _, gc, fA, _, fc, uA, _, uc, 0, 0, rfl, fun w' hk => ⟨_, _, _, fl, ns, rfl, (hM.keep hk).down hsz⟩⟩
    have HFN := Lib.hid hfin
    have b3 : Blk w3 w.heap.size tPg #[vNil, vNil, vNil] := (hb3.block _ B2.out.lt).trans B2.out
    have HB3 := Lib.hid (HW2.out.trans (hb3.mono HW2.out.size))
    have HZ3 := Lib.hid hb3.size
    clear hp3 hb3 hfin HPA HR2 HCN HX
    have B3 := Lib.hid b3
    clear b3
    go_upto_region 5 with (fail)
    have bA : Blk ((w3.alloc (.cells #[.slice gA gn gc, .slice fA fn fc, .slice uA un uc] tPg)).alloc (.cells #[.int .i64 n, .int .i64 p] tD)) w3.heap.size tPg #[.slice gA gn gc, .slice fA fn fc, .slice uA un uc] := (Blk.new w3 tPg _).alloc _
    have bD := Blk.new (w3.alloc (.cells #[.slice gA gn gc, .slice fA fn fc, .slice uA un uc] tPg)) tD #[.int .i64 n, .int .i64 p]
    have eD : (w3.alloc (.cells #[.slice gA gn gc, .slice fA fn fc, .slice uA un uc] tPg)).heap.size = w3.heap.size + 1 := by simp
    rw [eD] at bD
    have bR := (B3.out.alloc (.cells #[.slice gA gn gc, .slice fA fn fc, .slice uA un uc] tPg)).alloc (.cells #[.int .i64 n, .int .i64 p] tD)
    have hbl := (HB3.out.alloc HB3.out.size (.cells #[.slice gA gn gc, .slice fA fn fc, .slice uA un uc] tPg)).alloc (by have := HB3.out.size; simp; omega) (.cells #[.int .i64 n, .int .i64 p] tD)
    have hkp : ∀ i, i < w3.heap.size → ((w3.alloc (.cells #[.slice gA gn gc, .slice fA fn fc, .slice uA un uc] tPg)).alloc (.cells #[.int .i64 n, .int .i64 p] tD)).heap[i]? = w3.heap[i]? := fun i hi => by rw [Below.heap_alloc _ _ _ (by simp; omega), Below.heap_alloc _ _ _ (by omega)]
    clear eD
    generalize (w3.alloc (.cells #[.slice gA gn gc, .slice fA fn fc, .slice uA un uc] tPg)).alloc (.cells #[.int .i64 n, .int .i64 p] tD) = W4 at *
    have a0 : W4.cell? ⟨w3.heap.size, 0, none⟩ = some (.slice gA gn gc) := bA.cell 0
    have a1 : W4.cell? ⟨w3.heap.size, 1, none⟩ = some (.slice fA fn fc) := bA.cell 1
    have a2 : W4.cell? ⟨w3.heap.size, 2, none⟩ = some (.slice uA un uc) := bA.cell 2
    have al := bA.lt
    have d0 : W4.cell? ⟨w3.heap.size + 1, 0, none⟩ = some (.int .i64 n) := bD.cell 0
    have dl := bD.lt
    have c0 : W4.cell? ⟨w.heap.size, 0, none⟩ = some vNil := bR.cell 0
    have c1 : W4.cell? ⟨w.heap.size, 1, none⟩ = some vNil := bR.cell 1
    have c2 : W4.cell? ⟨w.heap.size, 2, none⟩ = some vNil := bR.cell 2
    have f0 := bR.frozen 0
    have f1 := bR.frozen 1
    have f2 := bR.frozen 2
    have rl := bR.lt
    have hne : w.heap.size ≠ w3.heap.size := by have := B3.out.lt; omega
    have hne1 : w.heap.size ≠ w3.heap.size + 1 := by have := B3.out.lt; omega
    have HR4 := Lib.hid (And.intro bR (And.intro hbl hkp))
    clear bA bD bR hbl hkp
    go_region
    go_wp2_with fail
    have r0 : Blk (((W4.setCell ⟨w.heap.size, 0, none⟩ (.slice gA gn gc)).setCell ⟨w.heap.size, 1, none⟩ (.slice fA fn fc)).setCell ⟨w.heap.size, 2, none⟩ (.slice uA un uc)) w.heap.size tPg #[.slice gA gn gc, .slice fA fn fc, .slice uA un uc] := ((HR4.out.1.set_ 0 _).set_ 1 _).set_ 2 _
    have hbl : Below w.heap.size w (((W4.setCell ⟨w.heap.size, 0, none⟩ (.slice gA gn gc)).setCell ⟨w.heap.size, 1, none⟩ (.slice fA fn fc)).setCell ⟨w.heap.size, 2, none⟩ (.slice uA un uc)) := ((HR4.out.2.1.setCell (p := ⟨w.heap.size, 0, none⟩) (by simp) _).setCell (p := ⟨w.heap.size, 1, none⟩) (by simp) _).setCell (p := ⟨w.heap.size, 2, none⟩) (by simp) _
    have hkp : ∀ i, W2.heap.size ≤ i → i < w3.heap.size → (((W4.setCell ⟨w.heap.size, 0, none⟩ (.slice gA gn gc)).setCell ⟨w.heap.size, 1, none⟩ (.slice fA fn fc)).setCell ⟨w.heap.size, 2, none⟩ (.slice uA un uc)).heap[i]? = w3.heap[i]? := fun i h1 h2 => by
      have hlt := B2.out.lt
      have hc : ∀ (W : World) (o : Nat) (x : Value), (W.setCell ⟨w.heap.size, o, none⟩ x).heap[i]? = W.heap[i]? := fun W o x => Below.heap_setCell _ _ _ _ (by simp; omega)
      rw [hc, hc, hc]
      exact HR4.out.2.2 i h2
    have HEN := Lib.hid (And.intro r0 (And.intro hbl (HFN.out ((((W4.setCell ⟨w.heap.size, 0, none⟩ (.slice gA gn gc)).setCell ⟨w.heap.size, 1, none⟩ (.slice fA fn fc)).setCell ⟨w.heap.size, 2, none⟩ (.slice uA un uc)).drew) hkp)))
    clear r0 hbl hkp
    (try simp only [Exit.inBlock, Exit.then])
    refine bodyPost_ret (results_parsed rfl _ _ rfl HEN.out.1) rfl ?_
    refine HPO.out _ _ ?_
    rw [if_neg (by simp)]
    exact ⟨HEN.out.2.1.drew, HEN.out.2.2⟩
  · have hd : (no != 0) = true := by simpa using h0
    have H0 := Lib.hid h0
    clear h0 hlx hbw hbw2 hcm hlc e1
    go_upto_region 3 with (fail)
    generalize w1.alloc (.cells #[.int .i64 no, .int .i64 at_] tD) = W2 at *
    have c0 : W2.cell? ⟨w.heap.size, 0, none⟩ = some vNil := b2.cell 0
    have c1 : W2.cell? ⟨w.heap.size, 1, none⟩ = some vNil := b2.cell 1
    have c2 : W2.cell? ⟨w.heap.size, 2, none⟩ = some vNil := b2.cell 2
    have f0 := b2.frozen 0
    have f1 := b2.frozen 1
    have f2 := b2.frozen 2
    have hsz := b2.lt
    have r0 : Blk (((W2.setCell ⟨w.heap.size, 0, none⟩ vNil).setCell ⟨w.heap.size, 1, none⟩ vNil).setCell ⟨w.heap.size, 2, none⟩ vNil) w.heap.size tPg #[vNil, vNil, vNil] := ((b2.set_ 0 vNil).set_ 1 vNil).set_ 2 vNil
    have hbl : Below w.heap.size w (((W2.setCell ⟨w.heap.size, 0, none⟩ vNil).setCell ⟨w.heap.size, 1, none⟩ vNil).setCell ⟨w.heap.size, 2, none⟩ vNil) := ((HW2.out.setCell (p := ⟨w.heap.size, 0, none⟩) (by simp) _).setCell (p := ⟨w.heap.size, 1, none⟩) (by simp) _).setCell (p := ⟨w.heap.size, 2, none⟩) (by simp) _
    have HF := Lib.hid (And.intro r0 hbl)
    clear b2 d2 r0 hbl
    go_wp2_with fail
    (try simp only [Exit.inBlock, Exit.then])
    refine bodyPost_ret (results_parsed rfl _ _ rfl HF.out.1) rfl ?_
    refine HPO.out _ _ ?_
    rw [if_pos H0.out]
    exact ⟨HF.out.2, rfl⟩
theorem ok_trw : ∀ F : Fo, F.ok → TrW F := by
  intro F
  induction F with
  | nil => intro _; trivial
  | cons h k r ih1 ih2 =>
    intro ⟨hn, hk, hr⟩
    refine ⟨⟨by have := hn.sl; omega, fun h4 => ?_, fun h5 => ?_, fun h15 => ?_⟩, ih1 hk, ih2 hr⟩
    · have := hn.ar
      rw [h4] at this
      simpa [arity] using this
    · have := hn.ar
      rw [h5] at this
      simpa [arity] using this
    · have := hn.ar
      rcases h15 with h | h
      · rw [h] at this
        simp [arity] at this
        omega
      · rw [h] at this
        simp [arity] at this
        omega
theorem flat_kidsl (F : Fo) : ∀ (c : Nat), ∀ n ∈ F.flat c, n.kids.length ≤ F.size := by
  induction F with
  | nil => intro c n h; cases h
  | cons h k r ih1 ih2 =>
    intro c n hn
    simp only [Fo.flat, List.mem_append, List.mem_cons] at hn
    simp only [Fo.size]
    rcases hn with hn | rfl | hn
    · have := ih1 _ n hn; omega
    · have h1 := len_roots k c
      have h2 := len_size k
      simp only
      omega
    · have := ih2 _ n hn; omega
theorem flat_sl (F : Fo) (hF : F.ok) : ∀ (c : Nat), ∀ n ∈ F.flat c, n.h.s.length ≤ 24 := by
  induction F with
  | nil => intro c n h; cases h
  | cons h k r ih1 ih2 =>
    intro c n hn
    simp only [Fo.flat, List.mem_append, List.mem_cons] at hn
    rcases hn with hn | rfl | hn
    · exact ih1 hF.2.1 _ n hn
    · exact hF.1.sl
    · exact ih2 hF.2.2 _ n hn
theorem ckIn_parsed {B : Nat} {w : World} {pg : Pg} {gA fA uA : Option Addr} {gc fc uc : Nat} {fl : List (Fn' × Value)} {ns : List NV} {K : Nat} {s : St} (h : PgM B w pg (.slice gA pg.g.length gc) (.slice fA fl.length fc) (.slice uA ns.length uc) fl ns) (hp : PgOk TkV K pg s) (hK : K ≤ 500000) :
    CkIn pg pg.g fl (ns.map toCN) (ns.map fun x => (x.h.ty, 0)) := by
  have hok : pg.t.ok := hp.bl.ok (fun _ h => h)
  have hc := hp.ln
  have hcn : pg.g.length + pg.f.length + (pg.f.map fun f => f.ps.length).sum ≤ K := by unfold cnt at hc; omega
  have hsz := hp.c
  have hle := hp.le
  refine ⟨rfl, h.fe, by rw [toCN_nd]; exact h.nl, hp.rt, ok_trw _ hok, ?_, by omega, ⟨by omega, fun g hg => ⟨by have := ((hp.gl g hg).nm).sl (fun _ h => h); omega, by have := (hp.gl g hg).n; omega⟩⟩, ⟨by omega, fun f hf => ⟨by have := ((hp.fn f hf).nm).sl (fun _ h => h); omega, ?_, fun p hpp => by have := ((hp.fn f hf).ps p hpp).2.sl (fun _ h => h); omega⟩⟩, ?_⟩
  · intro i x t hx ht _
    rw [List.getElem?_map] at hx ht
    cases hn : ns[i]? with
    | none => rw [hn] at hx; cases hx
    | some y =>
      rw [hn] at hx ht
      simp only [Option.map_some, Option.some.injEq] at hx ht
      subst hx ht
      rfl
  · have hm : ∀ (l : List Fn'), f ∈ l → f.ps.length ≤ (l.map fun f => f.ps.length).sum := by
      intro l
      induction l with
      | nil => intro h; cases h
      | cons y l ih =>
        intro hy
        simp only [List.map_cons, List.sum_cons]
        rcases List.mem_cons.1 hy with rfl | hy
        · omega
        · have := ih hy; omega
    have := hm pg.f hf
    omega
  · intro y hy
    obtain ⟨x, hx, rfl⟩ := List.mem_map.1 hy
    have hm := List.mem_map_of_mem (f := NV.nd) hx
    rw [h.nl] at hm
    have h1 := flat_kidsl _ _ _ hm
    have h2 := flat_sl _ hok _ _ hm
    exact ⟨by have e : x.nd.h.s.length ≤ 24 := h2; simp only [NV.nd] at e; simp only [toCN]; omega, by simp only [NV.nd] at h1; simp only [toCN]; omega⟩
end Go.Proofs.YtfaoiajhoifalaaGreatDoor
/-! Cmc -/
namespace Go.Proofs.YtfaoiajhoifalaaGreatDoor
open Go Go.RowKit Go.Maps
set_option linter.unusedVariables false
set_option linter.unusedSimpArgs false

/-- At all places but i the same. -/
def But (i : Nat) (a b : List (Int × Int)) : Prop := b.length = a.length ∧ ∀ j, j ≠ i → b[j]? = a[j]?
theorem But.refl (i : Nat) (a : List (Int × Int)) : But i a a := ⟨rfl, fun _ _ => rfl⟩
theorem But.set (i : Nat) (a b : List (Int × Int)) (h : But i a b) (x : Int × Int) : But i a (b.set i x) := ⟨by rw [List.length_set]; exact h.1, fun j hj => by rw [List.getElem?_set_ne (fun e => hj e.symm)]; exact h.2 j hj⟩
theorem but_ty {i : Nat} {σ τ : Cs} (h : But i σ.tr τ.tr) (t : Int) : But i σ.tr (setTy τ i t).tr := h.set i _ _ _
theorem but_rf {i : Nat} {σ τ : Cs} (h : But i σ.tr τ.tr) (t : Int) : But i σ.tr (setRf τ i t).tr := h.set i _ _ _
theorem rule_tr {K : Kn} {h : Hd} {ks : List Nat} {i : Nat} {σ τ : Cs} (e : ruleM K h ks i σ = .ok τ) : But i σ.tr τ.tr := by
  unfold ruleM at e
  split at e
  · unfold exprM at e
    split at e
    · obtain ⟨m, -, e⟩ := bind_ok_iff e; cases e; exact but_ty (but_rf (But.refl _ _) _) _
    split at e
    · obtain ⟨m, -, e⟩ := bind_ok_iff e; obtain ⟨_, -, e⟩ := bind_ok_iff e; cases e; exact but_ty (but_rf (But.refl _ _) _) _
    split at e
    · obtain ⟨m, -, e⟩ := bind_ok_iff e; cases e; exact but_ty (But.refl _ _) _
    split at e
    · obtain ⟨m, -, e⟩ := bind_ok_iff e; cases e; exact but_ty (But.refl _ _) _
    split at e
    · obtain ⟨m, -, e⟩ := bind_ok_iff e; cases e; exact but_ty (But.refl _ _) _
    split at e
    · obtain ⟨m, -, e⟩ := bind_ok_iff e; obtain ⟨_, -, e⟩ := bind_ok_iff e; obtain ⟨_, -, e⟩ := bind_ok_iff e; cases e; exact but_ty (but_rf (But.refl _ _) _) _
    split at e
    · cases e; exact but_ty (But.refl _ _) _
    · cases e; exact But.refl _ _
  · unfold stmtM at e
    split at e
    · obtain ⟨_, -, e⟩ := bind_ok_iff e
      obtain ⟨_, -, e⟩ := bind_ok_iff e
      obtain ⟨_, -, e⟩ := bind_ok_iff e
      cases e
      exact but_rf (But.refl _ _) _
    split at e
    · obtain ⟨m, -, e⟩ := bind_ok_iff e; obtain ⟨_, -, e⟩ := bind_ok_iff e; cases e; exact but_rf (But.refl _ _) _
    split at e
    · obtain ⟨m, -, e⟩ := bind_ok_iff e; obtain ⟨_, -, e⟩ := bind_ok_iff e; cases e; exact but_rf (But.refl _ _) _
    split at e
    · obtain ⟨m, -, e⟩ := bind_ok_iff e; cases e; exact But.refl _ _
    split at e
    · obtain ⟨m, -, e⟩ := bind_ok_iff e; cases e; exact But.refl _ _
    split at e
    · obtain ⟨m, -, e⟩ := bind_ok_iff e; obtain ⟨_, -, e⟩ := bind_ok_iff e; cases e; exact But.refl _ _
    split at e
    · obtain ⟨m, -, e⟩ := bind_ok_iff e; cases e; exact But.refl _ _
    · cases e; exact But.refl _ _
theorem rule_num {K : Kn} {h : Hd} {ks : List Nat} {i : Nat} {σ τ : Cs} (ho : h.op = 1) (e : ruleM K h ks i σ = .ok τ) : τ.tr = σ.tr := by
  simp [ruleM, exprM, ho] at e
  rw [e]
/-- What a visit of trees from c on keeps: places outside, and numbers. -/
structure Kept (F : Fo) (c : Nat) (a b : List (Int × Int)) : Prop where
  ln : b.length = a.length
  out : ∀ j, j < c ∨ c + F.size ≤ j → b[j]? = a[j]?
  num : ∀ j n, (F.flat c)[j]? = some n → n.h.op = 1 → b[c + j]? = a[c + j]?
theorem vis_kept (K : Kn) (F : Fo) : ∀ (c : Nat) (σ τ : Cs), visM K F c σ = .ok τ → Kept F c σ.tr τ.tr := by
  induction F with
  | nil => intro c σ τ e; simp only [visM] at e; cases e; exact ⟨rfl, fun _ _ => rfl, fun j n hn => by simp [Fo.flat] at hn⟩
  | cons h k r ih1 ih2 =>
    intro c σ τ e
    simp only [visM] at e
    obtain ⟨ρ, e1, e⟩ := bind_ok_iff e
    have hr := ih2 _ _ _ e
    have hk : (∃ κ : Cs, Kept k c σ.tr κ.tr ∧ But (c + k.size) κ.tr ρ.tr ∧ (h.op = 1 → ρ.tr = κ.tr)) := by
      split at e1
      · obtain ⟨κ, e3, e2⟩ := bind_ok_iff e1
        cases e2
        have hk1 := ih1 _ _ _ e3
        exact ⟨κ, hk1, But.refl _ _, fun _ => rfl⟩
      · obtain ⟨κ, e3, e2⟩ := bind_ok_iff e1
        exact ⟨κ, ih1 _ _ _ e3, rule_tr e2, fun ho => rule_num ho e2⟩
    obtain ⟨κ, h1, h2, h3⟩ := hk
    have hfl := Fo.flat_length k c
    refine ⟨by rw [hr.ln, h2.1, h1.ln], ?_, ?_⟩
    · intro j hj
      simp only [Fo.size] at hj
      rw [hr.out j (by omega), h2.2 j (by omega), h1.out j (by omega)]
    · intro j n hn ho
      simp only [Fo.flat] at hn
      by_cases hj : j < k.size
      · rw [List.getElem?_append_left (by omega)] at hn
        rw [hr.out _ (by omega), h2.2 _ (by omega)]
        exact h1.num j n hn ho
      · rw [List.getElem?_append_right (by omega), hfl] at hn
        by_cases hj2 : j = k.size
        · subst hj2
          rw [Nat.sub_self, List.getElem?_cons_zero] at hn
          obtain rfl : (⟨h, k.roots c⟩ : Nd) = n := Option.some.inj hn
          rw [hr.out _ (by omega), h3 ho]
          exact h1.out _ (by omega)
        · obtain ⟨m, rfl⟩ : ∃ m, j = k.size + 1 + m := ⟨j - (k.size + 1), by omega⟩
          rw [show k.size + 1 + m - k.size = m + 1 by omega, List.getElem?_cons_succ] at hn
          have e9 := hr.num m n hn ho
          rw [show c + k.size + 1 + m = c + (k.size + 1 + m) by omega] at e9
          rw [e9, h2.2 _ (by omega), h1.out _ (by omega)]
theorem bods_kept (np : List Nat) (G : Scp) : ∀ (fs : List Fn') (F : Fo) (c : Nat) (a b : List (Int × Int)) (vs : List (List Int)), bodsM np G fs F c a = .ok (b, vs) → (∀ n ∈ F.flat c, True) → Kept F c a b := by
  intro fs
  induction fs with
  | nil => intro F c a b vs e _; simp only [bodsM] at e; cases e; exact ⟨rfl, fun _ _ => rfl, fun _ _ _ _ => rfl⟩
  | cons f l ih =>
    intro F c a b vs e _
    cases F with
    | nil => simp only [bodsM] at e; cases e; exact ⟨rfl, fun _ _ => rfl, fun _ _ _ _ => rfl⟩
    | cons h k r =>
      rw [bods_step] at e
      obtain ⟨x, e1, e⟩ := bind_ok_iff e
      obtain ⟨y, e2, e⟩ := bind_ok_iff e
      cases e
      unfold bodyM at e1
      obtain ⟨lb, -, e1⟩ := bind_ok_iff e1
      obtain ⟨τ, e3, e1⟩ := bind_ok_iff e1
      cases e1
      have h1 := vis_kept _ _ _ _ _ e3
      have hr := ih r _ _ _ _ (show bodsM np G l r (c + k.size + 1) τ.tr = .ok (y.1, y.2) from e2) (fun _ _ => trivial)
      have hfl := Fo.flat_length k c
      refine ⟨by rw [hr.ln]; exact h1.ln, ?_, ?_⟩
      · intro j hj
        simp only [Fo.size] at hj
        rw [hr.out j (by omega), h1.out j (by omega)]
      · intro j n hn ho
        simp only [Fo.flat] at hn
        by_cases hj : j < k.size
        · rw [List.getElem?_append_left (by omega)] at hn
          rw [hr.out _ (by omega)]
          exact h1.num j n hn ho
        · rw [List.getElem?_append_right (by omega), hfl] at hn
          by_cases hj2 : j = k.size
          · subst hj2
            rw [hr.out _ (by omega)]
            exact h1.out _ (by omega)
          · obtain ⟨m, rfl⟩ : ∃ m, j = k.size + 1 + m := ⟨j - (k.size + 1), by omega⟩
            rw [show k.size + 1 + m - k.size = m + 1 by omega, List.getElem?_cons_succ] at hn
            have e9 := hr.num m n hn ho
            rw [show c + k.size + 1 + m = c + (k.size + 1 + m) by omega] at e9
            rw [e9]
            exact h1.out _ (by omega)
theorem check_un {pg : Pg} {tr : List (Int × Int)} {vs : List (List Int)} (h : checkM pg = .ok (tr, vs)) : ∃ s G, globM pg.g 0 0 [] = .ok s ∧ funM pg.f 0 s = .ok G ∧ bodsM (pg.f.map fun f => f.ps.length) G pg.f pg.t 0 (tr0 (pg.t.flat 0)) = .ok (tr, vs) ∧ mainM G pg.f = .ok () := by
  unfold checkM at h
  obtain ⟨s, h1, h⟩ := bind_ok_iff h
  obtain ⟨G, h2, h⟩ := bind_ok_iff h
  obtain ⟨y, h3, h⟩ := bind_ok_iff h
  obtain ⟨u, h4, h⟩ := bind_ok_iff h
  cases h
  exact ⟨s, G, h1, h2, h3, h4⟩
/-- A number's Type, checked. -/
theorem check_num {pg : Pg} {tr : List (Int × Int)} {vs : List (List Int)} (h : checkM pg = .ok (tr, vs)) (i : Nat) (n : Nd) (hn : (pg.t.flat 0)[i]? = some n) (ho : n.h.op = 1) : tr[i]? = some (n.h.ty, 0) := by
  obtain ⟨s, G, -, -, h3, -⟩ := check_un h
  have hk := bods_kept _ _ _ _ _ _ _ _ h3 (fun _ _ => trivial)
  have e := hk.num i n hn ho
  rw [Nat.zero_add] at e
  rw [e]
  unfold tr0
  rw [List.getElem?_map, hn]
  simp [ho]
/-- What was checked may be checked again. -/
theorem ckIn_again {B : Nat} {w : World} {gA fA nA : Option Addr} {gc fc nc : Nat} {pg : Pg} {gs0 : List Gl} {fl fl0 : List (Fn' × Value)} {vls : List Value} {ns ns0 : List CN} {tr tr1 : List (Int × Int)} {vs : List (List Int)} (h0 : CkIn pg gs0 fl0 ns0 tr1) (h : PgC B w gA fA nA gc fc nc pg fl vls ns tr vs) (hc : checkM pg = .ok (tr, vs)) : CkIn pg pg.g fl ns tr := by
  refine ⟨rfl, h.fe, h.ne, h0.rt, h0.tw, ?_, h0.sz, by rw [← h0.g]; exact h0.gl, h0.fn, ?_⟩
  · intro i x t hx ht ho
    have hn : (pg.t.flat 0)[i]? = some x.nd := by rw [← h.ne, List.getElem?_map, hx]; rfl
    have e := check_num hc i x.nd hn ho
    rw [ht] at e
    cases e
    rfl
  · intro x hx
    have hm := List.mem_map_of_mem (f := CN.nd) hx
    rw [h.ne, ← h0.n] at hm
    obtain ⟨y, hy, hyx⟩ := List.mem_map.1 hm
    have h9 := h0.nn y hy
    have e1 := congrArg Nd.h hyx
    have e2 := congrArg Nd.kids hyx
    simp only [CN.nd] at e1 e2
    rw [e1, e2] at h9
    exact h9
end Go.Proofs.YtfaoiajhoifalaaGreatDoor
