/-
  Layer parse: where a walk stands; the small calls told so.
-/
import Derived.Test.YtfaoiajhoifalaaGreatDoorParb
namespace Go.Proofs.YtfaoiajhoifalaaGreatDoor
open Go.RowKit
set_option linter.unusedVariables false
set_option linter.unusedSimpArgs false

/-- A walk that began in w (nodes' slice v) stands in W. -/
structure Cur (X : Rdr) (w : World) (v : Value) (W : World) (s : St) (ns : List NV) (u : Value) : Prop where
  at_ : At X W s ns u
  kp : Kp X w v W u
  low : Below X.base w W
theorem Cur.start {X : Rdr} {w : World} {s : St} {ns : List NV} {v : Value} (h : At X w s ns v) : Cur X w v w s ns v := ⟨h, Kp.refl _ _ _, Below.refl _ _⟩
theorem Cur.go {X : Rdr} {w W W' : World} {v u : Value} {s : St} {ns : List NV} (h : Cur X w v W s ns u) (hb : Below W.heap.size W W') : Cur X w v W' s ns u := ⟨h.at_.below hb, h.kp.trans (.of hb), h.low.trans (h.at_.down hb)⟩
theorem Cur.step {X : Rdr} {w W W' : World} {v u u' : Value} {s s' : St} {ns ns' : List NV} (h : Cur X w v W s ns u) (ha : At X W' s' ns' u') (hk : Kp X W u W' u') : Cur X w v W' s' ns' u' := ⟨ha, h.kp.trans hk, h.low.trans (hk.below h.at_)⟩
theorem Cur.alloc {X : Rdr} {w W : World} {v u : Value} {s : St} {ns : List NV} (h : Cur X w v W s ns u) (o : Obj) : Cur X w v (W.alloc o) s ns u := h.go ((Below.refl _ W).alloc (Nat.le_refl _) o)

/-- A block that is a walk's own. -/
structure Loc (X : Rdr) (W : World) (u : Value) (j : Nat) (t : TypeId) (cs : Array Value) : Prop where
  blk : Blk W j t cs
  neb : j ≠ X.b
  neo : some j ≠ u.ownBlock
  base : X.base ≤ j
theorem Loc.kept {X : Rdr} {W W' : World} {u u' : Value} {j : Nat} {t : TypeId} {cs : Array Value} (h : Loc X W u j t cs) (hk : Kp X W u W' u') : Loc X W' u' j t cs where
  blk := (hk.block j h.blk.lt h.neb h.neo).trans h.blk
  neb := h.neb
  neo := by
    rcases hk.own with e | ⟨g, e, hg⟩
    · rw [e]; exact h.neo
    · rw [e]; intro e'; cases e'; have := h.blk.lt; omega
  base := h.base
theorem Loc.go {X : Rdr} {W W' : World} {u : Value} {j : Nat} {t : TypeId} {cs : Array Value} (h : Loc X W u j t cs) (hb : Below W.heap.size W W') : Loc X W' u j t cs := h.kept (.of hb)
theorem Loc.alloc {X : Rdr} {W : World} {u : Value} {j : Nat} {t : TypeId} {cs : Array Value} (h : Loc X W u j t cs) (o : Obj) : Loc X (W.alloc o) u j t cs := h.go ((Below.refl _ W).alloc (Nat.le_refl _) o)
theorem Cur.new {X : Rdr} {w W : World} {v u : Value} {s : St} {ns : List NV} (h : Cur X w v W s ns u) (t : TypeId) (cs : Array Value) : Loc X (W.alloc (.cells cs t)) u W.heap.size t cs where
  blk := Blk.new W t cs
  neb := by have := h.at_.blk.lt; omega
  neo := h.at_.own_lt (Nat.le_refl _)
  base := h.at_.baselt
theorem Cur.set_ {X : Rdr} {w W : World} {v u : Value} {s : St} {ns : List NV} {j : Nat} {t : TypeId} {cs : Array Value} (h : Cur X w v W s ns u) (hl : Loc X W u j t cs) (hw : w.heap.size ≤ j) (ht : t ≠ tR ∧ t ≠ tI) (o : Nat) (x : Value) : Cur X w v (W.setCell ⟨j, o, none⟩ x) s ns u where
  at_ := h.at_.set_ hl.blk ht hl.base hl.neo o x
  kp := h.kp.down ((Below.refl _ _).setCell (p := ⟨j, o, none⟩) hw x)
  low := h.low.trans ((Below.refl _ _).setCell (p := ⟨j, o, none⟩) hl.base x)
theorem Loc.set_ {X : Rdr} {W : World} {u : Value} {j : Nat} {t : TypeId} {cs : Array Value} (h : Loc X W u j t cs) (o : Nat) (x : Value) : Loc X (W.setCell ⟨j, o, none⟩ x) u j t (cs.setIfInBounds o x) := ⟨h.blk.set_ o x, h.neb, h.neo, h.base⟩
theorem Loc.far {X : Rdr} {W : World} {u : Value} {i j : Nat} {t : TypeId} {cs : Array Value} (h : Loc X W u j t cs) (hne : j ≠ i) (o : Nat) (x : Value) : Loc X (W.setCell ⟨i, o, none⟩ x) u j t cs := ⟨h.blk.far hne x, h.neb, h.neo, h.base⟩

def tokA (t : Tok) : Array Value := #[.int .i64 t.k, .int .i64 t.p, .int .i64 t.n, .string (str t.s)]
theorem Blk.tok {W : World} {j : Nat} {T : TypeId} {t : Tok} (h : Blk W j T (tokA t)) :
    W.cell? ⟨j, 0, none⟩ = some (.int .i64 t.k) ∧ W.cell? ⟨j, 1, none⟩ = some (.int .i64 t.p) ∧ W.cell? ⟨j, 2, none⟩ = some (.int .i64 t.n) ∧ W.cell? ⟨j, 3, none⟩ = some (.string (str t.s)) ∧ j < W.heap.size :=
  ⟨h.cell 0, h.cell 1, h.cell 2, h.cell 3, h.lt⟩
theorem Blk.node {W : World} {j : Nat} {T : TypeId} {x : NV} (h : Blk W j T (cells8 x).toArray) :
    W.cell? ⟨j, 0, none⟩ = some (.int .i64 x.h.op) ∧ W.cell? ⟨j, 1, none⟩ = some (.int .i64 x.h.p) ∧ W.cell? ⟨j, 2, none⟩ = some (.int .i64 x.h.n) ∧ W.cell? ⟨j, 3, none⟩ = some (.string (str x.h.s)) ∧
    W.cell? ⟨j, 4, none⟩ = some (.int .i64 x.h.to) ∧ W.cell? ⟨j, 5, none⟩ = some x.v ∧ W.cell? ⟨j, 6, none⟩ = some (.int .i64 x.h.ty) ∧ W.cell? ⟨j, 7, none⟩ = some (.int .i64 0) ∧ j < W.heap.size ∧
    W.frozen? ⟨j, 5, none⟩ = false :=
  ⟨h.cell 0, h.cell 1, h.cell 2, h.cell 3, h.cell 4, h.cell 5, h.cell 6, h.cell 7, h.lt, h.frozen 5⟩

/-! what a drawn region reads of a walk's own block, in whatever world of the region's -/
section
variable {W : World} {b : Nat} {x y : Value}
theorem ss_alloc (h : W.cell? ⟨b, 1, none⟩ = some x ∧ W.cell? ⟨b, 3, none⟩ = some y ∧ b < W.heap.size) (o : Obj) : (W.alloc o).cell? ⟨b, 1, none⟩ = some x ∧ (W.alloc o).cell? ⟨b, 3, none⟩ = some y ∧ b < (W.alloc o).heap.size :=
  ⟨(World.cell?_alloc_lt W o _ h.2.2).trans h.1, (World.cell?_alloc_lt W o _ h.2.2).trans h.2.1, by simp; omega⟩
theorem ss_drew (h : W.cell? ⟨b, 1, none⟩ = some x ∧ W.cell? ⟨b, 3, none⟩ = some y ∧ b < W.heap.size) : W.drew.cell? ⟨b, 1, none⟩ = some x ∧ W.drew.cell? ⟨b, 3, none⟩ = some y ∧ b < W.drew.heap.size := h
theorem ss_set (h : W.cell? ⟨b, 1, none⟩ = some x ∧ W.cell? ⟨b, 3, none⟩ = some y ∧ b < W.heap.size) {i : Nat} (hne : i ≠ b) (o : Nat) (u : Value) : (W.setCell ⟨i, o, none⟩ u).cell? ⟨b, 1, none⟩ = some x ∧ (W.setCell ⟨i, o, none⟩ u).cell? ⟨b, 3, none⟩ = some y ∧ b < (W.setCell ⟨i, o, none⟩ u).heap.size :=
  ⟨(World.cell?_of_block (a := ⟨b, 1, none⟩) (Below.heap_setCell W ⟨i, o, none⟩ u b (Ne.symm hne))).trans h.1, (World.cell?_of_block (a := ⟨b, 3, none⟩) (Below.heap_setCell W ⟨i, o, none⟩ u b (Ne.symm hne))).trans h.2.1, by simpa using h.2.2⟩
end
theorem Blk.thawed {W : World} {j : Nat} {T : TypeId} {cs : Array Value} (h : Blk W j T cs) : ∀ i, W.frozen? ⟨j, i, none⟩ = false := h.frozen
def nz : NV := ⟨⟨0, 0, 0, [], 0, 0⟩, [], .slice none 0 0⟩
theorem Blk.zero8 {W : World} {j : Nat} {T : TypeId} (h : Blk W j T (cells8 nz).toArray) :
    (W.cell? ⟨j, 0, none⟩ = some (.int .i64 0) ∧ W.cell? ⟨j, 1, none⟩ = some (.int .i64 0) ∧ W.cell? ⟨j, 2, none⟩ = some (.int .i64 0) ∧ W.cell? ⟨j, 3, none⟩ = some (.string ⟨#[]⟩) ∧
    W.cell? ⟨j, 4, none⟩ = some (.int .i64 0) ∧ W.cell? ⟨j, 5, none⟩ = some (.slice none 0 0) ∧ W.cell? ⟨j, 6, none⟩ = some (.int .i64 0) ∧ W.cell? ⟨j, 7, none⟩ = some (.int .i64 0)) ∧
    (W.frozen? ⟨j, 0, none⟩ = false ∧ W.frozen? ⟨j, 1, none⟩ = false ∧ W.frozen? ⟨j, 2, none⟩ = false ∧ W.frozen? ⟨j, 3, none⟩ = false ∧ W.frozen? ⟨j, 4, none⟩ = false ∧ W.frozen? ⟨j, 5, none⟩ = false ∧ W.frozen? ⟨j, 6, none⟩ = false ∧ W.frozen? ⟨j, 7, none⟩ = false) ∧ j < W.heap.size :=
  ⟨⟨h.cell 0, h.cell 1, h.cell 2, h.cell 3, h.cell 4, h.cell 5, h.cell 6, h.cell 7⟩, ⟨h.frozen 0, h.frozen 1, h.frozen 2, h.frozen 3, h.frozen 4, h.frozen 5, h.frozen 6, h.frozen 7⟩, h.lt⟩
/-- The answer of a call that makes no node. -/
def RC {α : Type} (X : Rdr) (w : World) (v : Value) (W : World) (ns : List NV) (u : Value) (enc : α → Value) (R : Rs α) (e : Ending) (w' : World) : Prop :=
  match R with
  | .ok a s => e = .returned (enc a) ∧ Cur X w v w' s ns u ∧ Kp X W u w' u
  | .er no p => e = Pan no p ∧ Below X.base w w'
  | .out => False
theorem Cur.rc {α : Type} {X : Rdr} {w W W0 : World} {v u : Value} {s : St} {ns : List NV} {enc : α → Value} {R : Rs α} {e : Ending} {w' : World} (h : Cur X w v W s ns u) (hk : Kp X W0 u W u) (hr : R0 X W ns u enc R e w') : RC X w v W0 ns u enc R e w' := by
  cases R with
  | ok a s' => exact ⟨hr.1, h.step hr.2.1 hr.2.2, hk.trans hr.2.2⟩
  | er no p => exact ⟨hr.1, h.low.trans hr.2⟩
  | out => exact hr

section
variable {X : Rdr} {w W : World} {v u : Value} {s : St} {ns : List NV} (h : Cur X w v W s ns u)
include h
theorem c_peek : Calls Tryz.prog 79 #[rd X] W fun e w' => e = .returned (tokV (pk X.e s)) ∧ Cur X w v w' s ns u ∧ Kp X W u w' u :=
  (peek_any h.at_).mono fun e w' ⟨h1, h2⟩ => ⟨h1, h.go h2, .of h2⟩
theorem c_next (hne : s.l ≠ []) : Calls Tryz.prog 120 #[rd X] W fun e w' => e = .returned (tokV (pk X.e s)) ∧ Cur X w v w' s.nx ns u ∧ Kp X W u w' u :=
  (next_any h.at_ hne).mono fun e w' ⟨h1, h2, h3⟩ => ⟨h1, h.step h2 h3, h3⟩
theorem c_quoted (t : Tok) : Calls Tryz.prog 117 #[tokV t] W fun e w' => e = .returned (.string (str (q t))) ∧ Cur X w v w' s ns u ∧ Kp X W u w' u :=
  (quoted_any t W).mono fun e w' ⟨h1, h2⟩ => ⟨h1, h.go h2, .of h2⟩
theorem c_isName (t : Tok) : Calls Tryz.prog 121 #[tokV t] W fun e w' => e = .returned (.bool (isNm t)) ∧ Cur X w v w' s ns u ∧ Kp X W u w' u :=
  (isName_any t W).mono fun e w' ⟨h1, h2⟩ => ⟨h1, h.go h2, .of h2⟩
theorem c_is (l : List UInt8) : Calls Tryz.prog 82 #[rd X, .string (str l)] W fun e w' => e = .returned (.bool (isT X.e l s)) ∧ Cur X w v w' s ns u ∧ Kp X W u w' u :=
  (is_any h.at_ (str l) l (str_list l)).mono fun e w' ⟨h1, h2⟩ => ⟨h1, h.go h2, .of h2⟩
theorem c_accept (l : List UInt8) (hl : l ≠ []) : Calls Tryz.prog 142 #[rd X, .string (str l)] W fun e w' => e = .returned (.bool (isT X.e l s)) ∧ Cur X w v w' (acc X.e l s) ns u ∧ Kp X W u w' u :=
  (accept_any h.at_ (str l) l (str_list l) hl).mono fun e w' ⟨h1, h2, h3⟩ => ⟨h1, h.step h2 h3, h3⟩
theorem c_wrong (no : Int) : Calls Tryz.prog 119 #[rd X, .int .i64 no] W fun e w' => e = .returned (faultV no (pk X.e s).p) ∧ Below X.base w w' :=
  (wrong_any h.at_ no).mono fun e w' ⟨h1, h2⟩ => ⟨h1, h.low.trans (h.at_.down h2)⟩
theorem c_enter (d : Nat) (hd : d ≤ 1000) : Calls Tryz.prog 161 #[rd X, .int .i64 d] W (RC X w v W ns u (fun _ => .tuple #[]) (enterM X.e d s)) :=
  (enter_any h.at_ d hd).mono fun e w' hr => h.rc (Kp.refl _ _ _) hr
theorem c_name : Calls Tryz.prog 81 #[rd X] W (RC X w v W ns u tokV (nameM X.e s)) :=
  (name_any h.at_).mono fun e w' hr => h.rc (Kp.refl _ _ _) hr
theorem c_must {H : Nat} (hH : W.heap.size = H) (x : List UInt8) (hx : x ≠ []) : Calls Tryz.prog 122 #[rd X, .slice (some ⟨H, 0, none⟩) 1 1] (W.alloc (.cells #[.string (str x)] 9)) (RC X w v W ns u (fun _ => .tuple #[]) (must X.e x s)) := by
  subst hH
  have hn := h.new 9 #[.string (str x)]
  have e : mustL X.e [x] s = must X.e x s := by
    simp only [mustL]
    cases must X.e x s <;> rfl
  rw [← e]
  exact (expect_any (h.alloc _).at_ [x] 1 1 rfl (by omega) (by simpa using hx) _ _ hn.blk hn.neo (by intro j y hj; match j, hj with | 0, hj => simp at hj; subst hj; rfl)).mono fun e w' hr => (h.alloc _).rc (Kp.of ((Below.refl _ W).alloc (Nat.le_refl _) _)) hr
theorem c_must2 {H : Nat} (hH : W.heap.size = H) (x y : List UInt8) (hx : x ≠ []) (hy : y ≠ []) : Calls Tryz.prog 122 #[rd X, .slice (some ⟨H, 0, none⟩) 2 2] (W.alloc (.cells #[.string (str x), .string (str y)] 9)) (RC X w v W ns u (fun _ => .tuple #[]) ((must X.e x s).bind fun _ s => must X.e y s)) := by
  subst hH
  have hn := h.new 9 #[.string (str x), .string (str y)]
  have e : mustL X.e [x, y] s = (must X.e x s).bind fun _ s => must X.e y s := by
    simp only [mustL]
    cases must X.e x s with
    | ok a s1 => simp only [Rs.bind]; cases must X.e y s1 <;> rfl
    | er _ _ => rfl
    | out => rfl
  rw [← e]
  exact (expect_any (h.alloc _).at_ [x, y] 2 2 rfl (by omega) (by intro z hz; simp at hz; rcases hz with rfl | rfl <;> assumption) _ _ hn.blk hn.neo (by intro j y hj; match j, hj with | 0, hj => simp at hj; subst hj; rfl | 1, hj => simp at hj; subst hj; rfl)).mono fun e w' hr => (h.alloc _).rc (Kp.of ((Below.refl _ W).alloc (Nat.le_refl _) _)) hr
theorem c_must3 {H : Nat} (hH : W.heap.size = H) (x y z : List UInt8) (hx : x ≠ []) (hy : y ≠ []) (hz : z ≠ []) : Calls Tryz.prog 122 #[rd X, .slice (some ⟨H, 0, none⟩) 3 3] (W.alloc (.cells #[.string (str x), .string (str y), .string (str z)] 9)) (RC X w v W ns u (fun _ => .tuple #[]) ((must X.e x s).bind fun _ s => (must X.e y s).bind fun _ s => must X.e z s)) := by
  subst hH
  have hn := h.new 9 #[.string (str x), .string (str y), .string (str z)]
  have e : mustL X.e [x, y, z] s = (must X.e x s).bind fun _ s => (must X.e y s).bind fun _ s => must X.e z s := by
    simp only [mustL]
    cases must X.e x s with
    | ok a s1 =>
      simp only [Rs.bind]
      cases must X.e y s1 with
      | ok a s2 => simp only; cases must X.e z s2 <;> rfl
      | er _ _ => rfl
      | out => rfl
    | er _ _ => rfl
    | out => rfl
  rw [← e]
  exact (expect_any (h.alloc _).at_ [x, y, z] 3 3 rfl (by omega) (by intro z hz; simp at hz; rcases hz with rfl | rfl | rfl <;> assumption) _ _ hn.blk hn.neo (by intro j y hj; match j, hj with | 0, hj => simp at hj; subst hj; rfl | 1, hj => simp at hj; subst hj; rfl | 2, hj => simp at hj; subst hj; rfl)).mono fun e w' hr => (h.alloc _).rc (Kp.of ((Below.refl _ W).alloc (Nat.le_refl _) _)) hr
theorem c_typed2 {H : Nat} (hH : W.heap.size = H) (x y : Int) : Calls Tryz.prog 80 #[rd X, .slice (some ⟨H, 0, none⟩) 2 2] (W.alloc (.cells #[.int .i64 x, .int .i64 y] tI)) (RC X w v W ns u (fun k => .int .i64 k) (typedM X.e [x, y] s)) := by
  subst hH
  have hn := h.new tI #[.int .i64 x, .int .i64 y]
  exact (typed_any (h.alloc _).at_ [x, y] 2 2 rfl (by omega) _ _ hn.blk (by intro j y hj; match j, hj with | 0, hj => simp at hj; subst hj; rfl | 1, hj => simp at hj; subst hj; rfl)).mono fun e w' hr => (h.alloc _).rc (Kp.of ((Below.refl _ W).alloc (Nat.le_refl _) _)) hr
theorem c_typed4 {H : Nat} (hH : W.heap.size = H) (x y z t : Int) : Calls Tryz.prog 80 #[rd X, .slice (some ⟨H, 0, none⟩) 4 4] (W.alloc (.cells #[.int .i64 x, .int .i64 y, .int .i64 z, .int .i64 t] tI)) (RC X w v W ns u (fun k => .int .i64 k) (typedM X.e [x, y, z, t] s)) := by
  subst hH
  have hn := h.new tI #[.int .i64 x, .int .i64 y, .int .i64 z, .int .i64 t]
  exact (typed_any (h.alloc _).at_ [x, y, z, t] 4 4 rfl (by omega) _ _ hn.blk (by intro j y hj; match j, hj with | 0, hj => simp at hj; subst hj; rfl | 1, hj => simp at hj; subst hj; rfl | 2, hj => simp at hj; subst hj; rfl | 3, hj => simp at hj; subst hj; rfl)).mono fun e w' hr => (h.alloc _).rc (Kp.of ((Below.refl _ W).alloc (Nat.le_refl _) _)) hr
end

theorem RC.cases {α : Type} {X : Rdr} {w W : World} {v u : Value} {ns : List NV} {enc : α → Value} {R : Rs α} {e : Ending} {w' : World} (h : RC X w v W ns u enc R e w') :
    (∃ no p, R = .er no p ∧ e = .panicked [{ v := .iface tF (faultV no p), recovered := false }] ∧ Below X.base w w') ∨ (∃ a s', R = .ok a s' ∧ e = .returned (enc a) ∧ Cur X w v w' s' ns u ∧ Kp X W u w' u) := by
  cases R with
  | ok a s' => exact .inr ⟨a, s', rfl, h⟩
  | er no p => exact .inl ⟨no, p, rfl, h⟩
  | out => exact h.elim
theorem kid_kept {X : Rdr} {W W' : World} {s : St} {ns : List NV} {u u' kv : Value} {n : Nat} {cs : List Value} (h : At X W s ns u) (hr : W.ownsRow X.base tI 1 kv n cs) (hk : Kp X W u W' u') : W'.ownsRow X.base tI 1 kv n cs :=
  row_keep hr fun g hg => hk.block g (hr.lt g hg).2 (fun e => h.blk.not_row (by decide) hr (by rw [hg, e])) fun e => by
    rcases hr.2 with ⟨hv, _⟩ | ⟨g', cap, cur, hv, _, hgb, _⟩
    · rw [hv] at hg; simp [Value.ownBlock] at hg
    · rw [hv] at hg
      simp [Value.ownBlock] at hg
      rcases h.rows.2 with ⟨hv2, _⟩ | ⟨g2, cap2, cur2, hv2, _, hgb2, _⟩
      · rw [hv2] at e; simp [Value.ownBlock] at e
      · rw [hv2] at e
        simp [Value.ownBlock] at e
        rw [hg, e, hgb2] at hgb
        simp at hgb
        exact absurd hgb.2 (by decide)

/-- The nodes are a tree's, and their kids lie in memory that is newer than w. -/
structure Fl (w : World) (nk : List NV) (a : Fo) (c : Nat) : Prop where
  eq : nk.map NV.nd = a.flat c
  new : ∀ x ∈ nk, ∀ g, x.v.ownBlock = some g → w.heap.size ≤ g
theorem Fl.old {w W : World} {nk : List NV} {a : Fo} {c : Nat} (h : Fl W nk a c) (hs : w.heap.size ≤ W.heap.size) : Fl w nk a c := ⟨h.eq, fun x hx g hg => Nat.le_trans hs (h.new x hx g hg)⟩
theorem Fl.nil (w : World) (c : Nat) : Fl w [] .nil c := ⟨rfl, fun x hx => by cases hx⟩
theorem fr1 {X : Rdr} {w W : World} {v u : Value} {s : St} {ns : List NV} (h : Cur X w v W s ns u) {n c : Nat} : ∀ g, (Value.slice (some ⟨W.heap.size, 0, none⟩) n c).ownBlock = some g → w.heap.size ≤ g := fun g hg => by
  simp [Value.ownBlock] at hg
  have := h.kp.size
  omega

/-- The answer is a tree: its nodes are finished; its place is told. -/
def RT (X : Rdr) (w : World) (ns : List NV) (v : Value) (R : Rs Fo) (e : Ending) (w' : World) : Prop :=
  match R with
  | .ok a s => ∃ v' nk h k, a = Fo.one h k ∧ e = .returned (.int .i64 (ns.length + k.size : Nat)) ∧ At X w' s (ns ++ nk) v' ∧ Kp X w v w' v' ∧ Fl w nk a ns.length
  | .er no p => e = Pan no p ∧ Below X.base w w'
  | .out => False
theorem RT.form {X : Rdr} {w w' : World} {ns : List NV} {v : Value} {R : Rs Fo} {e : Ending} (h : RT X w ns v R e w') : (∃ i : Nat, e = .returned (.int .i64 i)) ∨ ∃ ch, e = .panicked ch := by
  cases R with
  | ok a s => obtain ⟨v', nk, h', k, _, he, _⟩ := h; exact .inl ⟨_, he⟩
  | er no p => exact .inr ⟨_, h.1⟩
  | out => exact h.elim
/-- The same, of a call in a walk that began in w. -/
def RD (X : Rdr) (w : World) (v : Value) (W : World) (ns : List NV) (u : Value) (R : Rs Fo) (e : Ending) (w' : World) : Prop :=
  match R with
  | .ok a s => ∃ v' nk h k, a = Fo.one h k ∧ e = .returned (.int .i64 (ns.length + k.size : Nat)) ∧ Cur X w v w' s (ns ++ nk) v' ∧ Kp X W u w' v' ∧ Fl w nk a ns.length
  | .er no p => e = Pan no p ∧ Below X.base w w'
  | .out => False
theorem Cur.rd {X : Rdr} {w W : World} {v u : Value} {s : St} {ns : List NV} {R : Rs Fo} {e : Ending} {w' : World} (h : Cur X w v W s ns u) (hr : RT X W ns u R e w') : RD X w v W ns u R e w' := by
  cases R with
  | ok a s' => obtain ⟨v', nk, h', k, h1, h2, h3, h4, h5⟩ := hr; exact ⟨v', nk, h', k, h1, h2, h.step h3 h4, h4, h5.old h.kp.size⟩
  | er no p => exact ⟨hr.1, h.low.trans hr.2⟩
  | out => exact hr
theorem RD.pre {X : Rdr} {w W0 W : World} {v u : Value} {ns : List NV} {R : Rs Fo} {e : Ending} {w' : World} (h : RD X w v W ns u R e w') (hk : Kp X W0 u W u) : RD X w v W0 ns u R e w' := by
  cases R with
  | ok a s' => obtain ⟨v', nk, h', k, h1, h2, h3, h4, h5⟩ := h; exact ⟨v', nk, h', k, h1, h2, h3, hk.trans h4, h5⟩
  | er no p => exact h
  | out => exact h
/-- A tree is read in whatever world is like W. -/
theorem Cur.tree {X : Rdr} {w W : World} {v u : Value} {s : St} {ns : List NV} {R : Rs Fo} {f : FuncId} {args : Array Value} (h : Cur X w v W s ns u) (hc : ∀ W', At X W' s ns u → Calls Tryz.prog f args W' (RT X W' ns u R)) :
    ∀ W', Below W.heap.size W W' → Calls Tryz.prog f args W' (RD X w v W' ns u R) :=
  fun W' hW => (hc W' (h.at_.below hW)).mono fun e w' hr => (h.go hW).rd hr
theorem rt_of {X : Rdr} {w W : World} {v u : Value} {s : St} {ns : List NV} {R : Rs Fo} {e : Ending} {w' : World} (h : Cur X w v W s ns u) (hr : RT X W ns u R e w') : RT X w ns v R e w' := by
  cases R with
  | ok a s' => obtain ⟨v', nk, h', k, h1, h2, h3, h4, h5⟩ := hr; exact ⟨v', nk, h', k, h1, h2, h3, h.kp.trans h4, h5.old h.kp.size⟩
  | er no p => exact ⟨hr.1, h.low.trans hr.2⟩
  | out => exact hr
theorem RD.cases {X : Rdr} {w W : World} {v u : Value} {ns : List NV} {R : Rs Fo} {e : Ending} {w' : World} (h : RD X w v W ns u R e w') :
    (∃ no p, R = .er no p ∧ e = .panicked [{ v := .iface tF (faultV no p), recovered := false }] ∧ Below X.base w w') ∨
    (∃ hh k s' v' nk, R = .ok (Fo.one hh k) s' ∧ e = .returned (.int .i64 (ns.length + k.size : Nat)) ∧ Cur X w v w' s' (ns ++ nk) v' ∧ Kp X W u w' v' ∧ Fl w nk (Fo.one hh k) ns.length) := by
  cases R with
  | ok a s' => obtain ⟨v', nk, h', k, rfl, h2, h3, h4, h5⟩ := h; exact .inr ⟨h', k, s', v', nk, rfl, h2, h3, h4, h5⟩
  | er no p => exact .inl ⟨no, p, rfl, h⟩
  | out => exact h.elim
theorem len_of_flat {w : World} {nk : List NV} {k : Fo} {c : Nat} (hk : Fl w nk k c) : nk.length = k.size := by rw [← Fo.flat_length k c, ← hk.eq, List.length_map]

/-- A node is finished: the walk's answer. -/
theorem c_add {X : Rdr} {w W : World} {s1 : St} {ns nk : List NV} {v u kv : Value} (h : Cur X w v W s1 (ns ++ nk) u) (hd : Hd) (k : Fo) (hk : Fl w nk k ns.length) (hfr : ∀ g, kv.ownBlock = some g → w.heap.size ≤ g)
    (hkv : W.ownsRow X.base tI 1 kv (k.roots ns.length).length (kidCells (k.roots ns.length))) :
    Calls Tryz.prog 144 #[rd X, nodeV ⟨hd, k.roots ns.length, kv⟩] W (RT X w ns v (addM hd k s1)) := by
  refine (add_any h.at_ ⟨hd, k.roots ns.length, kv⟩ hkv).mono fun e w' hr => ?_
  unfold RN at hr
  unfold addM
  split at hr
  · rename_i h4
    rw [if_pos h4]
    exact ⟨hr.1, h.low.trans hr.2⟩
  · rename_i h4
    rw [if_neg h4]
    obtain ⟨v2, he, hA, hK⟩ := hr
    refine ⟨v2, nk ++ [⟨hd, k.roots ns.length, kv⟩], hd, k, rfl, ?_, ?_, h.kp.trans hK, ?_⟩
    · rw [he, List.length_append, len_of_flat hk]
    · rw [← List.append_assoc]; exact hA
    · exact ⟨by simp [Fo.one, Fo.flat, hk.eq, NV.nd], fun x hx g hg => by
        rcases List.mem_append.1 hx with hx | hx
        · exact hk.new x hx g hg
        · simp at hx; subst hx; exact hfr g hg⟩
/-- The same, and what has turned since. -/
theorem c_addK {X : Rdr} {w W : World} {s1 : St} {ns nk : List NV} {v u kv : Value} (h : Cur X w v W s1 (ns ++ nk) u) (hd : Hd) (k : Fo) (hk : Fl w nk k ns.length) (hfr : ∀ g, kv.ownBlock = some g → w.heap.size ≤ g)
    (hkv : W.ownsRow X.base tI 1 kv (k.roots ns.length).length (kidCells (k.roots ns.length))) :
    Calls Tryz.prog 144 #[rd X, nodeV ⟨hd, k.roots ns.length, kv⟩] W fun e w' => RT X w ns v (addM hd k s1) e w' ∧ ((∃ no p, e = .panicked [{ v := .iface tF (faultV no p), recovered := false }]) ∨ ∃ (i : Nat) (u' : Value), e = .returned (.int .i64 i) ∧ Kp X W u w' u') := by
  refine (add_any h.at_ ⟨hd, k.roots ns.length, kv⟩ hkv).mono fun e w' hr => ?_
  unfold RN at hr
  unfold addM
  split at hr
  · rename_i h4
    rw [if_pos h4]
    exact ⟨⟨hr.1, h.low.trans hr.2⟩, .inl ⟨_, _, hr.1⟩⟩
  · rename_i h4
    rw [if_neg h4]
    obtain ⟨v2, he, hA, hK⟩ := hr
    refine ⟨⟨v2, nk ++ [⟨hd, k.roots ns.length, kv⟩], hd, k, rfl, ?_, ?_, h.kp.trans hK, ?_⟩, .inr ⟨_, v2, he, hK⟩⟩
    · rw [he, List.length_append, len_of_flat hk]
    · rw [← List.append_assoc]; exact hA
    · exact ⟨by simp [Fo.one, Fo.flat, hk.eq, NV.nd], fun x hx g hg => by
        rcases List.mem_append.1 hx with hx | hx
        · exact hk.new x hx g hg
        · simp at hx; subst hx; exact hfr g hg⟩
/-- A node without kids. -/
theorem c_leaf {X : Rdr} {w W : World} {s1 : St} {ns : List NV} {v u : Value} (h : Cur X w v W s1 ns u) (hd : Hd) :
    Calls Tryz.prog 144 #[rd X, nodeV ⟨hd, [], .slice none 0 0⟩] W (RT X w ns v (addM hd .nil s1)) :=
  c_add (nk := []) (by rw [List.append_nil]; exact h) hd .nil (Fl.nil _ _) (fun g hg => by cases hg) (World.ownsRow_nil _ _ _ _)

end Go.Proofs.YtfaoiajhoifalaaGreatDoor
