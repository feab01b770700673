/-
  Layer ir: the machine in memory; walks of its small functions.
-/
import Derived.Test.YtgcjfbgfoiekmaaIvk
import Derived.Test.YtgcjfbgfoiekmaaWc
import Derived.Maps.Own
import Derived.Maps.OwnOps
import Derived.Maps.Views
import Derived.DeepKeys4
import Derived.LaidMore
import Derived.Deep.AppendLies
import Derived.Laws.Pointers
namespace Go.Proofs.Ytgcjfbgfoiekmaa
open Go Go.RowKit Go.Maps
set_option linter.unusedVariables false
set_option linter.unusedSimpArgs false

abbrev tMc : TypeId := 72
abbrev tEg : TypeId := 66
abbrev tEl : TypeId := 103
/-! keys of elements -/
theorem elLaidOut : laidOutB Try.prog = true := by kernel_rfl
theorem elRow : tEl < Try.prog.types.size := of_decide_eq_true (by kernel_rfl)
theorem elWide : (match Try.prog.underlying tEl with | some (.array _ _) | some (.struct _) => true | _ => false) = true := by kernel_rfl
set_option maxRecDepth 100000 in
theorem elLaw : WideMaps.KeyLaw Try.prog tEl := deep_law_laid elLaidOut (m := 3) (by omega) elRow (by kernel_rfl) elWide
theorem elKeyed : Keyed Try.prog tEl := Keyed.of_law elLaw
/-! a world that keeps a row, a map -/
theorem mapKeep {H : Type} {w w' : World} {k : TypeId} {R : Value → Option (DataW H × List MemPlace)} {b n : Nat} {D : DataW H} (h : w.ownsMap Try.prog k R b n D) (hk : w'.heap[b]? = w.heap[b]?) : w'.ownsMap Try.prog k R b n D := by
  obtain ⟨es, clock, h1, h2⟩ := h
  exact ⟨es, clock, by rw [hk]; exact h1, h2⟩

structure Mc where
  b : Nat
  sb : Nat
  mb : Nat
  base : Nat
  m : Mdl
  gv : Value
  fv : Value
  cap : Int
def mcA (X : Mc) (iv ov : Value) (st calls : Int) : Array Value := #[X.gv, X.fv, ov, iv, .int .i64 st, .int .i64 calls, .slice (some ⟨X.sb, 0, none⟩) X.m.g.length X.m.g.length, .map (some X.mb)]
noncomputable def eKey (a i : Int) : Option Lit := keyOf Try.prog tEl (.agg #[.int .i64 a, .int .i64 i])
/-- What the map says of all elements. -/
def ElD (D : DataW Unit) (el : Int → Int → Int) : Prop := ∀ a i kl, iw a → iw i → eKey a i = some kl → D.atKey kl (.lit (.int .i64 0)) = .lit (.int .i64 (el a i))
/-- The machine, as it stands in memory. -/
structure McV (X : Mc) (k : Int) (w : World) (s : Mst) (ov : Value) : Prop where
  blk : ∃ iv, Blk w X.b tMc (mcA X iv ov s.st s.calls) ∧ IsI w X.base iv s.inp
  mod : IsM w X.base X.gv X.fv X.m
  out : w.ownsRow X.base tI1 1 ov s.out.length (s.out.map (Value.int .i64))
  sc : Blk w X.sb tI1 (s.sc.map (Value.int .i64)).toArray
  scl : s.sc.length = X.m.g.length
  scw : ∀ x ∈ s.sc, iw x
  mp : ∃ (n : Nat) (D : DataW Unit), w.ownsMap Try.prog tEl (plainElem Try.prog tI1) X.mb n D ∧ ElD D s.el ∧ (n : Int) + s.st + k ≤ X.cap
  elw : ∀ a i, iw (s.el a i)
  bb : X.base ≤ X.b ∧ X.base ≤ X.sb ∧ X.base ≤ X.mb
  ne : X.b ≠ X.sb ∧ X.b ≠ X.mb ∧ X.sb ≠ X.mb
  nos : ov.ownBlock ≠ some X.sb
  bnd : (s.out.length : Int) + s.st + k ≤ X.cap
  cap : X.cap ≤ 1000000000000
  st : iw s.st
  ca : 0 ≤ s.calls ∧ s.calls ≤ 32
/-- What a walk leaves alone. -/
structure Km (X : Mc) (w : World) (v : Value) (w' : World) (v' : Value) : Prop where
  os : w'.os = w.os
  tape : w'.tape = w.tape
  output : w'.output = w.output
  size : w.heap.size ≤ w'.heap.size
  block : ∀ i, i < w.heap.size → i ≠ X.b → i ≠ X.sb → i ≠ X.mb → some i ≠ v.ownBlock → w'.heap[i]? = w.heap[i]?
  own : v'.ownBlock = v.ownBlock ∨ ∃ g, v'.ownBlock = some g ∧ w.heap.size ≤ g
theorem Km.of {X : Mc} {w w' : World} {v : Value} (h : Below w.heap.size w w') : Km X w v w' v := ⟨h.os, h.tape, h.output, h.size, fun i hi _ _ _ _ => h.block i hi, .inl rfl⟩
theorem Km.refl (X : Mc) (w : World) (v : Value) : Km X w v w v := .of (Below.refl _ _)
theorem Km.trans {X : Mc} {a b c : World} {u v x : Value} (h : Km X a u b v) (k : Km X b v c x) : Km X a u c x where
  os := k.os.trans h.os
  tape := k.tape.trans h.tape
  output := k.output.trans h.output
  size := Nat.le_trans h.size k.size
  block i hi h1 h2 h3 h4 := by
    rw [k.block i (Nat.lt_of_lt_of_le hi h.size) h1 h2 h3 ?_, h.block i hi h1 h2 h3 h4]
    rcases h.own with e | ⟨g, e, hg⟩
    · rw [e]; exact h4
    · rw [e]; intro e2; simp only [Option.some.injEq] at e2; omega
  own := by
    rcases k.own with e | ⟨g, e, hg⟩
    · rcases h.own with e2 | ⟨g, e2, hg⟩
      · exact .inl (e.trans e2)
      · exact .inr ⟨g, e.trans e2, hg⟩
    · exact .inr ⟨g, e, Nat.le_trans h.size hg⟩
section
variable {X : Mc} {k : Int} {w w' : World} {s : Mst} {ov : Value}
theorem McV.iv (h : McV X k w s ov) : ∃ A c, Blk w X.b tMc (mcA X (.slice A s.inp.length c) ov s.st s.calls) ∧ IsI w X.base (.slice A s.inp.length c) s.inp ∧ s.inp.length ≤ c ∧ c ≤ maxLen := by
  obtain ⟨iv, h1, h2⟩ := h.blk
  obtain ⟨A, c, rfl, h3, h4, -⟩ := h2.sl
  exact ⟨A, c, h1, h2, h3, h4⟩
theorem McV.lt (h : McV X k w s ov) : X.b < w.heap.size := by obtain ⟨_, h1, _⟩ := h.blk; exact h1.lt
theorem McV.own (h : McV X k w s ov) : ∀ g, ov.ownBlock = some g → X.base ≤ g ∧ g < w.heap.size ∧ g ≠ X.b ∧ g ≠ X.sb ∧ g ≠ X.mb := by
  intro g hg
  rcases h.out.2 with ⟨rfl, _⟩ | ⟨g', cap, cur, rfl, hb, hh, r⟩
  · simp [Value.ownBlock] at hg
  · obtain rfl : g' = g := by simpa [Value.ownBlock] using hg
    obtain ⟨_, h1, _⟩ := h.blk
    obtain ⟨n, D, ⟨es, cl, h2, _⟩, _⟩ := h.mp
    refine ⟨hb, (Array.getElem?_eq_some_iff.1 hh).1, fun e => ?_, fun e => h.nos (by rw [← e]; rfl), fun e => ?_⟩
    · subst e
      have := (show w.heap[X.b]? = _ from h1).symm.trans hh
      simp at this
      exact absurd this.2 (by decide)
    · subst e
      rw [h2] at hh
      cases hh
/-- Where nothing that stood has turned. -/
theorem McV.below (h : McV X k w s ov) (hb : Below w.heap.size w w') : McV X k w' s ov := by
  obtain ⟨iv, h1, h2⟩ := h.blk
  have hlt := h1.lt
  have hB : Below X.base w w' := hb.mono (by have := h.bb; omega)
  obtain ⟨n, D, hmp, he, hn⟩ := h.mp
  exact { h with
    blk := ⟨iv, h1.on hb, h2.below hB⟩
    mod := h.mod.below hB
    out := rowKeep h.out fun i hi => hb.block i (h.own i hi).2.1
    sc := h.sc.on hb
    mp := ⟨n, D, mapKeep hmp (hb.block _ hmp.lt), he, hn⟩ }
theorem McV.km (h : McV X k w s ov) (hk : Km X w ov w' ov) : Below X.base w w' := ⟨hk.os, hk.tape, hk.output, hk.size, fun i hi => by
  have := h.bb
  have := h.lt
  refine hk.block i (by omega) (by omega) (by omega) (by omega) fun e => ?_
  have := (h.own i e.symm).1
  omega⟩
theorem Km.low {v' : Value} (h : McV X k w s ov) (hk : Km X w ov w' v') : Below X.base w w' := ⟨hk.os, hk.tape, hk.output, hk.size, fun i hi => by
  have := h.bb
  have := h.lt
  refine hk.block i (by omega) (by omega) (by omega) (by omega) fun e => ?_
  have := (h.own i e.symm).1
  omega⟩
/-- A cell of the machine itself is written: steps, calls. -/
theorem McV.set (h : McV X k w s ov) {j : Nat} {x : Value} {s' : Mst} {k' : Int} (hs : ∀ iv, (mcA X iv ov s.st s.calls).setIfInBounds j x = mcA X iv ov s'.st s'.calls) (h1 : s'.inp = s.inp) (h2 : s'.out = s.out) (h3 : s'.sc = s.sc) (h4 : s'.el = s.el) (h5 : s'.st + k' ≤ s.st + k) (h6 : iw s'.st) (h7 : 0 ≤ s'.calls ∧ s'.calls ≤ 32) :
    McV X k' (w.setCell ⟨X.b, j, none⟩ x) s' ov ∧ Km X w ov (w.setCell ⟨X.b, j, none⟩ x) ov := by
  obtain ⟨iv, hb, hi⟩ := h.blk
  have hB : Below X.base w (w.setCell ⟨X.b, j, none⟩ x) := (Below.refl _ _).setCell (p := ⟨X.b, j, none⟩) h.bb.1 _
  obtain ⟨n, D, hmp, he, hn⟩ := h.mp
  have hne := h.ne
  refine ⟨⟨⟨iv, by have := hb.set_ j x; rw [hs iv] at this; exact this, by rw [h1]; exact hi.below hB⟩, h.mod.below hB, by rw [h2]; exact rowKeep h.out fun i hi => Below.heap_setCell _ _ _ _ (h.own i hi).2.2.1, by rw [h3]; exact h.sc.far (by exact fun e => hne.1 e.symm) x, by rw [h3]; exact h.scl, by rw [h3]; exact h.scw, ⟨n, D, mapKeep hmp (Below.heap_setCell _ _ _ _ (fun e => hne.2.1 e.symm)), by rw [h4]; exact he, by omega⟩, by rw [h4]; exact h.elw, h.bb, h.ne, h.nos, by rw [h2]; have := h.bnd; omega, h.cap, h6, h7⟩, ?_⟩
  exact ⟨rfl, rfl, rfl, by simp, fun i hi h1 _ _ _ => Below.heap_setCell _ _ _ _ h1, .inl rfl⟩
end
def egV (a b : Int) : Value := .agg #[.int .i64 a, .int .i64 b]
def PanE (a b : Int) : Ending := .panicked [{ v := .iface tEg (egV a b), recovered := false }]
/-- The answer of a walk: as the mathematics says it, with the machine as it stands then. -/
def RnP (X : Mc) (k : Int) (w : World) (ov : Value) (enc : List Int → Value) (r : Rn) (e : Ending) (w' : World) : Prop := match r with
  | .ok v s' => e = .returned (enc v) ∧ ∃ ov', McV X k w' s' ov' ∧ Km X w ov w' ov'
  | .er a b s' => e = PanE a b ∧ ∃ ov', McV X 0 w' s' ov' ∧ Km X w ov w' ov'
  | .out => False
theorem pan_end {fn : Func} {R : Ending → World → Prop} {a : Act} {w : World} {ch : List PanicEntry} (hd : a.defers = []) (hR : R (.panicked ch) w) : bodyPost Try.prog fn R (.panic ch) a w := ⟨hd, hR⟩
theorem trap_any (n : Int) (w : World) : Calls Try.prog 43 #[.int .i64 n] w fun e w' => e = PanE 2 n ∧ w = w' := by
  go_enter Try.func43, Try.ntmps43
  go_wp2
  exact pan_end rfl ⟨rfl, rfl⟩
end Go.Proofs.Ytgcjfbgfoiekmaa
