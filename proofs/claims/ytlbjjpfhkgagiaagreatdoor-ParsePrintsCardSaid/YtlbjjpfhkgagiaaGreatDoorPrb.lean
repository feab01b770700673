/-
  Layer parse, printing: the builder that lies at the head of a writer.
-/
import Derived.Test.YtlbjjpfhkgagiaaGreatDoorPra
import Derived.Test.YtlbjjpfhkgagiaaGreatDoorPara
import Derived.Lib.FrozenHead2
namespace Go.Proofs.YtlbjjpfhkgagiaaGreatDoor
open Go.RowKit Go.Shelf
set_option linter.unusedVariables false
set_option linter.unusedSimpArgs false

abbrev tW : TypeId := 77
abbrev tZ : TypeId := 141
/-- A writer's cells. -/
def wrC (p v : Value) (bg : Bool) (nv sv : Value) : Array Value := #[p, v, .bool bg, nv, sv]
/-- What a writer holds: its text's bytes are l. -/
structure Wb (B b : Nat) (w : World) (l : List UInt8) (bg : Bool) (nv sv v : Value) : Prop where
  blk : ∃ p, (p = .pointer none ∨ p = .pointer (some ⟨b, 0, none⟩)) ∧ Blk w b tW (wrC p v bg nv sv)
  base : B ≤ b
  row : w.ownsRowF B tU 1 v l.length (Lib.byteCells l)
/-- What a call of the writer's may turn: the blocks bs, rows of bytes, nothing below B. -/
structure Kw (B : Nat) (bs : List Nat) (w w' : World) : Prop where
  low : Below B w w'
  kept : ∀ k o, w.heap[k]? = some o → k ∉ bs → (∀ c fz, o ≠ .cells c tU fz) → w'.heap[k]? = some o
theorem Kw.of {B : Nat} {bs : List Nat} {w w' : World} (h : Below w.heap.size w w') (hB : B ≤ w.heap.size) : Kw B bs w w' :=
  ⟨h.mono hB, fun k o hk _ _ => (h.block k (Array.getElem?_eq_some_iff.1 hk).1).trans hk⟩
theorem Kw.refl (B : Nat) (bs : List Nat) (w : World) : Kw B bs w w := ⟨Below.refl _ _, fun _ _ h _ _ => h⟩
theorem Kw.trans {B : Nat} {bs : List Nat} {a b c : World} (h : Kw B bs a b) (k : Kw B bs b c) : Kw B bs a c :=
  ⟨h.low.trans k.low, fun i o hi hb ho => k.kept i o (h.kept i o hi hb ho) hb ho⟩
theorem Kw.more {B : Nat} {bs bs' : List Nat} {w w' : World} (h : Kw B bs w w') (hs : ∀ i ∈ bs, i ∈ bs') : Kw B bs' w w' :=
  ⟨h.low, fun k o hk hb ho => h.kept k o hk (fun h' => hb (hs k h')) ho⟩
theorem Kw.drew {B : Nat} {bs : List Nat} {w w' : World} (h : Kw B bs w w') : Kw B bs w w'.drew := ⟨h.low.drew, h.kept⟩
theorem Kw.alloc {B : Nat} {bs : List Nat} {w w' : World} (h : Kw B bs w w') (hB : B ≤ w'.heap.size) (o : Obj) : Kw B bs w (w'.alloc o) :=
  h.trans (.of ((Below.refl _ _).alloc (Nat.le_refl _) _) hB)
theorem Kw.set_ {B : Nat} {bs : List Nat} {w w' : World} (h : Kw B bs w w') {j : Nat} (hj : j ∈ bs) (hB : B ≤ j) (o : Nat) (x : Value) : Kw B bs w (w'.setCell ⟨j, o, none⟩ x) :=
  h.trans ⟨(Below.refl _ _).setCell (p := ⟨j, o, none⟩) hB x, fun k ob hk hb _ => (Below.heap_setCell _ _ _ _ (fun e => hb (by rw [e]; exact hj))).trans hk⟩
theorem Kw.grown {B : Nat} {bs : List Nat} {a w w' : World} {row : Option Nat} (h : Kw B bs a w) (hB : B ≤ w.heap.size) (hg : w.grownBy w' row) (hrow : ∀ g, row = some g → B ≤ g ∧ ∃ c fz, w.heap[g]? = some (.cells c tU fz)) : Kw B bs a w' := by
  refine h.trans ⟨⟨hg.os, hg.tape, hg.output, hg.size, fun k hk => hg.block k (by omega) (fun e => by have := (hrow k e.symm).1; omega)⟩, fun k o hk hb ho => ?_⟩
  rw [hg.block k (Array.getElem?_eq_some_iff.1 hk).1 ?_]
  · exact hk
  · intro e
    obtain ⟨-, c, fz, hc⟩ := hrow k e.symm
    rw [hk] at hc
    exact ho c fz (Option.some.inj hc)
theorem Kw.freeze {B : Nat} {bs : List Nat} {a w : World} (h : Kw B bs a w) (p : Addr) (n : Nat) (hB : B ≤ p.block) (hp : ∃ c fz, w.heap[p.block]? = some (.cells c tU fz)) : Kw B bs a (w.freeze p n) := by
  refine h.trans ⟨Lib.below_freeze (Below.refl _ _) hB _, fun k o hk hb ho => ?_⟩
  unfold World.freeze
  split
  · exact hk
  · simp only [Array.getElem?_modify]
    split
    · rename_i hpk
      obtain ⟨c, fz, hc⟩ := hp
      rw [hpk, hk] at hc
      exact absurd (Option.some.inj hc) (ho c fz)
    · exact hk
/-- A block that is none of those stays. -/
theorem Kw.blk {B : Nat} {bs : List Nat} {w w' : World} (h : Kw B bs w w') {j : Nat} {t : TypeId} {cs : Array Value} (hb : Blk w j t cs) (hj : j ∉ bs) (ht : t ≠ tU) : Blk w' j t cs :=
  h.kept j _ hb hj fun c fz e => by cases e; exact ht rfl
theorem Kw.row {B : Nat} {bs : List Nat} {w w' : World} (h : Kw B bs w w') {base size n : Nat} {t : TypeId} {v : Value} {xs : List Value} (hr : w.ownsRow base t size v n xs) (hj : ∀ g, v.ownBlock = some g → g ∉ bs) (ht : t ≠ tU) : w'.ownsRow base t size v n xs := by
  refine row_keep hr fun g hg => ?_
  rcases hr.2 with ⟨hv, _⟩ | ⟨g', cap, cur, hv, _, hb, _⟩
  · rw [hv] at hg; cases hg
  · rw [hv] at hg
    simp [Value.ownBlock] at hg
    subst hg
    rw [hb]
    exact h.kept g' _ hb (hj g' (by rw [hv]; rfl)) fun c fz e => by cases e; exact ht rfl
theorem Wb.lt {B b : Nat} {w : World} {l : List UInt8} {bg : Bool} {nv sv v : Value} (h : Wb B b w l bg nv sv v) : b < w.heap.size := by
  obtain ⟨p, _, hb⟩ := h.blk
  exact hb.lt
theorem Wb.ne {B b : Nat} {w : World} {l : List UInt8} {bg : Bool} {nv sv v : Value} (h : Wb B b w l bg nv sv v) : v.ownBlock ≠ some b := by
  obtain ⟨p, _, hb⟩ := h.blk
  exact Lib.ownBlock_neF h.row hb (by decide)

theorem bInfo : (Tryz.prog.info? tB).map (·.size) = some 2 := by kernel_rfl
theorem bLies : liesAt Tryz.prog Tryz.prog.depth tW (5 / Tryz.prog.cellsOf tW) 0 tB 1 = true := by kernel_rfl
theorem uInfo : (Tryz.prog.info? tU).map (fun i => (i.zero, i.size, i.bytes)) = some (some (.int .u8 0), 1, 1) := by kernel_rfl

set_option maxHeartbeats 1000000 in
set_option maxRecDepth 100000 in
theorem cc_fresh (b : Nat) (w : World) {v nv sv : Value} {bg : Bool} (hb : Blk w b tW (wrC (.pointer none) v bg nv sv)) :
    Calls Tryz.prog 133 #[.pointer (some ⟨b, 0, none⟩)] w fun e w' => e = .returned (.tuple #[]) ∧ w' = w.setCell ⟨b, 0, none⟩ (.pointer (some ⟨b, 0, none⟩)) := by
  obtain ⟨j, hj, hjs⟩ := Option.map_eq_some_iff.1 bInfo
  have h0 : w.cell? ⟨b, 0, none⟩ = some (.pointer none) := hb.cell 0
  have hfz := hb.frozen 0
  have hsh : w.shape? b = some (tW, 5) := by unfold Blk at hb; simp [World.shape?, hb, wrC]
  clear hb
  go_enter Tryz.func133, Tryz.ntmps133
  go_wp2
  rw [Lib.run_to_unsafe w ⟨b, 0, none⟩ Tryz.underlying72 Tryz.underlying175 hj (by rw [hjs]; decide) hsh (show (0 : Nat) < 5 by decide)]
  simp only [Result.andThen]
  rw [Oper.upon_value]
  go_wp2
  rw [run_callFunc_extern Tryz.func152 (by kernel_rfl) (by kernel_rfl) (by kernel_rfl) (e := Extern.AbiNoEscape.same) (by kernel_rfl)]
  rw [Lib.run_noEscape]
  simp only [Result.andThen]
  rw [Oper.upon_value]
  go_wp2
  rw [Lib.run_from_unsafe w ⟨b, 0, none⟩ Tryz.underlying175 Tryz.underlying72 hj hsh bLies]
  simp only [Result.andThen]
  rw [Oper.upon_value]
  go_wp2
  go_end0
  exact ⟨rfl, rfl⟩
set_option maxHeartbeats 1000000 in
set_option maxRecDepth 100000 in
theorem cc_used (b : Nat) (w : World) {v nv sv : Value} {bg : Bool} (hb : Blk w b tW (wrC (.pointer (some ⟨b, 0, none⟩)) v bg nv sv)) :
    Calls Tryz.prog 133 #[.pointer (some ⟨b, 0, none⟩)] w fun e w' => e = .returned (.tuple #[]) ∧ w' = w := by
  obtain ⟨j, hj, -⟩ := Option.map_eq_some_iff.1 bInfo
  have h0 : w.cell? ⟨b, 0, none⟩ = some (.pointer (some ⟨b, 0, none⟩)) := hb.cell 0
  clear hb
  go_enter Tryz.func133, Tryz.ntmps133
  go_wp2
  rw [Lib.run_neq_ptr_same w _ Tryz.underlying72 hj]
  go_wp2
  go_end0
  exact ⟨rfl, rfl⟩
/-- Behind it the builder is used. -/
theorem cc_any {B b : Nat} {w : World} {l : List UInt8} {bg : Bool} {nv sv v : Value} (h : Wb B b w l bg nv sv v) :
    Calls Tryz.prog 133 #[.pointer (some ⟨b, 0, none⟩)] w fun e w' => e = .returned (.tuple #[]) ∧ Blk w' b tW (wrC (.pointer (some ⟨b, 0, none⟩)) v bg nv sv) ∧ w'.ownsRowF B tU 1 v l.length (Lib.byteCells l) ∧ Kw B [b] w w' := by
  obtain ⟨p, hp, hb⟩ := h.blk
  rcases hp with rfl | rfl
  · refine (cc_fresh b w hb).mono ?_
    rintro e w' ⟨rfl, rfl⟩
    exact ⟨rfl, hb.set_ 0 _, h.row.kept (row := some b) ⟨rfl, rfl, rfl, by simp [World.setCell], fun k _ hk => Below.heap_setCell _ _ _ _ (fun e => hk (by simp [e]))⟩ (Or.inr h.ne), (Kw.refl _ _ _).set_ (by simp) h.base _ _⟩
  · refine (cc_used b w hb).mono ?_
    rintro e w' ⟨rfl, rfl⟩
    exact ⟨rfl, hb, h.row, Kw.refl _ _ _⟩
theorem Wb.put {B b : Nat} {w : World} {l' : List UInt8} {bg : Bool} {nv sv v v' : Value} (hB : B ≤ b) (hb : Blk w b tW (wrC (.pointer (some ⟨b, 0, none⟩)) v bg nv sv)) (hr : w.ownsRowF B tU 1 v' l'.length (Lib.byteCells l')) :
    Wb B b (w.setCell ⟨b, 1, none⟩ v') l' bg nv sv v' :=
  ⟨⟨_, .inr rfl, hb.set_ 1 v'⟩, hB, hr.kept (row := some b) ⟨rfl, rfl, rfl, by simp [World.setCell], fun k _ hk => Below.heap_setCell _ _ _ _ (fun e => hk (by simp [e]))⟩ (Or.inr (Lib.ownBlock_neF hr hb (by decide)))⟩

set_option maxHeartbeats 2000000 in
set_option maxRecDepth 100000 in
theorem wb_any {B b : Nat} {w : World} {l : List UInt8} {bg : Bool} {nv sv v : Value} (h : Wb B b w l bg nv sv v) (c : UInt8) (hlen : l.length + 1 ≤ 1000000000) :
    Calls Tryz.prog 101 #[.pointer (some ⟨b, 0, none⟩), .int .u8 c.toNat] w fun e w' => e = .returned .nilIface ∧ ∃ v', Wb B b w' (l ++ [c]) bg nv sv v' ∧ Kw B [b] w w' := by
  obtain ⟨i0, hi, hz0, hz1, hz2⟩ := info_parts uInfo
  have hB := h.base
  have HL := h.lt
  go_enter Tryz.func101, Tryz.ntmps101
  go_wp2_with (go_at_call 133; refine (cc_any h).mono ?_)
  rintro e w1 ⟨rfl, hbk, hown, hk1⟩
  have c0 : w1.cell? ⟨b, 0, none⟩ = some (.pointer (some ⟨b, 0, none⟩)) := hbk.cell 0
  have c1 : w1.cell? ⟨b, 1, none⟩ = some v := hbk.cell 1
  have hne : v.ownBlock ≠ some b := Lib.ownBlock_neF hown hbk (by decide)
  have HK := Lib.hid hk1
  have HBK := Lib.hid hbk
  have hsz := hk1.low.size
  have hlt := hbk.lt
  clear hbk hk1
  go_wp2_with (at_builtin; refine wpList_append_ownF _ rfl _ _ 73 rfl B tU i0 (.int .u8 0) 1 1 Tryz.underlying73 hi hz0 hz1 hz2 rfl (by decide) _ _ _ rfl (hown.alloc _) ⟨w1.heap.size, 0, none⟩ 1 1 [.int .u8 c.toNat] rfl rfl ?c1 ?c2 ?c3 ?c4 ?c5 ?_)
  case c1 =>
    intro j u hj
    match j, hj with
    | 0, hj => simp at hj; subst hj; simp [Addr.add]
  case c2 => intro u hu; simp at hu; subst hu; rfl
  case c3 => unfold maxLen; omega
  case c4 => omega
  case c5 => simp; omega
  intro v' w2 hown' hgrow _
  have hb2 : Blk w2 b tW (wrC (.pointer (some ⟨b, 0, none⟩)) v bg nv sv) := by
    refine Eq.trans (hgrow.block b (by simp; omega) (fun e => hne e.symm)) ?_
    exact (heap_alloc_old _ _ _ hlt).trans HBK.out
  have d0 : w2.cell? ⟨b, 0, none⟩ = some (.pointer (some ⟨b, 0, none⟩)) := hb2.cell 0
  have d1 : w2.cell? ⟨b, 1, none⟩ = some v := hb2.cell 1
  have f1 : w2.frozen? ⟨b, 1, none⟩ = false := hb2.frozen 1
  obtain ⟨g, cap, rfl⟩ : ∃ g cap, v' = .slice (some ⟨g, 0, none⟩) (l.length + 1) cap := by
    rcases hown'.2 with ⟨_, h0⟩ | ⟨g, cap, cur, fz, hv, _⟩
    · omega
    · exact ⟨g, cap, hv⟩
  have hk2 : Kw B [b] w w2 := (HK.out.alloc (by omega) (.cells #[.int .u8 c.toNat] tU)).grown (by simp; omega) hgrow fun g hg => ⟨(hown.lt g hg).1, Lib.ownsRowF_kind (hown.alloc _) g hg⟩
  have HP := Lib.hid (Wb.put (l' := l ++ [c]) hB hb2 (by simpa [Lib.byteCells] using hown'))
  have HK2 := Lib.hid (hk2.set_ (j := b) (by simp) hB 1 (.slice (some ⟨g, 0, none⟩) (l.length + 1) cap))
  clear hb2 hown' hgrow hown hk2
  go_wp2
  go_ret
  exact ⟨rfl, _, HP.out, HK2.out⟩

set_option maxHeartbeats 2000000 in
set_option maxRecDepth 100000 in
theorem ws_any {B b : Nat} {w : World} {l : List UInt8} {bg : Bool} {nv sv v : Value} (h : Wb B b w l bg nv sv v) (x : List UInt8) (hlen : l.length + x.length ≤ 1000000000) :
    Calls Tryz.prog 102 #[.pointer (some ⟨b, 0, none⟩), .string (str x)] w fun e w' => (∃ r, e = .returned r) ∧ ∃ v', Wb B b w' (l ++ x) bg nv sv v' ∧ Kw B [b] w w' := by
  obtain ⟨i0, hi, hz0, hz1, hz2⟩ := info_parts uInfo
  have hB := h.base
  have HL := h.lt
  have hxs : (str x).size = x.length := str_size x
  have HX := Lib.hid hxs
  go_enter Tryz.func102, Tryz.ntmps102
  go_wp2_with (go_at_call 133; refine (cc_any h).mono ?_)
  rintro e w1 ⟨rfl, hbk, hown, hk1⟩
  have c0 : w1.cell? ⟨b, 0, none⟩ = some (.pointer (some ⟨b, 0, none⟩)) := hbk.cell 0
  have c1 : w1.cell? ⟨b, 1, none⟩ = some v := hbk.cell 1
  have hne : v.ownBlock ≠ some b := Lib.ownBlock_neF hown hbk (by decide)
  have HK := Lib.hid hk1
  have HBK := Lib.hid hbk
  have hsz := hk1.low.size
  have hlt := hbk.lt
  clear hbk hk1 hxs
  go_wp2_with (at_builtin; refine Lib.wpList_append_own_stringF _ rfl _ _ 73 9 rfl B tU i0 Tryz.underlying73 Tryz.underlying9 hi hz0 hz1 hz2 _ _ _ rfl hown (str x) rfl ?c3 ?c4 ?c5 ?_)
  case c3 => rw [HX.out]; unfold maxLen; omega
  case c4 => rw [HX.out]; omega
  case c5 => omega
  intro v' w2 hown' hgrow _
  have hb2 : Blk w2 b tW (wrC (.pointer (some ⟨b, 0, none⟩)) v bg nv sv) := (hgrow.block b hlt (fun e => hne e.symm)).trans HBK.out
  have d0 : w2.cell? ⟨b, 0, none⟩ = some (.pointer (some ⟨b, 0, none⟩)) := hb2.cell 0
  have d1 : w2.cell? ⟨b, 1, none⟩ = some v := hb2.cell 1
  have f1 : w2.frozen? ⟨b, 1, none⟩ = false := hb2.frozen 1
  obtain ⟨ao, n', cap, rfl⟩ : ∃ ao n' cap, v' = .slice ao n' cap := by
    rcases hown'.2 with ⟨hv, _⟩ | ⟨g, cap, cur, fz, hv, _⟩
    · exact ⟨_, _, _, hv⟩
    · exact ⟨_, _, _, hv⟩
  have hk2 : Kw B [b] w w2 := HK.out.grown (by omega) hgrow fun g hg => ⟨(hown.lt g hg).1, Lib.ownsRowF_kind hown g hg⟩
  have hr2 : w2.ownsRowF B tU 1 (.slice ao n' cap) (l ++ x).length (Lib.byteCells (l ++ x)) := by
    have e1 : Lib.byteCells (l ++ x) = Lib.byteCells l ++ Lib.strCells (str x) := by simp [Lib.byteCells, Lib.strCells, str]
    rw [e1, List.length_append, ← HX.out]
    exact hown'
  have HP := Lib.hid (Wb.put (l' := l ++ x) hB hb2 hr2)
  have HK2 := Lib.hid (hk2.set_ (j := b) (by simp) hB 1 (.slice ao n' cap))
  clear hb2 hown' hgrow hown hk2 hr2
  go_wp2
  go_ret2
  exact ⟨⟨_, rfl⟩, _, HP.out, HK2.out⟩
end Go.Proofs.YtlbjjpfhkgagiaaGreatDoor
