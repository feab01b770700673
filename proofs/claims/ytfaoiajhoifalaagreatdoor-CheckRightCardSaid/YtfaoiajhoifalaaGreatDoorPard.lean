/-
  Layer parse: the walks of the functions that read operands.
-/
import Derived.Test.YtfaoiajhoifalaaGreatDoorParc
namespace Go.Proofs.YtfaoiajhoifalaaGreatDoor
open Go.RowKit
set_option linter.unusedVariables false
set_option linter.unusedSimpArgs false

set_option maxHeartbeats 2000000 in
set_option maxRecDepth 100000 in
theorem number_any {X : Rdr} {w : World} {s : St} {ns : List NV} {v : Value} (h : At X w s ns v) (hne : s.l ≠ []) :
    Calls Tryz.prog 196 #[rd X] w (RT X w ns v (numB X.e s)) := by
  have hC := Cur.start h
  obtain ⟨M, hM⟩ : ∃ M, numB X.e s = M := ⟨_, rfl⟩
  rw [hM]
  have HM := Lib.hid hM
  go_enter Tryz.func196, Tryz.ntmps196
  go_wp2_with fail
  refine (c_next hC hne).mono ?_
  rintro e w1 ⟨rfl, h1, k1⟩
  have H1 := Lib.hid h1
  clear h hC h1 k1 hM
  rw [str_eta]
  have hE : numB X.e s = addM ⟨1, (pk X.e s).p, (pk X.e s).n, [], 0, if (pk X.e s).s = [76] then 2 else 1⟩ .nil s.nx := rfl
  generalize pk X.e s = t at *
  by_cases hL : t.s = [76]
  · have hd : (t.s == [76]) = true := by simpa using hL
    rw [if_pos hL] at hE
    have HE := Lib.hid hE
    clear hE
    go_wp2_with fail
    refine (c_leaf ((H1.out.alloc _).alloc _) ⟨1, t.p, t.n, [], 0, 2⟩).mono ?_
    intro e w9 hR
    have HR := Lib.hid hR
    rcases hR.form with ⟨i, rfl⟩ | ⟨ch, rfl⟩
    · clear hR
      go_wp2_with fail
      go_ret
      rw [← HM.out, HE.out]
      exact HR.out
    · clear hR
      go_wp2_with fail
      refine panic_end rfl ?_
      rw [← HM.out, HE.out]
      exact HR.out
  · have hd : (t.s == [76]) = false := by simpa using hL
    rw [if_neg hL] at hE
    have HE := Lib.hid hE
    clear hE
    go_wp2_with fail
    refine (c_leaf ((H1.out.alloc _).alloc _) ⟨1, t.p, t.n, [], 0, 1⟩).mono ?_
    intro e w9 hR
    have HR := Lib.hid hR
    rcases hR.form with ⟨i, rfl⟩ | ⟨ch, rfl⟩
    · clear hR
      go_wp2_with fail
      go_ret
      rw [← HM.out, HE.out]
      exact HR.out
    · clear hR
      go_wp2_with fail
      refine panic_end rfl ?_
      rw [← HM.out, HE.out]
      exact HR.out

/-- What a call of the recursion's is known to do: expressions, operands, arguments, statements. -/
def KEx (X : Rdr) (r : Md → St → Rs Fo) : Prop := ∀ (d : Nat) (w : World) (s : St) (ns : List NV) (v : Value), d ≤ 100 → At X w s ns v → r (.bin d 1) s ≠ .out →
  Calls Tryz.prog 145 #[rd X, .int .i64 d] w (RT X w ns v (r (.bin d 1) s))
def KOp (X : Rdr) (r : Md → St → Rs Fo) : Prop := ∀ (d : Nat) (w : World) (s : St) (ns : List NV) (v : Value), d ≤ 100 → At X w s ns v → r (.opd d) s ≠ .out →
  Calls Tryz.prog 183 #[rd X, .int .i64 d] w (RT X w ns v (r (.opd d) s))
def KBn (X : Rdr) (r : Md → St → Rs Fo) : Prop := ∀ (d l : Nat) (w : World) (s : St) (ns : List NV) (v : Value), d ≤ 100 → 1 ≤ l → l ≤ 11 → At X w s ns v → r (.bin d l) s ≠ .out →
  Calls Tryz.prog 163 #[rd X, .int .i64 d, .int .i64 l] w (RT X w ns v (r (.bin d l) s))
def KSt (X : Rdr) (r : Md → St → Rs Fo) : Prop := ∀ (d : Nat) (w : World) (s : St) (ns : List NV) (v : Value), d ≤ 100 → At X w s ns v → r (.stm d) s ≠ .out →
  Calls Tryz.prog 143 #[rd X, .int .i64 d] w (RT X w ns v (r (.stm d) s))
/-- The answer of arguments: trees, and their places in a slice. -/
def RA (X : Rdr) (w : World) (ns : List NV) (v : Value) (R : Rs Fo) (e : Ending) (w' : World) : Prop :=
  match R with
  | .ok a s => ∃ v' nk g n cp, e = .returned (.slice (some ⟨g, 0, none⟩) n cp) ∧ At X w' s (ns ++ nk) v' ∧ Kp X w v w' v' ∧ Fl w nk a ns.length ∧ w'.ownsRow X.base tI 1 (.slice (some ⟨g, 0, none⟩) n cp) (a.roots ns.length).length (kidCells (a.roots ns.length)) ∧ w.heap.size ≤ g ∧ ∀ x ∈ ns ++ nk, x.v.ownBlock ≠ some g
  | .er no p => e = Pan no p ∧ Below X.base w w'
  | .out => False
def KAr (X : Rdr) (r : Md → St → Rs Fo) : Prop := ∀ (d : Nat) (w : World) (s : St) (ns : List NV) (v : Value), d ≤ 100 → At X w s ns v → r (.args d) s ≠ .out →
  Calls Tryz.prog 195 #[rd X, .int .i64 d] w (RA X w ns v (r (.args d) s))

/-- The same, of a call in a walk that began in w. -/
theorem Cur.ra {X : Rdr} {w W : World} {v u : Value} {s : St} {ns : List NV} {R : Rs Fo} {e : Ending} {w' : World} (h : Cur X w v W s ns u) (hr : RA X W ns u R e w') :
    (∃ no p, R = .er no p ∧ e = .panicked [{ v := .iface tF (faultV no p), recovered := false }] ∧ Below X.base w w') ∨
    (∃ a s' v' nk g n cp, R = .ok a s' ∧ e = .returned (.slice (some ⟨g, 0, none⟩) n cp) ∧ Cur X w v w' s' (ns ++ nk) v' ∧ Kp X W u w' v' ∧ Fl w nk a ns.length ∧ w'.ownsRow X.base tI 1 (.slice (some ⟨g, 0, none⟩) n cp) (a.roots ns.length).length (kidCells (a.roots ns.length)) ∧ W.heap.size ≤ g ∧ ∀ x ∈ ns ++ nk, x.v.ownBlock ≠ some g) := by
  cases R with
  | ok a s' => obtain ⟨v', nk, g, n, cp, h2, h3, h4, h5, h6, h7⟩ := hr; exact .inr ⟨a, s', v', nk, g, n, cp, rfl, h2, h.step h3 h4, h4, h5.old h.kp.size, h6, h7⟩
  | er no p => exact .inl ⟨no, p, rfl, hr.1, h.low.trans hr.2⟩
  | out => exact hr.elim
theorem ne_out {α β : Type} {R : Rs α} {f : α → St → Rs β} (h : R.bind f ≠ .out) : R ≠ .out := fun e => h (by rw [e]; rfl)

set_option maxHeartbeats 2000000 in
set_option maxRecDepth 100000 in
theorem call_any {X : Rdr} {r : Md → St → Rs Fo} (hA : KAr X r) {w : World} {s : St} {ns : List NV} {v : Value} (h : At X w s ns v) (f : Tok) (d : Nat) (hd : d ≤ 100) (hno : callB X.e r f d s ≠ .out) :
    Calls Tryz.prog 182 #[rd X, tokV f, .int .i64 d] w (RT X w ns v (callB X.e r f d s)) := by
  have hC := Cur.start h
  obtain ⟨M, hM⟩ : ∃ M, callB X.e r f d s = M := ⟨_, rfl⟩
  rw [hM]
  have HM := Lib.hid hM
  have HO := Lib.hid hno
  have hT := (Cur.new hC tE (tokA f))
  have hC1 := hC.alloc (.cells (tokA f) tE)
  have HX := Lib.hid (And.intro hC1 hT)
  clear hM hno h hC hC1 hT
  rw [str_eta]
  go_enter Tryz.func182, Tryz.ntmps182
  go_wp2_with fail
  refine (c_must HX.out.1 (by simp) [40] (by simp)).mono ?_
  intro e w1 hR
  rcases hR.cases with ⟨no, p, hm, rfl, hb⟩ | ⟨a1, s1, hm, rfl, hC1, hK1⟩
  · have HE : callB X.e r f d s = .er no p := by simp only [callB, hm, Rs.bind, if_true, if_false, Bool.false_eq_true]
    have HH := Lib.hid (And.intro HE hb)
    clear HE hb hm
    go_wp2_with fail
    refine panic_end rfl ?_
    rw [← HM.out, HH.out.1]
    exact ⟨rfl, HH.out.2⟩
  have E1 := Lib.hid hm
  have hT1 := HX.out.2.kept hK1
  obtain ⟨t0, t1, t2, t3, tl⟩ := hT1.blk.tok
  have hN1 := hC1.new tN (cells8 ⟨⟨7, f.p, 0, f.s, 0, 0⟩, [], .slice none 0 0⟩).toArray
  have HY := Lib.hid (And.intro (hC1.alloc (.cells (cells8 ⟨⟨7, f.p, 0, f.s, 0, 0⟩, [], .slice none 0 0⟩).toArray tN)) hN1)
  have hwl : w.heap.size ≤ w1.heap.size := hC1.kp.size
  clear hm hC1 hK1 hT1 hN1 HX hR
  go_wp2_with fail
  refine (c_is HY.out.1 [41]).mono ?_
  rintro e w2 ⟨rfl, hC2, hK2⟩
  have hN2 := HY.out.2.kept hK2
  cases hq : isT X.e [41] s1
  · have hno2 : r (.args d) s1 ≠ .out := by
      have := HO.out
      simp only [callB, E1.out, Rs.bind_ok, hq, Bool.false_eq_true, if_false] at this
      exact ne_out this
    have HN2 := Lib.hid hN2
    clear hK2 hN2 HY
    go_wp2_with fail
    refine (hA d w2 s1 ns v hd hC2.at_ hno2).mono ?_
    intro e w3 hR
    rcases hC2.ra hR with ⟨no, p, hm, rfl, hb⟩ | ⟨a, s3, v3, nk, g, n, cp, hm, rfl, hC3, hK3, hF, hkv, hgl, -⟩
    · have HE : callB X.e r f d s = .er no p := by simp only [callB, E1.out, Rs.bind_ok, hq, Bool.false_eq_true, if_false, hm, Rs.bind_er]
      have HH := Lib.hid (And.intro HE hb)
      clear HE hb hm
      go_wp2_with fail
      refine panic_end rfl ?_
      rw [← HM.out, HH.out.1]
      exact ⟨rfl, HH.out.2⟩
    have E3 := Lib.hid hm
    have hN3 := HN2.out.kept hK3
    obtain ⟨-, -, -, -, -, n53, -, -, nl3, nf3⟩ := hN3.blk.node
    have hnl2 := HN2.out.blk.lt
    have hC4 := hC3.set_ hN3 hwl (by decide) 5 (.slice (some ⟨g, 0, none⟩) n cp)
    have hN4 : Loc X (w3.setCell ⟨w1.heap.size, 5, none⟩ (.slice (some ⟨g, 0, none⟩) n cp)) v3 w1.heap.size tN (cells8 ⟨⟨7, f.p, 0, f.s, 0, 0⟩, a.roots ns.length, .slice (some ⟨g, 0, none⟩) n cp⟩).toArray := hN3.set_ 5 (.slice (some ⟨g, 0, none⟩) n cp)
    have hkv4 := row_keep (w' := w3.setCell ⟨w1.heap.size, 5, none⟩ (.slice (some ⟨g, 0, none⟩) n cp)) hkv fun g' hg' => Below.heap_setCell w3 _ _ g' (by simp [Value.ownBlock] at hg'; simp; omega)
    have HY := Lib.hid (And.intro hC4 (And.intro hN4 (And.intro hkv4 (And.intro hF (show ∀ g', (Value.slice (some ⟨g, 0, none⟩) n cp).ownBlock = some g' → w.heap.size ≤ g' from fun g' hg' => by simp [Value.ownBlock] at hg'; omega)))))
    clear hm hC3 hK3 hF hkv hgl hN3 hC2 hR hno2 HN2 hnl2 hC4 hN4 hkv4
    go_wp2_with fail
    refine (c_must HY.out.1 (by simp) [41] (by simp)).mono ?_
    intro e w4 hR
    rcases hR.cases with ⟨no, p, hm, rfl, hb⟩ | ⟨a5, s5, hm, rfl, hC5, hK5⟩
    · have HE : callB X.e r f d s = .er no p := by simp only [callB, E1.out, Rs.bind_ok, hq, Bool.false_eq_true, if_false, E3.out, hm, Rs.bind_er]
      have HH := Lib.hid (And.intro HE hb)
      clear HE hb hm
      go_wp2_with fail
      refine panic_end rfl ?_
      rw [← HM.out, HH.out.1]
      exact ⟨rfl, HH.out.2⟩
    have hE : callB X.e r f d s = addM ⟨7, f.p, 0, f.s, 0, 0⟩ a s5 := by simp only [callB, E1.out, Rs.bind_ok, hq, Bool.false_eq_true, if_false, E3.out, hm]
    have HE := Lib.hid hE
    have hN5 := HY.out.2.1.kept hK5
    have hkv5 := kid_kept HY.out.1.at_ HY.out.2.2.1 hK5
    obtain ⟨n0, n1, n2, n3, n4, n5, n6, n7, nl, -⟩ := hN5.blk.node
    have HF := Lib.hid HY.out.2.2.2.1
    have HG := Lib.hid HY.out.2.2.2.2
    have HZ := Lib.hid (And.intro hC5 hkv5)
    clear hm hC5 hK5 hN5 hkv5 HY hR hE
    go_wp2_with fail
    refine (c_add HZ.out.1 ⟨7, f.p, 0, f.s, 0, 0⟩ a HF.out HG.out HZ.out.2).mono ?_
    intro e w99 hR
    have HR := Lib.hid hR
    rcases hR.form with ⟨i, rfl⟩ | ⟨ch, rfl⟩
    · clear hR
      go_wp2_with fail
      go_ret
      rw [← HM.out, HE.out]
      exact HR.out
    · clear hR
      go_wp2_with fail
      refine panic_end rfl ?_
      rw [← HM.out, HE.out]
      exact HR.out
  · have HN2 := Lib.hid (And.intro hC2 hN2)
    clear hK2 hN2 HY hC2
    go_wp2_with fail
    refine (c_must HN2.out.1 (by simp) [41] (by simp)).mono ?_
    intro e w4 hR
    rcases hR.cases with ⟨no, p, hm, rfl, hb⟩ | ⟨a5, s5, hm, rfl, hC5, hK5⟩
    · have HE : callB X.e r f d s = .er no p := by simp only [callB, E1.out, Rs.bind_ok, hq, if_true, hm, Rs.bind_er]
      have HH := Lib.hid (And.intro HE hb)
      clear HE hb hm
      go_wp2_with fail
      refine panic_end rfl ?_
      rw [← HM.out, HH.out.1]
      exact ⟨rfl, HH.out.2⟩
    have hE : callB X.e r f d s = addM ⟨7, f.p, 0, f.s, 0, 0⟩ .nil s5 := by simp only [callB, E1.out, Rs.bind_ok, hq, if_true, hm]
    have HE := Lib.hid hE
    have hN5 := HN2.out.2.kept hK5
    obtain ⟨n0, n1, n2, n3, n4, n5, n6, n7, nl, -⟩ := hN5.blk.node
    have HZ := Lib.hid hC5
    clear hm hC5 hK5 hN5 HN2 hR hE
    go_wp2_with fail
    refine (c_leaf HZ.out ⟨7, f.p, 0, f.s, 0, 0⟩).mono ?_
    intro e w99 hR
    have HR := Lib.hid hR
    rcases hR.form with ⟨i, rfl⟩ | ⟨ch, rfl⟩
    · clear hR
      go_wp2_with fail
      go_ret
      rw [← HM.out, HE.out]
      exact HR.out
    · clear hR
      go_wp2_with fail
      refine panic_end rfl ?_
      rw [← HM.out, HE.out]
      exact HR.out
end Go.Proofs.YtfaoiajhoifalaaGreatDoor
