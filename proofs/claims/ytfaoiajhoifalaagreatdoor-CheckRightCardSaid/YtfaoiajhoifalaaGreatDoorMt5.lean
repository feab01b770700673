/-
  Layer check: a node and all nodes below it, in ascending order. Layer check: the view of the checker when a body is begun, and when a label is found. Layer check: a body's labels are found. Layer check: a body.
-/
import Derived.Test.YtfaoiajhoifalaaGreatDoorMt4
import Derived.Test.YtfaoiajhoifalaaGreatDoorMt1
import Derived.Test.YtfaoiajhoifalaaGreatDoorShelf2
import Derived.Sort.OwnSortedInts
/-! Ckw -/
namespace Go.Proofs.YtfaoiajhoifalaaGreatDoor
open Go Go.RowKit Go.Maps Go.Sort
set_option linter.unusedVariables false
set_option linter.unusedSimpArgs false

/-- within's loops: the list so far, in a row of its own. -/
structure WiV (X : CkX) (S : CkS) (σ : Cs) (w0 : World) (c n : Nat) (D : List Nat) (Q R : List (Fo × Nat)) (sb : List Bool) (v : Value) (w : World) : Prop where
  wi : Wi (X.ns.map CN.nd) S.sb sb c n D Q R
  row : w.ownsRow w0.heap.size tInt 1 v (D.length + Q.length) (ints (natI (D ++ Q.map idq)))
  ck : CkV X { S with sb := sb } σ w
  bl : Below X.B w0 w
  sz : w0.heap.size ≤ w.heap.size
/-- What within answers. -/
def WithP (X : CkX) (S : CkS) (σ : Cs) (w0 : World) (c n : Nat) (e : Ending) (w' : World) : Prop :=
  ∃ v sb, e = .returned v ∧ w'.ownsRow w0.heap.size tInt 1 v (n + 1) (ints (natI (List.range' c (n + 1)))) ∧ CkV X { S with sb := sb } σ w' ∧ Below X.B w0 w' ∧ (∀ i, i < c ∨ c + n + 1 ≤ i → sb[i]? = S.sb[i]?) ∧ sb.length = S.sb.length
theorem row_one {w : World} {B : Nat} (hB : B ≤ w.heap.size) (i : Int) : (w.alloc (.cells #[.int .i64 i] tInt)).ownsRow B tInt 1 (.slice (some ⟨w.heap.size, 0, none⟩) 1 1) 1 (ints [i]) :=
  ⟨rfl, .inr ⟨_, 1, _, rfl, hB, Blk.new _ _ _, Nat.le_refl _, by decide, rfl, rfl⟩⟩
theorem WiV.on {X : CkX} {S : CkS} {σ : Cs} {w0 w w' : World} {c n : Nat} {D : List Nat} {Q R : List (Fo × Nat)} {sb : List Bool} {v : Value} (h : WiV X S σ w0 c n D Q R sb v w) (hb : Below w.heap.size w w') : WiV X S σ w0 c n D Q R sb v w' :=
  ⟨h.wi, gr_row (grown_of_below hb) h.row (by simp), h.ck.on hb, h.bl.trans (hb.mono h.ck.Ble), Nat.le_trans h.sz hb.size⟩
theorem WiV.next {X : CkX} {S : CkS} {σ : Cs} {w0 w : World} {c n : Nat} {D : List Nat} {x : Fo × Nat} {Q : List (Fo × Nat)} {sb : List Bool} {v : Value} (h : WiV X S σ w0 c n D (x :: Q) [] sb v w) : WiV X S σ w0 c n (D ++ [idq x]) Q (kq x.1 x.2) sb v w :=
  ⟨h.wi.next.2, by have := h.row; simpa [Nat.add_assoc, Nat.add_comm 1] using this, h.ck, h.bl, h.sz⟩
/-- A kid is met: marked, and put at the list's end. -/
theorem WiV.step {X : CkX} {S : CkS} {σ : Cs} {w0 w w3 w4 : World} {c n : Nat} {D : List Nat} {y : Fo × Nat} {Q R : List (Fo × Nat)} {sb : List Bool} {v v' : Value} {o : Obj} (h : WiV X S σ w0 c n D Q (y :: R) sb v w) (hS : S.H ≤ w0.heap.size) (hX : X.B ≤ w0.heap.size) (hnv : S.on = true → S.vls[S.fi]? = some (.slice none 0 0))
    (hC3 : CkV X { S with sb := sb.set (idq y) true } σ w3) (hb3 : Below X.B w w3) (hr3 : w3.ownsRow w0.heap.size tInt 1 v (D.length + Q.length) (ints (natI (D ++ Q.map idq))))
    (hg4 : (w3.alloc o).grownBy w4 v.ownBlock) (hb4 : Below w0.heap.size w3 w4) (hr4 : w4.ownsRow w0.heap.size tInt 1 v' (D.length + Q.length + 1) (ints (natI (D ++ Q.map idq)) ++ [.int .i64 (idq y : Nat)])) (h3 : w0.heap.size ≤ w3.heap.size) :
    WiV X S σ w0 c n D (Q ++ [y]) R (sb.set (idq y) true) v' w4 := by
  refine ⟨h.wi.claim.2, by simpa [ints, natI, Nat.add_assoc] using hr4, ?_, h.bl.trans (hb3.trans (hb4.mono hX)), by have := hg4.size; simp at this; omega⟩
  refine (hC3.alloc o).other hg4 (fun r e => ⟨row_kind (hr3.alloc o) e, ?_⟩) hnv
  rcases hr3.2 with ⟨e1, _⟩ | ⟨g, cap, cur, rfl, hbg, _⟩
  · rw [e1] at e; cases e
  · simp only [Value.ownBlock, Option.some.injEq] at e
    exact Nat.le_trans hS (by omega)
set_option maxHeartbeats 4000000 in
set_option maxRecDepth 100000 in
theorem withinL_any {X : CkX} {S : CkS} {σ : Cs} {w : World} (h : CkV X S σ w) {k : Fo} {c : Nat} (hp : Pk (X.ns.map CN.nd) (k, c)) (hn : ∀ i, c ≤ i → i < c + k.size + 1 → S.sb[i]? = some false) (hnv : S.on = true → S.vls[S.fi]? = some (.slice none 0 0)) (hsz : k.size ≤ 1000000) (r : Nat) (hr : c + k.size = r) :
    Calls Tryz.prog 96 #[ckp X, .int .i64 (r : Int)] w (WithP X S σ w c k.size) := by
  obtain ⟨R, hR⟩ : ∃ R : Ending → World → Prop, WithP X S σ w c k.size = R := ⟨_, rfl⟩
  rw [hR]
  have HR := Lib.hid hR
  clear hR
  have HS0 := Wi.start hp hn
  obtain ⟨hs0, hS1⟩ := HS0.claim
  have hrl : r < X.ns.length := by
    obtain ⟨h', e⟩ := hp.2
    have := (List.getElem?_eq_some_iff.1 e).1
    simp only [List.length_map, idq] at this
    omega
  simp only [idq, hr] at hs0 hS1
  have HC := Lib.hid (claim_any h hrl hs0)
  have H := Lib.hid (And.intro h (And.intro hnv hS1))
  have HRr := Lib.hid hr
  clear h hnv hp hn HS0 hs0 hS1 hrl hr
  go_enter Tryz.func96, Tryz.ntmps96
  go_wp2_with fail
  refine HC.out.mono ?_
  clear HC
  rintro e w1 ⟨rfl, hC1, hb1, hg1⟩
  have HV := Lib.hid (show WiV X S σ w c k.size [] [(k, c)] [] (S.sb.set r true) (.slice (some ⟨w1.heap.size, 0, none⟩) 1 1) (w1.alloc (.cells #[.int .i64 r] tInt)) from
    ⟨by simpa using H.out.2.2, by have := row_one (w := w1) (B := w.heap.size) hg1.size (r : Int); simpa [idq, natI, HRr.out] using this, hC1.alloc _, hb1.alloc (Nat.le_trans H.out.1.Ble hg1.size) _, by have := hg1.size; simp; omega⟩)
  clear hC1 hb1 hg1
  go_wp2_with fail
  go_loopw [5, 6] (fun v5 v6 wr => ∃ (D : List Nat) (Q : List (Fo × Nat)) (sb : List Bool) (g cap m d : Nat), m = D.length + Q.length ∧ d = D.length ∧ v5 = .slice (some ⟨g, 0, none⟩) m cap ∧ v6 = .int .i64 d ∧ WiV X S σ w c k.size D Q [] sb v5 wr) (fun _ v _ => k.size + 1 - (intOf v).toNat)
  case atStart => exact ⟨[], [(k, c)], _, _, 1, 1, 0, rfl, rfl, rfl, rfl, HV.out⟩
  case round =>
    obtain ⟨D, Q, sb, g, cap, m, d, hm, hd, rfl, rfl, hV⟩ := hrel
    cases Q with
    | nil =>
      obtain rfl : m = d := by simp at hm; omega
      have hDl : D.length = k.size + 1 := by have := hV.wi.bf.all.length_eq; simpa using this
      have hml : m = k.size + 1 := by omega
      have hrow : wr.ownsRow w.heap.size tInt 1 (.slice (some ⟨g, 0, none⟩) m cap) m (ints (natI D)) := by
        have := hV.row
        simp only [List.length_nil, Nat.add_zero, List.map_nil, List.append_nil] at this
        rw [← hd] at this
        exact this
      rcases hrow.2 with ⟨e, _⟩ | ⟨g', cap', cur, e, hbase, hb, h1, h2, h3, h4⟩
      · cases e
      simp only [Value.slice.injEq, Option.some.injEq, Addr.mk.injEq, and_true, true_and] at e
      obtain ⟨rfl, rfl⟩ := e
      have hkl : (natI D).length = m := by simp [natI]; omega
      have hH : Holds (Value.int .i64) wr g 0 (natI D).toArray := holds_of_blockI hb (by rw [hkl]; simpa [ints] using h4)
      have hgl : g < wr.heap.size := (Array.getElem?_eq_some_iff.1 hb).1
      have hsort := Tryz.slices_Sort_int g 0 cap (natI D) wr hH hgl (by rw [hkl]; omega)
      have hl2 : ((natI D).mergeSort fun x y => decide (x ≤ y)).length = (natI D).length := List.length_mergeSort _
      have hdone : ((natI D).mergeSort fun x y => decide (x ≤ y)) = natI (List.range' c (k.size + 1)) := hV.wi.done
      rw [hkl] at hsort
      have HVV := Lib.hid (And.intro hV (And.intro hrow (And.intro hbase (And.intro hb (And.intro h1 (And.intro h2 (And.intro h3 (And.intro hkl (And.intro hl2 (And.intro hdone hml))))))))))
      clear hV hm hd hrow hbase hb h1 h2 h3 h4 hkl hl2 hdone hml hH
      go_wp2_with fail
      refine hsort.mono ?_
      rintro e w' ⟨rfl, nn, os, rfl⟩
      have HF : Hid (R (.returned (.slice (some ⟨g, 0, none⟩) m cap)) (grow (putRow (Value.int .i64) (Sort.ahead wr nn) g 0 ((natI D).mergeSort fun x y => decide (x ≤ y)).toArray) os)) := Lib.hid (by
        obtain ⟨hV, hrow, hbase, hb, h1, h2, h3, hkl, hl2, hdone, hml⟩ := HVV.out
        have hg := grownBy_sortedI (w := wr) (g := g) (n := nn) (os := os) ((natI D).mergeSort fun x y => decide (x ≤ y)).toArray
        have hro := ownsRow_sortedI (n := nn) (os := os) (ts := (natI D).mergeSort fun x y => decide (x ≤ y)) hl2 hbase hb (by rw [hkl]; exact h1) h2 h3
        rw [hkl] at hro
        rw [← HR.out]
        refine ⟨_, sb, rfl, ?_, hV.ck.other hg (fun r e => ?_) H.out.2.1, hV.bl.grown hg (Nat.le_trans H.out.1.Ble hV.sz) (fun j e => ?_), hV.wi.old, hV.wi.ln⟩
        · rw [← hdone, ← hml]; exact hro
        · cases e
          exact ⟨⟨_, _, hb⟩, Nat.le_trans H.out.1.hB.2.2.2.2.2 hbase⟩
        · cases e
          exact Nat.le_trans H.out.1.Ble hbase)
      generalize (grow (putRow (Value.int .i64) (Sort.ahead wr nn) g 0 ((natI D).mergeSort fun x y => decide (x ≤ y)).toArray) os) = W9 at *
      clear hsort
      go_wp2_with fail
      exact HF.out
    | cons x Q =>
      have hlt : (d : Int) < m := by simp at hm; omega
      obtain ⟨⟨h', hnd⟩, hW⟩ := hV.wi.next
      obtain ⟨y, hy, hyk⟩ : ∃ y : CN, X.ns[idq x]? = some y ∧ y.kids = (kq x.1 x.2).map idq := by
        rw [List.getElem?_map] at hnd
        cases hx : X.ns[idq x]? with
        | none => rw [hx] at hnd; cases hnd
        | some y =>
          rw [hx] at hnd
          simp only [Option.map_some, Option.some.injEq, CN.nd, Nd.mk.injEq] at hnd
          exact ⟨y, rfl, hnd.2⟩
      obtain ⟨kA, kc, hkv, hkr⟩ := hV.ck.kids hy
      have h5 := hV.ck.nodeCell hy 5 (by omega)
      simp only [cellT, List.getElem?_cons_succ, List.getElem?_cons_zero] at h5
      rw [hkv] at h5
      have c2 := hV.ck.c2
      have hbl := hV.ck.chk.lt
      have hnl := hV.ck.nodeLt
      have hgl : g < wr.heap.size := (row_kind hV.row rfl).lt
      have hc := hV.row
      rw [← hm] at hc
      have hc5 : wr.cell? ⟨g, d, none⟩ = some (.int .i64 (idq x)) := by
        rw [hc.cellAt d (by omega), hd]
        simp [ints, natI]
      have hidx : (idq x : Int) < X.ns.length := by have := (List.getElem?_eq_some_iff.1 hy).1; omega
      obtain ⟨kn, hkn⟩ : ∃ n, y.kids.length = n := ⟨_, rfl⟩
      rw [hkn] at h5
      have HVV := Lib.hid (And.intro hV (And.intro hW (And.intro hm (And.intro hd (And.intro hy (And.intro hyk (And.intro hkv hkn)))))))
      clear hV hW hc hkr hkv hyk hnd hkn
      obtain ⟨ix, hix⟩ : ∃ i, idq x = i := ⟨_, rfl⟩
      rw [hix] at h5 hc5 hidx hy
      have HIX := Lib.hid hix
      clear hix hy hm hd
      have hdk : d < k.size + 1 := by
        have h1 := HVV.out.1.wi.len
        have h2 := HVV.out.2.2.2.1
        simp only [List.length_cons, List.length_nil] at h1
        omega
      have hknb : kn ≤ 1000001 := by
        have h1 := HVV.out.2.1.len
        have h2 := HVV.out.2.2.2.2.2.2.2
        rw [HVV.out.2.2.2.2.2.1] at h2
        simp only [List.length_append, List.length_cons, List.length_nil, List.length_map] at h1 h2
        omega
      go_upto_region 5 with (fail)
      go_quiet (fail)
      go_wp2_with fail
      go_loopw [5, 32] (fun v5 v32 wi => ∃ (Q2 R2 : List (Fo × Nat)) (sb2 : List Bool) (g2 cap2 m2 jj : Nat), v32 = .int .i64 jj ∧ v5 = .slice (some ⟨g2, 0, none⟩) m2 cap2 ∧ m2 = d + 1 + Q2.length ∧ jj + R2.length = kn ∧ R2.map idq = y.kids.drop jj ∧ WiV X S σ w c k.size (D ++ [ix]) Q2 R2 sb2 v5 wi) (fun _ v _ => kn - (intOf v).toNat)
      case atStart =>
        obtain ⟨hV, hW, hm, hd, hy, hyk, hkv, hkn⟩ := HVV.out
        refine ⟨Q, kq x.1 x.2, sb, g, cap, m, 0, rfl, rfl, by simp at hm; omega, by rw [← hkn, hyk]; simp, by rw [List.drop_zero, hyk], ?_⟩
        rw [← HIX.out]
        exact hV.next.on (below_drewN _ _ _)
      case round =>
        obtain ⟨Q2, R2, sb2, g2, cap2, m2, jj, rfl, rfl, hm2, hjj, hRk, hI⟩ := hrel
        cases R2 with
        | nil =>
          obtain rfl : jj = kn := by simpa using hjj
          have HI := Lib.hid (And.intro hI hm2)
          clear hI hm2 hRk
          go_wp2_with fail
          go_roundw
          case rel => exact ⟨D ++ [ix], Q2, sb2, g2, cap2, m2, d + 1, by have := HVV.out.2.2.2.1; have := HI.out.2; simp; omega, by have := HVV.out.2.2.2.1; simp; omega, rfl, by go_num, HI.out.1⟩
          case measure => simp [intOf]; omega
        | cons z R3 =>
          have hjk : (jj : Int) < kn := by simp only [List.length_cons] at hjj; omega
          have hkz : y.kids[jj]? = some (idq z) := by
            have e := congrArg (fun l => l[0]?) hRk
            simpa using e.symm
          obtain ⟨kA', kc', e1, hkr⟩ := hI.ck.kids HVV.out.2.2.2.2.1
          rw [HVV.out.2.2.2.2.2.2.1] at e1
          simp only [Value.slice.injEq] at e1
          obtain ⟨e1, -, -⟩ := e1
          rw [← e1] at hkr
          obtain ⟨gk, o, hkA, hgk, hkc⟩ : ∃ g o, kA = some ⟨g, o, none⟩ ∧ g < wr.heap.size ∧ wr.cell? ⟨g, o + jj, none⟩ = some (.int .i64 ((idq z : Nat) : Int)) := by
            rcases hkr with h0 | ⟨g, o, e, hg, hc⟩
            · rw [h0] at hkz; simp at hkz
            · exact ⟨g, o, e, hg, hc jj _ hkz⟩
          obtain ⟨hsf, hwn⟩ := hI.wi.claim
          have hzl : idq z < X.ns.length := by
            have h1 := (List.getElem?_eq_some_iff.1 hsf).1
            have h2 := hI.ck.sbl
            simp only at h2
            omega
          have HC := Lib.hid (claim_any hI.ck hzl hsf)
          have hR3 : R3.map idq = y.kids.drop (jj + 1) := by
            have e := congrArg List.tail hRk
            simpa [List.tail_drop] using e
          have hm2l : m2 ≤ 1000001 := by
            have h1 := hI.wi.len
            have h2 := HVV.out.2.2.2.1
            simp only [List.length_append, List.length_cons, List.length_nil] at h1
            omega
          have hjj2 : jj + 1 + R3.length = kn := by simp only [List.length_cons] at hjj; omega
          have HI := Lib.hid (And.intro hI (And.intro hm2 hR3))
          obtain ⟨iz, hiz⟩ : ∃ i, idq z = i := ⟨_, rfl⟩
          rw [hiz] at hkc HC hzl
          have HIZ := Lib.hid hiz
          subst hkA
          clear hI hRk hkr hkz hsf hwn hm2 hR3 hiz e1 hjj
          go_wp2_with fail
          refine HC.out.mono ?_
          clear HC
          rintro e w3 ⟨rfl, hC3, hb3, hg3⟩
          obtain ⟨i0, hi, hz0, hz1, hz2⟩ := info_pk infoIn
          have hrow3 : w3.ownsRow w.heap.size tInt 1 (.slice (some ⟨g2, 0, none⟩) m2 cap2) m2 (ints (natI ((D ++ [ix]) ++ Q2.map idq))) := by
            have hr0 := HI.out.1.row
            have hl : (D ++ [ix]).length + Q2.length = m2 := by have := HVV.out.2.2.2.1; have := HI.out.2.1; simp; omega
            rw [hl] at hr0
            refine gr_row hg3 hr0 (fun r e1 e2 => ?_)
            cases e1
            exact kind_ne (row_kind hr0 e2) (row_kind HI.out.1.ck.see rfl) (by decide) rfl
          have hB3 : w.heap.size ≤ w3.heap.size := Nat.le_trans HI.out.1.sz hg3.size
          have HC3 := Lib.hid (And.intro hC3 (And.intro hb3 (And.intro hrow3 hB3)))
          clear hC3 hb3 hg3
          go_wp2_with (at_builtin; refine appK tInt 40 i0 _ 1 8 Tryz.underlying40 hi hz0 hz1 hz2 rfl (by omega) (by omega) w.heap.size w3 w3 w3.heap.size rfl _ m2 _ #[.int .i64 iz] rfl (by simp [Value.oneCell']) _ _ rfl rfl rfl rfl hrow3 (Below.refl _ _) hB3 (by omega) ?_; intro v' w4 hr4 hb4 hg4 hsh; obtain ⟨gv, cp, rfl⟩ := hsh; have HG4 := Lib.hid (And.intro hr4 (And.intro hb4 hg4)); clear hr4 hb4 hg4 hrow3)
          have HST := Lib.hid (show WiV X S σ w c k.size (D ++ [ix]) (Q2 ++ [z]) R3 (sb2.set (idq z) true) (.slice (some ⟨gv, 0, none⟩) (m2 + 1) cp) w4 by
            have hl : (D ++ [ix]).length + Q2.length = m2 := by have := HVV.out.2.2.2.1; have := HI.out.2.1; simp; omega
            refine HI.out.1.step H.out.1.hB.2.2.2.2.2 H.out.1.Ble H.out.2.1 (by rw [HIZ.out]; exact HC3.out.1) HC3.out.2.1 (by rw [hl]; exact HC3.out.2.2.1) HG4.out.2.2 HG4.out.2.1 (by rw [hl, HIZ.out]; exact HG4.out.1) HC3.out.2.2.2)
          go_roundw
          case rel => exact ⟨Q2 ++ [z], R3, _, gv, cp, m2 + 1, jj + 1, by go_num, rfl, by have := HI.out.2.1; simp; omega, hjj2, HI.out.2.2, HST.out⟩
          case measure => simp [intOf]; omega
end Go.Proofs.YtfaoiajhoifalaaGreatDoor
/-! Ckx -/
namespace Go.Proofs.YtfaoiajhoifalaaGreatDoor
open Go Go.RowKit Go.Maps
set_option linter.unusedVariables false
set_option linter.unusedSimpArgs false

section
variable {X : CkX} {S : CkS} {σ : Cs} {w w' : World}
/-- A label is put. -/
theorem CkV.label (h : CkV X S σ w) (on : S.on = true) (hg : w.grownBy w' (some S.lbB)) {l : List (Nm' × Int)} (hl : LbV w' S.lbB l.length l) : CkV X { S with lb := l } σ w' := by
  have hk := mpv_kind (h.lab on).2.1
  have hr : ∀ {base sz n : Nat} {T : TypeId} {v : Value} {xs : List Value}, w.ownsRow base T sz v n xs → ∀ r, some S.lbB = some r → v.ownBlock ≠ some r := by
    intro base sz n T v xs h1 r hr e
    cases hr
    exact kindM_ne (row_kind h1 e) hk rfl
  exact {
    chk := gr_blk hg h.chk (fun e => kindM_ne h.chk.kind hk (Option.some.inj e).symm)
    nod := gr_row hg h.nod (hr h.nod)
    fun_ := gr_row hg h.fun_ (hr h.fun_)
    see := gr_row hg h.see (hr h.see)
    trl := h.trl
    vll := h.vll
    fil := h.fil
    var := fun e => let ⟨v, h1, h2⟩ := h.var e; ⟨v, h1, gr_row hg h2 (hr h2)⟩
    sco := gr_row hg h.sco (hr h.sco)
    scl := h.scl
    map_ := fun j m s h1 h2 => ⟨(h.map_ j m s h1 h2).1, gr_map hg (h.map_ j m s h1 h2).2 (fun e => h.labn on (by rw [Option.some.inj e]; exact List.mem_of_getElem? h1))⟩
    nod2 := h.nod2
    lab := fun _ => ⟨(h.lab on).1, hl, (h.lab on).2.2⟩
    labn := h.labn
    kid_ := fun x hx => gr_rowB hg (h.kid_ x hx) (hr (h.kid_ x hx).1)
    old := fun j v l h1 h2 h3 => gr_rowB hg (h.old j v l h1 h2 h3) (hr (h.old j v l h1 h2 h3).1)
    prm := fun x hx => gr_rowB hg (h.prm x hx) (hr (h.prm x hx).1)
    glb := gr_rowB hg h.glb (hr h.glb.1)
    hB := ⟨h.hB.1, h.hB.2.1, h.hB.2.2.1, h.hB.2.2.2.1, h.hB.2.2.2.2.1, Nat.le_trans h.hB.2.2.2.2.2 hg.size⟩ }
/-- Between two bodies a cell of the checker's that tells the function or its labels is written. -/
theorem CkV.head (h : CkV X S σ w) (i : Nat) (v : Value) (S' : CkS) (hc : ((ckCells X S).setIfInBounds i v) = ckCells X S') (hS : S'.vls = S.vls ∧ S'.mps = S.mps ∧ S'.scv = S.scv ∧ S'.sb = S.sb ∧ S'.done = S.done) (hH : S.H ≤ S'.H) (hH2 : S'.H ≤ w.heap.size)
    (hfil : S'.on = true → S'.fi < X.fl.length ∧ S'.fpV = .pointer (some ⟨X.fB, S'.fi * 6, none⟩)) (hvar : S'.on = true → S.vls[S'.fi]? = some (.slice none 0 0) ∧ σ.vs = [])
    (hlab : S'.on = true → X.B ≤ S'.lbB ∧ LbV w S'.lbB S'.lb.length S'.lb ∧ S'.lmV = .map (some S'.lbB)) (hlabn : S'.on = true → S'.lbB ∉ S.mps)
    (hold : ∀ (j : Nat) (v : Value) (l : List Int), S.vls[j]? = some v → S.done[j]? = some l → j < S'.fi → RowB w X.B S'.H tInt 1 v l.length (ints l)) : CkV X S' σ (w.setCell ⟨X.b, i, none⟩ v) := by
  obtain ⟨on', fp', lm', fi', H', vls', mps', scv', lbB', lb', sb', done'⟩ := S'
  obtain ⟨rfl, rfl, rfl, rfl, rfl⟩ := hS
  have hk : Kind w X.b tCk := h.chk.kind
  have hg2 : w.grownBy (w.setCell ⟨X.b, i, none⟩ v) (some X.b) := ⟨rfl, rfl, rfl, by simp, fun k _ hk => heap_setCell_other w ⟨X.b, i, none⟩ k v (fun e => hk (by simp [e]))⟩
  have hr2 : ∀ {base sz n : Nat} {T : TypeId} {v : Value} {xs : List Value}, w.ownsRow base T sz v n xs → T ≠ tCk → ∀ r, some X.b = some r → v.ownBlock ≠ some r := by
    intro base sz n T v xs h1 hT r hr e
    cases hr
    exact kind_ne (row_kind h1 e) hk hT rfl
  have hm2 : ∀ {m : Nat}, KindM w m → some X.b ≠ some m := fun h1 e => kindM_ne hk h1 (Option.some.inj e)
  exact {
    chk := by
      have := h.chk.set_ i v
      rw [hc] at this
      exact this
    nod := gr_row hg2 h.nod (hr2 h.nod (by decide))
    fun_ := gr_row hg2 h.fun_ (hr2 h.fun_ (by decide))
    see := gr_row hg2 h.see (hr2 h.see (by decide))
    trl := h.trl
    vll := h.vll
    fil := hfil
    var := fun e => ⟨_, (hvar e).1, by rw [(hvar e).2]; exact World.ownsRow_nil _ _ _ _⟩
    sco := gr_row hg2 h.sco (hr2 h.sco (by decide))
    scl := h.scl
    map_ := fun j m s h1 h2 => ⟨(h.map_ j m s h1 h2).1, gr_map hg2 (h.map_ j m s h1 h2).2 (hm2 (mpv_kind (h.map_ j m s h1 h2).2))⟩
    nod2 := h.nod2
    lab := fun e => ⟨(hlab e).1, gr_map hg2 (hlab e).2.1 (hm2 (mpv_kind (hlab e).2.1)), (hlab e).2.2⟩
    labn := hlabn
    kid_ := fun x hx => (gr_rowB hg2 (h.kid_ x hx) (hr2 (h.kid_ x hx).1 (by decide))).mono hH
    old := fun j v l h1 h2 h3 => gr_rowB hg2 (hold j v l h1 h2 h3) (hr2 (hold j v l h1 h2 h3).1 (by decide))
    prm := fun x hx => (gr_rowB hg2 (h.prm x hx) (hr2 (h.prm x hx).1 (by decide))).mono hH
    glb := (gr_rowB hg2 h.glb (hr2 h.glb.1 (by decide))).mono hH
    hB := by have := h.hB; simp at hH hH2 ⊢; omega }
end
end Go.Proofs.YtfaoiajhoifalaaGreatDoor
/-! Cky -/
namespace Go.Proofs.YtfaoiajhoifalaaGreatDoor
open Go Go.RowKit Go.Maps
set_option linter.unusedVariables false
set_option linter.unusedSimpArgs false

theorem hld_at (L : List Nd) (F : Fo) : ∀ c, Hld L F c → ∀ j, j < F.size → L[c + j]? = (F.flat c)[j]? := by
  induction F with
  | nil => intro c _ j hj; simp [Fo.size] at hj
  | cons h k r ih1 ih2 =>
    intro c hh j hj
    obtain ⟨h1, h2, h3⟩ := hh
    simp only [Fo.flat]
    by_cases hjk : j < k.size
    · rw [List.getElem?_append_left (by rw [Fo.flat_length]; exact hjk)]
      exact ih1 c h1 j hjk
    · rw [List.getElem?_append_right (by rw [Fo.flat_length]; omega), Fo.flat_length]
      by_cases hjk2 : j = k.size
      · subst hjk2
        simpa using h2
      · obtain ⟨m, rfl⟩ : ∃ m, j = k.size + 1 + m := ⟨j - (k.size + 1), by omega⟩
        have e : k.size + 1 + m - k.size = m + 1 := by omega
        rw [e, List.getElem?_cons_succ, ← ih2 _ h3 m (by simp only [Fo.size] at hj; omega)]
        congr 1
        omega
theorem look_isSome {α : Type} (l : List (Nm' × α)) (x : Nm') : (look l x).isSome = decide (x ∈ l.map (·.1)) := by
  induction l with
  | nil => rfl
  | cons p l ih =>
    unfold look at ih ⊢
    rw [List.find?_cons]
    by_cases hp : p.1 = x
    · simp [hp]
    · have hp' : ¬ x = p.1 := fun e => hp e.symm
      rw [show decide (p.1 = x) = false by simp [hp]]
      simp only [List.map_cons, List.mem_cons, hp', false_or]
      exact ih
theorem lab_step (n : Nd) (r : List Nd) (l : List Nm') : labM (n :: r) l = if n.h.op = 18 then (if n.h.s ∈ l then .er 5 n.h.p else labM r (l ++ [n.h.s])) else labM r l := rfl
/-- What findLabels answers. -/
def LabP (X : CkX) (S : CkS) (σ : Cs) (w0 : World) (c n : Nat) (r : Ck (List Nm')) (e : Ending) (w' : World) : Prop :=
  (∃ lb S', r = .ok lb ∧ e = .returned (.tuple #[]) ∧ CkV X S' σ w' ∧ Below X.B w0 w' ∧ S'.on = true ∧ (∀ s, (look S'.lb s).isSome = decide (s ∈ lb)) ∧ S'.fi = S.fi ∧ S'.vls = S.vls ∧ S'.mps = S.mps ∧ S'.scv = S.scv ∧ S'.done = S.done ∧ S'.sb.length = S.sb.length ∧ (∀ i, i < c ∨ c + n + 1 ≤ i → S'.sb[i]? = S.sb[i]?)) ∨
  (∃ no p, r = .er no p ∧ e = .panicked [{ v := .iface tFt (.agg #[.int .i64 no, .int .i64 p]), recovered := false }] ∧ Below X.B w0 w')
set_option maxHeartbeats 500000 in
set_option maxRecDepth 100000 in
theorem findLabels_any {X : CkX} {S : CkS} {σ : Cs} {w : World} (h : CkV X S σ w) {h0 : Hd} {k : Fo} {c : Nat} (hh : Hld (X.ns.map CN.nd) (.cons h0 k .nil) c) (hn : ∀ i, c ≤ i → i < c + k.size + 1 → S.sb[i]? = some false)
    {f : Fn'} {pv : Value} (hf : X.fl[S.fi]? = some (f, pv)) (hfp : S.fpV = .pointer (some ⟨X.fB, S.fi * 6, none⟩)) (hfb : f.b = c + k.size) (hv : S.vls[S.fi]? = some (.slice none 0 0)) (hvs : σ.vs = []) (hsz : k.size ≤ 1000000) (hnm : ∀ x ∈ X.ns, x.h.s.length ≤ 1000000) :
    Calls Tryz.prog 54 #[ckp X] w (LabP X S σ w c k.size (labM (Fo.flat c (.cons h0 k .nil)) [])) := by
  obtain ⟨R, hR⟩ : ∃ R : Ending → World → Prop, LabP X S σ w c k.size (labM (Fo.flat c (.cons h0 k .nil)) []) = R := ⟨_, rfl⟩
  rw [hR]
  have HR := Lib.hid hR
  have hmm := @run_makeMap Tryz.prog
  have hp : Pk (X.ns.map CN.nd) (k, c) := ⟨hh.1, h0, by simp only [idq]; rw [kq_idq]; exact hh.2.1⟩
  have hbl := h.chk.lt
  have hf6 := h.chk.frozen 6
  have c6w := h.c6
  have hfil := (List.getElem?_eq_some_iff.1 hf).1
  obtain ⟨S1, hS1⟩ : ∃ S1 : CkS, S1 = { S with on := true, lmV := .map (some w.heap.size), lbB := w.heap.size, lb := [], H := w.heap.size + 1 } := ⟨_, rfl⟩
  have hC1 : CkV X S1 σ ((w.alloc (.map #[] 0)).setCell ⟨X.b, 6, none⟩ (.map (some w.heap.size))) := by
    have h1 := h.alloc (.map #[] 0)
    have hm1 : LbV (w.alloc (.map #[] 0)) w.heap.size 0 [] := Mpv.made w
    have hb5 := h.hB
    rw [hS1]
    exact h1.head 6 _ _ rfl ⟨rfl, rfl, rfl, rfl, rfl⟩ (by simp; omega) (by simp) (fun _ => ⟨hfil, hfp⟩) (fun _ => ⟨hv, hvs⟩) (fun _ => ⟨h.Ble, hm1, rfl⟩) (fun _ hm => absurd (h.fresh _ hm) (Nat.lt_irrefl _)) (fun j v l a b d => (h1.old j v l a b d).mono (by simp; omega))
  have hbw1 : Below X.B w ((w.alloc (.map #[] 0)).setCell ⟨X.b, 6, none⟩ (.map (some w.heap.size))) := ((Below.refl _ _).alloc h.Ble _).setCell (p := ⟨X.b, 6, none⟩) h.hB.1 _
  rw [World.setCell_alloc_past _ _ _ _ hbl] at hC1 hbw1
  obtain ⟨n1, hn1⟩ : ∃ n, k.size + 1 = n := ⟨_, rfl⟩
  obtain ⟨fl, hfl⟩ : ∃ l, Fo.flat c (.cons h0 k .nil) = l := ⟨_, rfl⟩
  have hfll : fl.length = n1 := by rw [← hfl, Fo.flat_length]; simp only [Fo.size]; omega
  have hat : ∀ j, j < n1 → ∃ x : CN, X.ns[c + j]? = some x ∧ fl[j]? = some x.nd := by
    intro j hj
    have e := hld_at _ _ c hh j (by simp only [Fo.size]; omega)
    rw [hfl, List.getElem?_map, List.getElem?_eq_getElem (by omega : j < fl.length)] at e
    cases hx : X.ns[c + j]? with
    | none => rw [hx] at e; cases e
    | some x => rw [hx] at e; exact ⟨x, rfl, by rw [List.getElem?_eq_getElem (by omega : j < fl.length), ← e]; rfl⟩
  have hvl1 : S1.vls[S1.fi]? = some (.slice none 0 0) := by rw [hS1]; exact hv
  have hW := withinL_any hC1 hp (by rw [hS1]; exact hn) (fun _ => hvl1) hsz f.b hfb.symm
  have y3 := hC1.fnCell (by rw [hS1]; exact hf) hvl1 3 (by omega)
  have c5 := hC1.c5
  have hsf : S1.fi = S.fi ∧ S1.fpV = .pointer (some ⟨X.fB, S.fi * 6, none⟩) := by rw [hS1]; exact ⟨rfl, hfp⟩
  rw [hsf.1] at y3
  rw [hsf.2] at c5
  simp only [fnC, List.getElem?_cons_succ, List.getElem?_cons_zero] at y3
  have hfbl := hC1.fnLt
  have hbl1 := hC1.chk.lt
  have HS1 := Lib.hid hS1
  have HA := Lib.hid (And.intro hat (And.intro hfll (And.intro hfl (And.intro hn1 (And.intro hnm (And.intro hbw1 hvl1))))))
  have HW := Lib.hid hW
  clear hR hp hC1 hS1 hh hn hat hfll hfl hn1 hnm hbw1 hvl1 hW hsf hf hfp hfb hv hvs hfil
  go_enter Tryz.func54, Tryz.ntmps54
  go_upto_region 1 with (fail)
  generalize (w.setCell ⟨X.b, 6, none⟩ (.map (some w.heap.size))).alloc (.map #[] 0) = W1 at *
  go_wp2_with fail
  refine HW.out.mono ?_
  clear HW
  rintro e w2 ⟨v, sb, rfl, hrow, hC2, hb2, hold, hlen⟩
  rw [HA.out.2.2.2.1] at hrow
  obtain ⟨g, cap, rfl⟩ : ∃ g cap, v = .slice (some ⟨g, 0, none⟩) n1 cap := by
    rcases hrow.2 with ⟨-, e⟩ | ⟨g, cap, cur, e, _⟩
    · have := HA.out.2.2.2.1; omega
    · exact ⟨g, cap, e⟩
  have HB := Lib.hid (And.intro hC2 (And.intro hb2 (And.intro hold (And.intro hlen hrow))))
  have hn1I : n1 ≤ 1000001 := by have := HA.out.2.2.2.1; omega
  clear hC2 hb2 hold hlen hrow hmm hf6 c6w c5 y3 hfbl hbl1 hbl
  go_wp2_with fail
  go_loopw [21] (fun v21 wr => ∃ (j : Nat) (lb : List Nm') (lbl : List (Nm' × Int)), v21 = .int .i64 j ∧ j ≤ n1 ∧ labM fl [] = labM (fl.drop j) lb ∧ lbl.map (·.1) = lb.reverse ∧ lbl.length ≤ j ∧ CkV X { S1 with sb := sb, lb := lbl } σ wr ∧ Below X.B w wr ∧ wr.ownsRow W1.heap.size tInt 1 (.slice (some ⟨g, 0, none⟩) n1 cap) n1 (ints (natI (List.range' c n1)))) (fun v _ => n1 - (intOf v).toNat)
  case atStart =>
    have e : { S1 with sb := sb, lb := [] } = { S1 with sb := sb } := by rw [HS1.out]
    exact ⟨0, [], [], rfl, by omega, by simp, rfl, Nat.le_refl _, by rw [e]; exact HB.out.1, HA.out.2.2.2.2.2.1.trans HB.out.2.1, HB.out.2.2.2.2⟩
  case round =>
    obtain ⟨j, lb, lbl, rfl, hj, hlm, hlr, hll, hC, hbw, hrw⟩ := hrel
    by_cases hlt : j < n1
    · obtain ⟨x, hx, hxf⟩ := HA.out.1 j hlt
      have hdr : fl.drop j = x.nd :: fl.drop (j + 1) := by
        rw [List.drop_eq_getElem_cons (by rw [HA.out.2.1]; exact hlt)]
        congr 1
        exact (List.getElem?_eq_some_iff.1 hxf).2
      rw [hdr, lab_step] at hlm
      obtain ⟨kA, kc, hkv, -⟩ := hC.kids hx
      obtain ⟨kn, hkn⟩ : ∃ n, x.kids.length = n := ⟨_, rfl⟩
      rw [hkn] at hkv
      have hnmx := HA.out.2.2.2.2.1 x (List.mem_of_getElem? hx)
      have hgl : g < wr.heap.size := (row_kind hrw rfl).lt
      have hcj : wr.cell? ⟨g, j, none⟩ = some (.int .i64 ((c + j : Nat) : Int)) := by
        rw [hrw.cellAt j (by omega)]
        simp [ints, natI, hlt]
      obtain ⟨q, hq⟩ : ∃ q, c + j = q := ⟨_, rfl⟩
      rw [hq] at hx hcj
      have hqI : (q : Int) < X.ns.length := by have := (List.getElem?_eq_some_iff.1 hx).1; omega
      obtain ⟨⟨t1, t2⟩, ht⟩ : ∃ t, σ.tr.getD q (0, 0) = t := ⟨_, rfl⟩
      have y0 := hC.nodeCell hx 0 (by omega)
      have y1 := hC.nodeCell hx 1 (by omega)
      have y2 := hC.nodeCell hx 2 (by omega)
      have y3 := hC.nodeCell hx 3 (by omega)
      have y4 := hC.nodeCell hx 4 (by omega)
      have y5 := hC.nodeCell hx 5 (by omega)
      have y6 := hC.nodeCell hx 6 (by omega)
      have y7 := hC.nodeCell hx 7 (by omega)
      rw [ht] at y0 y1 y2 y3 y4 y5 y6 y7
      simp only [cellT, List.getElem?_cons_succ, List.getElem?_cons_zero, Nat.add_zero] at y0 y1 y2 y3 y4 y5 y6 y7
      rw [hkv] at y5
      have c2 := hC.c2
      have hnl := hC.nodeLt
      have hbl := hC.chk.lt
      have hltI : (j : Int) < n1 := by omega
      have HG := Lib.hid (And.intro hlm (And.intro hC (And.intro hbw (And.intro hrw (And.intro hx (And.intro hlr (And.intro hq hxf)))))))
      clear hlm hC hbw hrw hx hxf hkv hkn ht hdr hlr hq
      go_upto_region 5 with (fail)
      have hba : Below wr.heap.size wr (wr.alloc (.cells #[.int .i64 x.h.op, .int .i64 x.h.p, .int .i64 x.h.n, .string (str x.h.s), .int .i64 x.h.to, .slice kA kn kc, .int .i64 t1, .int .i64 t2] tNd)) := (Below.refl _ _).alloc (Nat.le_refl _) _
      have hk1 := Blk.new wr tNd #[.int .i64 x.h.op, .int .i64 x.h.p, .int .i64 x.h.n, .string (str x.h.s), .int .i64 x.h.to, .slice kA kn kc, .int .i64 t1, .int .i64 t2]
      obtain ⟨H1, hH1⟩ : ∃ x, wr.heap.size = x := ⟨_, rfl⟩
      have HC4 := Lib.hid (And.intro (HG.out.2.1.on hba) (And.intro (HG.out.2.2.1.trans (hba.mono HG.out.2.1.Ble)) (gr_row (grown_of_below hba) HG.out.2.2.2.1 (by simp))))
      rw [hH1] at hk1
      generalize hW4 : wr.alloc (.cells #[.int .i64 x.h.op, .int .i64 x.h.p, .int .i64 x.h.n, .string (str x.h.s), .int .i64 x.h.to, .slice kA kn kc, .int .i64 t1, .int .i64 t2] tNd) = W4 at *
      simp only [hH1]
      have q0 : W4.cell? ⟨H1, 0, none⟩ = some (.int .i64 x.h.op) := hk1.cell 0
      have q1 : W4.cell? ⟨H1, 1, none⟩ = some (.int .i64 x.h.p) := hk1.cell 1
      have q3 : W4.cell? ⟨H1, 3, none⟩ = some (.string (str x.h.s)) := hk1.cell 3
      have ql := hk1.lt
      have hbl4 := HC4.out.1.chk.lt
      obtain ⟨lB, hlB⟩ : ∃ b, S1.lbB = b := ⟨_, rfl⟩
      have on1 : S1.on = true := by rw [HS1.out]
      have c6 := HC4.out.1.c6
      rw [(HC4.out.1.lab on1).2.2] at c6
      simp only [hlB] at c6
      have HLB := Lib.hid (And.intro hlB on1)
      clear hba hk1 hH1 hW4 y0 y1 y2 y3 y4 y5 y6 y7 hcj hgl c2 hnl hbl hqI hlB on1
      by_cases ho : x.h.op = 18
      · have d1 : (x.h.op != 18) = false := by simp [ho]
        obtain ⟨bb, hbb⟩ : ∃ b, decide (x.h.s ∈ lb) = b := ⟨_, rfl⟩
        obtain ⟨n0, hn0⟩ : ∃ n, (look lbl x.h.s).getD 0 = n := ⟨_, rfl⟩
        have hsl : x.h.s.length ≤ maxLen := by unfold maxLen; omega
        have hlk : (Instr.lookup tLm (.map (some lB)) (.string (str x.h.s)) true).run Tryz.prog W4.drew = .ok (.tuple #[.int .i64 n0, .bool bb]) W4.drew := by
          have h9 : (Instr.lookup tLm (.map (some S1.lbB)) (.string (str x.h.s)) true).run Tryz.prog W4.drew = .ok (.tuple #[.int .i64 ((look lbl x.h.s).getD 0), .bool (look lbl x.h.s).isSome]) W4.drew := (HC4.out.1.drew.lab HLB.out.2).2.1.get hsl
          rw [look_isSome, HG.out.2.2.2.2.2.1, hn0, HLB.out.1] at h9
          rw [← hbb]
          simpa using h9
        have HBB := Lib.hid (And.intro hbb (And.intro ho hsl))
        clear hbb hn0 ho hsl
        go_upto_region 6 with (fail)
        go_region
        go_wp2_with fail
        refine (refuse_or _ _ _ _).mono ?_
        rintro e v2 ⟨⟨hm, rfl⟩ | ⟨hm, rfl⟩, rfl⟩
        · have HE := Lib.hid (show R (.panicked [{ v := .iface tFt (.agg #[.int .i64 5, .int .i64 x.h.p]), recovered := false }]) W4.drew by
            rw [← HR.out, HA.out.2.2.1]
            refine .inr ⟨5, x.h.p, ?_, rfl, HC4.out.2.1.drew⟩
            rw [HG.out.1, show x.nd.h = x.h from rfl, if_pos HBB.out.2.1, if_pos (of_decide_eq_true (HBB.out.1.trans hm))])
          clear hm
          go_wp2_with fail
          exact pnc_end rfl HE.out
        · obtain ⟨w6, hrun, hl6, hg6⟩ := LbV.put (HC4.out.1.drew.drew.lab HLB.out.2).2.1 (by unfold maxLen; simp only; omega) HBB.out.2.2 (q : Int)
          simp only [HLB.out.1] at hrun
          have HST := Lib.hid (show labM fl [] = labM (fl.drop (j + 1)) (lb ++ [x.h.s]) ∧ ((x.h.s, (q : Int)) :: lbl).map (·.1) = (lb ++ [x.h.s]).reverse ∧ ((x.h.s, (q : Int)) :: lbl).length ≤ j + 1 ∧ CkV X { S1 with sb := sb, lb := (x.h.s, (q : Int)) :: lbl } σ w6 ∧ Below X.B w w6 ∧ w6.ownsRow W1.heap.size tInt 1 (.slice (some ⟨g, 0, none⟩) n1 cap) n1 (ints (natI (List.range' c n1))) by
            have hmk := mpv_kind (HC4.out.1.drew.drew.lab HLB.out.2).2.1
            refine ⟨?_, by rw [List.map_cons, HG.out.2.2.2.2.2.1]; simp, by simp; omega, HC4.out.1.drew.drew.label HLB.out.2 hg6 hl6, HC4.out.2.1.drew.drew.grown hg6 HC4.out.1.drew.drew.Ble (fun r e => ?_), gr_row hg6 (HC4.out.2.2.drew.drew) (fun r e e2 => ?_)⟩
            · rw [HG.out.1, show x.nd.h = x.h from rfl, if_pos HBB.out.2.1, if_neg (of_decide_eq_false (HBB.out.1.trans hm))]
            · cases e
              exact (HC4.out.1.drew.drew.lab HLB.out.2).1
            · cases e
              exact kindM_ne (row_kind (HC4.out.2.2.drew.drew) e2) hmk rfl)
          clear hm hl6 hg6
          go_upto_region 8 with (fail)
          go_region
          go_wp2_with fail
          go_roundw
          case rel => exact ⟨j + 1, _, _, by go_num, by omega, HST.out.1, HST.out.2.1, HST.out.2.2.1, HST.out.2.2.2.1, HST.out.2.2.2.2.1, HST.out.2.2.2.2.2⟩
          case measure => simp [intOf]; omega
      · have d1 : (x.h.op != 18) = true := by simp [ho]
        have HST := Lib.hid (show labM fl [] = labM (fl.drop (j + 1)) lb by rw [HG.out.1, show x.nd.h = x.h from rfl, if_neg ho])
        clear ho
        go_wp2_with fail
        go_roundw
        case rel => exact ⟨j + 1, lb, lbl, by go_num, by omega, HST.out, HG.out.2.2.2.2.2.1, by omega, HC4.out.1, HC4.out.2.1, HC4.out.2.2⟩
        case measure => simp [intOf]; omega
    · obtain rfl : j = n1 := by omega
      have hdr : fl.drop j = [] := List.drop_eq_nil_of_le (by rw [HA.out.2.1]; exact Nat.le_refl _)
      rw [hdr] at hlm
      have HG := Lib.hid (And.intro hlm (And.intro hC (And.intro hbw hlr)))
      clear hlm hC hbw hdr hlr hrw
      go_wp2_with fail
      go_end0
      rw [← HR.out, HA.out.2.2.1]
      refine .inl ⟨lb, { S1 with sb := sb, lb := lbl }, HG.out.1, rfl, HG.out.2.1, HG.out.2.2.1, by rw [HS1.out], fun s => ?_, by rw [HS1.out], by rw [HS1.out], by rw [HS1.out], by rw [HS1.out], by rw [HS1.out], ?_, ?_⟩
      · rw [look_isSome, HG.out.2.2.2]
        simp
      · rw [HB.out.2.2.2.1, HS1.out]
      · intro i hi
        rw [← show S1.sb[i]? = S.sb[i]? by rw [HS1.out]]
        exact HB.out.2.2.1 i hi
end Go.Proofs.YtfaoiajhoifalaaGreatDoor
/-! Ckz -/
namespace Go.Proofs.YtfaoiajhoifalaaGreatDoor
open Go Go.RowKit Go.Maps
set_option linter.unusedVariables false
set_option linter.unusedSimpArgs false

theorem decl_drop (l : List Scp) (x : Nm') (m : Mg) : (decl l x m).dropLast = l.dropLast := by unfold decl; simp
theorem rule_drop {K : Kn} {h : Hd} {ks : List Nat} {i : Nat} {σ τ : Cs} (e : ruleM K h ks i σ = .ok τ) : τ.sc.dropLast = σ.sc.dropLast := by
  unfold ruleM at e
  split at e
  · rw [(expr_only e).1]
  unfold stmtM at e
  split at e
  · obtain ⟨_, -, e⟩ := bind_ok_iff e
    obtain ⟨_, -, e⟩ := bind_ok_iff e
    obtain ⟨_, -, e⟩ := bind_ok_iff e
    cases e
    exact decl_drop _ _ _
  split at e
  · obtain ⟨m, -, e⟩ := bind_ok_iff e; obtain ⟨_, -, e⟩ := bind_ok_iff e; cases e; rfl
  split at e
  · obtain ⟨m, -, e⟩ := bind_ok_iff e; obtain ⟨_, -, e⟩ := bind_ok_iff e; cases e; rfl
  split at e
  · obtain ⟨m, -, e⟩ := bind_ok_iff e; cases e; rfl
  split at e
  · obtain ⟨m, -, e⟩ := bind_ok_iff e; cases e; rfl
  split at e
  · obtain ⟨m, -, e⟩ := bind_ok_iff e; obtain ⟨_, -, e⟩ := bind_ok_iff e; cases e; rfl
  split at e
  · obtain ⟨m, -, e⟩ := bind_ok_iff e; cases e; rfl
  · cases e; rfl
theorem vis_drop (K : Kn) (F : Fo) : ∀ (c : Nat) (σ τ : Cs), visM K F c σ = .ok τ → τ.sc.dropLast = σ.sc.dropLast := by
  induction F with
  | nil => intro c σ τ e; simp only [visM] at e; cases e; rfl
  | cons h k r ih1 ih2 =>
    intro c σ τ e
    simp only [visM] at e
    obtain ⟨ρ, e1, e⟩ := bind_ok_iff e
    rw [ih2 _ _ _ e]
    split at e1
    · obtain ⟨ρ', e3, e2⟩ := bind_ok_iff e1
      cases e2
      have h3 := ih1 _ _ _ e3
      simp only [List.dropLast_concat] at h3
      simp only [h3]
    · obtain ⟨ρ', e1, e2⟩ := bind_ok_iff e1
      rw [rule_drop e2]
      exact ih1 _ _ _ e1
/-- A body has been checked: its variables are done. -/
theorem CkV.off {X : CkX} {S : CkS} {σ : Cs} {w : World} (h : CkV X S σ w) (on : S.on = true) (hd : S.done.length = S.fi) : CkV X { S with on := false, fi := S.fi + 1, done := S.done ++ [σ.vs], H := w.heap.size } { σ with vs := [] } w := by
  have hH : S.H ≤ w.heap.size := h.hB.2.2.2.2.2
  exact {
    chk := h.chk
    nod := h.nod
    fun_ := h.fun_
    see := h.see
    trl := h.trl
    vll := h.vll
    fil := fun e => by cases e
    var := fun e => by cases e
    sco := h.sco
    scl := h.scl
    map_ := h.map_
    nod2 := h.nod2
    lab := fun e => by cases e
    labn := fun e => by cases e
    kid_ := fun x hx => (h.kid_ x hx).mono hH
    old := fun j v l h1 h2 h3 => by
      simp only at h1 h2 h3
      by_cases hj : j < S.fi
      · rw [List.getElem?_append_left (by omega)] at h2
        exact (h.old j v l h1 h2 hj).mono hH
      · obtain rfl : j = S.fi := by omega
        rw [List.getElem?_append_right (by omega), hd, Nat.sub_self, List.getElem?_cons_zero] at h2
        obtain rfl : σ.vs = l := Option.some.inj h2
        obtain ⟨v', hv', hr⟩ := h.var on
        rw [h1] at hv'
        obtain rfl : v = v' := Option.some.inj hv'
        refine ⟨⟨hr.1, hr.2.imp id ?_⟩, fun g hg => (row_kind hr hg).lt⟩
        rintro ⟨g, cap, cur, e, h5, h6⟩
        exact ⟨g, cap, cur, e, Nat.le_trans h.hB.2.2.2.2.1 h5, h6⟩
    prm := fun x hx => (h.prm x hx).mono hH
    glb := h.glb.mono hH
    hB := ⟨h.hB.1, h.hB.2.1, h.hB.2.2.1, h.hB.2.2.2.1, Nat.le_trans h.hB.2.2.2.2.1 hH, Nat.le_refl _⟩ }
/-- What body answers. -/
def BodP (X : CkX) (S : CkS) (G : Scp) (r : Ck (List (Int × Int) × List Int)) (w0 : World) (c n : Nat) (e : Ending) (w' : World) : Prop :=
  (∃ tr vs S', r = .ok (tr, vs) ∧ e = .returned (.tuple #[]) ∧ CkV X S' ⟨tr, [G], []⟩ w' ∧ Below X.B w0 w' ∧ S'.on = false ∧ S'.fi = S.fi + 1 ∧ S'.done = S.done ++ [vs] ∧ (∀ j, j ≠ S.fi → S'.vls[j]? = S.vls[j]?) ∧ S'.sb.length = S.sb.length ∧ (∀ i, i < c ∨ c + n + 1 ≤ i → S'.sb[i]? = S.sb[i]?)) ∨
  (∃ no p, r = .er no p ∧ e = .panicked [{ v := .iface tFt (.agg #[.int .i64 no, .int .i64 p]), recovered := false }] ∧ Below X.B w0 w')
theorem par_step (p : Pm) (l : List Pm) (vs : List Int) (s : Scp) : parS (p :: l) vs s = parS l (vs ++ [p.ty]) ((p.s, ⟨1, vs.length, p.ty⟩) :: s) := rfl
set_option maxHeartbeats 500000 in
set_option maxRecDepth 100000 in
theorem body_any {X : CkX} {S : CkS} {σ : Cs} {w : World} (h : CkV X S σ w) (off : S.on = false) (hdl : S.done.length = S.fi) {G : Scp} (hsc : σ.sc = [G]) (hvs : σ.vs = []) {h0 : Hd} {k : Fo} {c : Nat} (hh : Hld (X.ns.map CN.nd) (.cons h0 k .nil) c) (hn : ∀ i, c ≤ i → i < c + k.size + 1 → S.sb[i]? = some false)
    {f : Fn'} {pv : Value} (hf : X.fl[S.fi]? = some (f, pv)) (hfb : f.b = c + k.size) (hv : S.vls[S.fi]? = some (.slice none 0 0)) (hsz : k.size ≤ 50000) (hnm : ∀ x ∈ X.ns, x.h.s.length ≤ 1000000) (htr : TrW k) (hGl : G.length ≤ 1000000) (hGf : ∀ p ∈ G, p.2.so = 4 → ∃ j : Nat, p.2.rf = j ∧ j < X.fl.length)
    (hps : f.ps.length ≤ 8) (hpn : ∀ p ∈ f.ps, p.s.length ≤ 1000000) :
    Calls Tryz.prog 26 #[ckp X, .pointer (some ⟨X.fB, S.fi * 6, none⟩)] w (BodP X S G (bodyM (X.fl.map fun f => f.1.ps.length) G f h0 k c σ.tr) w c k.size) := by
  obtain ⟨R, hR⟩ : ∃ R : Ending → World → Prop, BodP X S G (bodyM (X.fl.map fun f => f.1.ps.length) G f h0 k c σ.tr) w c k.size = R := ⟨_, rfl⟩
  rw [hR]
  have HR := Lib.hid hR
  have hbl := h.chk.lt
  have hf5 := h.chk.frozen 5
  have c5w := h.c5
  obtain ⟨i, hi⟩ : ∃ i, S.fi = i := ⟨_, rfl⟩
  rw [hi] at hf hv ⊢
  have h1 : CkV X { S with fpV := .pointer (some ⟨X.fB, i * 6, none⟩) } σ (w.setCell ⟨X.b, 5, none⟩ (.pointer (some ⟨X.fB, i * 6, none⟩))) :=
    h.head 5 _ _ rfl ⟨rfl, rfl, rfl, rfl, rfl⟩ (Nat.le_refl _) h.hB.2.2.2.2.2 (fun e => by rw [off] at e; cases e) (fun e => by rw [off] at e; cases e) (fun e => by rw [off] at e; cases e) (fun e => by rw [off] at e; cases e) h.old
  have hb1 : Below X.B w (w.setCell ⟨X.b, 5, none⟩ (.pointer (some ⟨X.fB, i * 6, none⟩))) := (Below.refl _ _).setCell (p := ⟨X.b, 5, none⟩) h.hB.1 _
  have HFL := Lib.hid (findLabels_any h1 hh hn (by simpa [hi] using hf) (by simp [hi]) hfb (by simpa [hi] using hv) hvs (by omega) hnm)
  have H := Lib.hid (And.intro h (And.intro off (And.intro hdl (And.intro hsc (And.intro hvs (And.intro hh (And.intro hf (And.intro hfb (And.intro hv (And.intro hnm (And.intro htr (And.intro hGl (And.intro hGf (And.intro hpn (And.intro hb1 hi)))))))))))))))
  obtain ⟨pn, hpl⟩ : ∃ n, f.ps.length = n := ⟨_, rfl⟩
  have HPL := Lib.hid hpl
  rw [hpl] at hps
  clear hR h1 h off hdl hsc hvs hh hn hf hfb hv hnm htr hGl hGf hpn hb1 hpl hi
  go_enter Tryz.func26, Tryz.ntmps26
  go_upto_region 1 with (fail)
  generalize w.setCell ⟨X.b, 5, none⟩ (.pointer (some ⟨X.fB, i * 6, none⟩)) = W1 at *
  clear hbl hf5 c5w
  go_wp2_with fail
  refine HFL.out.mono ?_
  clear HFL
  rintro e w2 (⟨lb, S2, hlb, rfl, hC2, hb2, on2, hlk, hfi2, hvls2, -, -, hdn2, hsl2, hso2⟩ | ⟨no, p, hlb, rfl, hb2⟩)
  · have hfl2 := hC2.fnLt
    have hbl2 := hC2.chk.lt
    have HL := Lib.hid (And.intro hlb (And.intro hC2 (And.intro hb2 (And.intro on2 (And.intro hlk (And.intro hfi2 (And.intro hvls2 (And.intro hdn2 (And.intro hsl2 hso2)))))))))
    have HOp := Lib.hid (open_any hC2 (by rw [H.out.2.2.2.1]; simp))
    clear hlb hC2 hb2 on2 hlk hfi2 hvls2 hdn2 hsl2 hso2
    go_wp2_with fail
    refine HOp.out.mono ?_
    clear HOp
    rintro e w3 ⟨rfl, v3, m3, hC3, hb3⟩
    obtain ⟨pA, pc, hpv, hpc, hpr⟩ := psV_of (hC3.prm (f, pv) (List.mem_of_getElem? H.out.2.2.2.2.2.2.1)).1 rfl
    simp only at hpv hpc hpr
    rw [HPL.out] at hpv hpc
    have hvl3 : (S2.push v3 m3).vls[i]? = some (.slice none 0 0) := by
      have := H.out.2.2.2.2.2.2.2.2.1
      rw [← this]
      exact congrArg (fun l => l[i]?) HL.out.2.2.2.2.2.2.1
    have y2 := hC3.fnCell H.out.2.2.2.2.2.2.1 hvl3 2 (by omega)
    simp only [fnC, List.getElem?_cons_succ, List.getElem?_cons_zero] at y2
    rw [hpv] at y2
    have hfl3 := hC3.fnLt
    have HC3 := Lib.hid (And.intro hC3 (And.intro hb3 (And.intro hpc (And.intro hpv hvl3))))
    have hs3 : ({ σ with sc := σ.sc ++ [[]] } : Cs) = ⟨σ.tr, [G, []], []⟩ := by
      have e1 := H.out.2.2.2.1
      have e2 := H.out.2.2.2.2.1
      cases σ
      simp only at e1 e2
      subst e1 e2
      rfl
    have HS3 := Lib.hid hs3
    clear hC3 hb3 hpc hpv hpr hvl3 hs3 hfl2 hbl2
    go_wp2_with fail
    go_loopw [21] (fun v21 wr => ∃ (j : Nat) (s : Scp) (vs : List Int) (S4 : CkS), v21 = .int .i64 j ∧ j ≤ pn ∧ parS f.ps [] [] = parS (f.ps.drop j) vs s ∧ vs = (f.ps.take j).map (fun p => p.ty) ∧ s.length ≤ j ∧ Sx (S2.push v3 m3) S4 ∧ CkV X S4 ⟨σ.tr, [G, s], vs⟩ wr ∧ Below X.B w wr ∧ (∀ p ∈ s, p.2.so = 1)) (fun v _ => pn - (intOf v).toNat)
    case atStart => exact ⟨0, [], [], _, rfl, by omega, by simp, by simp, Nat.le_refl _, Sx.refl _, by rw [← HS3.out]; exact HC3.out.1, (H.out.2.2.2.2.2.2.2.2.2.2.2.2.2.2.1.trans HL.out.2.2.1).trans HC3.out.2.1, by intro p hp; cases hp⟩
    case round =>
      obtain ⟨j, s, vs, S4, rfl, hj, hpar, hvs, hsl, hsx, hC, hbw, hso⟩ := hrel
      have on4 : S4.on = true := by
        obtain ⟨a, b, rfl, _⟩ := hsx
        exact HL.out.2.2.2.1
      have hvl : vs.length = j := by rw [hvs]; simp [HPL.out]; omega
      by_cases hlt : j < pn
      · obtain ⟨p, hp⟩ : ∃ p, f.ps[j]? = some p := ⟨_, List.getElem?_eq_getElem (by rw [HPL.out]; exact hlt)⟩
        have hdr : f.ps.drop j = p :: f.ps.drop (j + 1) := by
          rw [List.drop_eq_getElem_cons (by rw [HPL.out]; exact hlt)]
          congr 1
          exact (List.getElem?_eq_some_iff.1 hp).2
        rw [hdr, par_step] at hpar
        obtain ⟨pA', pc', hpv', -, hpr⟩ := psV_of (hC.prm (f, pv) (List.mem_of_getElem? H.out.2.2.2.2.2.2.1)).1 rfl
        simp only at hpv' hpr
        rw [HC3.out.2.2.2.1, HPL.out] at hpv'
        simp only [Value.slice.injEq] at hpv'
        obtain ⟨rfl, -, rfl⟩ := hpv'
        obtain ⟨pb, po, rfl, hpb, hq0, hq1⟩ := hpr j p hp
        have hltI : (j : Int) < pn := by omega
        have hpnm : p.s.length ≤ maxLen := by unfold maxLen; have := H.out.2.2.2.2.2.2.2.2.2.2.2.2.2.1 p (List.mem_of_getElem? hp); omega
        have hba : Below wr.heap.size wr (wr.alloc (.cells #[.string (str p.s), .int .i64 p.ty] tPr)) := (Below.refl _ _).alloc (Nat.le_refl _) _
        have HAV := Lib.hid (addVar_any (hC.on hba) on4 (k := 1) rfl (by omega) (by simp; omega) (by rw [hvl]; omega) hpnm p.ty)
        have hvs2 : vs ++ [p.ty] = (f.ps.take (j + 1)).map (fun p => p.ty) := by
          rw [List.take_add_one, hp, hvs]
          simp
        have HG := Lib.hid (And.intro hpar (And.intro hvs2 (And.intro hsl (And.intro hsx (And.intro (hbw.trans (hba.mono hC.Ble)) (And.intro hso hvl))))))
        clear hpar hvs hvs2 hsl hsx hC hbw hso hvl hp hdr hpr hpnm hba
        go_wp2_with fail
        refine HAV.out.mono ?_
        clear HAV
        rintro e w5 ⟨rfl, v', hC5, hb5⟩
        have HST := Lib.hid (And.intro hC5 hb5)
        clear hC5 hb5
        go_wp2_with fail
        go_roundw
        case rel =>
          obtain ⟨hpar, hvs2, hsl, hsx, hbw, hso, hvl⟩ := HG.out
          refine ⟨j + 1, (p.s, ⟨1, vs.length, p.ty⟩) :: s, vs ++ [p.ty], _, by go_num, by omega, hpar, hvs2, by simp; omega, ?_, HST.out.1, hbw.trans HST.out.2, ?_⟩
          · refine hsx.trans ⟨_, _, rfl, fun m hm => ?_⟩
            rw [List.getElem?_set_ne (fun e => hm e.symm)]
          · intro q hq
            rcases List.mem_cons.1 hq with rfl | hq
            · rfl
            · exact hso q hq
        case measure => simp [intOf]; omega
      · obtain rfl : j = pn := by omega
        have hdr : f.ps.drop j = [] := List.drop_eq_nil_of_le (by rw [HPL.out]; exact Nat.le_refl _)
        have htk : f.ps.take j = f.ps := List.take_of_length_le (by rw [HPL.out]; exact Nat.le_refl _)
        rw [hdr] at hpar
        rw [htk] at hvs
        have hpar : s = parS f.ps [] [] := hpar.symm
        have hfi4 : S4.fi = i := by
          obtain ⟨a, b, rfl, _⟩ := hsx
          exact HL.out.2.2.2.2.2.1.trans H.out.2.2.2.2.2.2.2.2.2.2.2.2.2.2.2
        have hkn : KnW X S4 ⟨X.fl.map fun f => f.1.ps.length, f.ty, lb⟩ := by
          refine ⟨on4, ⟨(f, pv), by rw [hfi4]; exact H.out.2.2.2.2.2.2.1, rfl⟩, ?_, rfl⟩
          obtain ⟨a, b, rfl, _⟩ := hsx
          exact HL.out.2.2.2.2.1
        obtain ⟨x, hx, -, hxk⟩ := nd_at H.out.2.2.2.2.2.1
        have hwf : WfS X ⟨σ.tr, [G, s], vs⟩ := by
          have hG := H.out.2.2.2.2.2.2.2.2.2.2.2.1
          refine ⟨by simp, by simp only; omega, ?_, ?_⟩
          · intro t ht
            simp only [List.mem_cons, List.not_mem_nil, or_false] at ht
            simp only
            rcases ht with rfl | rfl <;> omega
          · intro t ht p hp h4
            simp only [List.mem_cons, List.not_mem_nil, or_false] at ht
            rcases ht with rfl | rfl
            · exact H.out.2.2.2.2.2.2.2.2.2.2.2.2.1 p hp h4
            · rw [hso p hp] at h4; cases h4
        have HVK := Lib.hid (vkids_any X ⟨X.fl.map fun f => f.1.ps.length, f.ty, lb⟩ k c ⟨σ.tr, [G, s], vs⟩ S4 wr 1 (c + k.size) x ⟨hC, hkn, hwf, H.out.2.2.2.2.2.1.1, H.out.2.2.2.2.2.2.2.2.2.2.1, by simp; omega, by omega⟩ hx hxk)
        rw [← H.out.2.2.2.2.2.2.2.1] at HVK
        have y3 : wr.cell? ⟨X.fB, i * 6 + 3, none⟩ = some (.int .i64 (f.b : Nat)) := by
          obtain ⟨u, hu⟩ : ∃ u, S4.vls[i]? = some u := ⟨_, List.getElem?_eq_getElem (by rw [hC.vll]; exact (List.getElem?_eq_some_iff.1 H.out.2.2.2.2.2.2.1).1)⟩
          exact hC.fnCell H.out.2.2.2.2.2.2.1 hu 3 (by omega)
        have hflr := hC.fnLt
        have hblr := hC.chk.lt
        have HG := Lib.hid (And.intro hpar (And.intro hvs (And.intro hsx (And.intro hbw (And.intro hfi4 on4)))))
        clear hpar hvs hsl hsx hbw hso hvl hfi4 on4 hkn hx hxk hwf hdr htk
        go_wp2_with fail
        refine HVK.out.mono ?_
        clear HVK
        rintro e w5 (⟨τ, hτ, rfl, ⟨hwf5, hln5⟩, S5, hs5, hC5, hb5⟩ | ⟨no, p, hτ, rfl, hb5⟩)
        · have HCl := Lib.hid (close_any hC5 (k := 1) (by simpa using hln5) (by omega))
          have hbl5 := hC5.chk.lt
          have H5 := Lib.hid (And.intro hτ (And.intro hs5 (And.intro hC5 hb5)))
          clear hτ hwf5 hln5 hs5 hC5 hb5
          go_wp2_with fail
          refine HCl.out.mono ?_
          clear HCl
          rintro e w6 ⟨rfl, v6, hC6, hb6⟩
          have HE := Lib.hid (show R (.returned (.tuple #[])) w6 by
            rw [← HR.out]
            obtain ⟨hτ, hs5, hC5, hb5⟩ := H5.out
            obtain ⟨hpar, hvs, hsx, hbw, hfi4, on4⟩ := HG.out
            obtain ⟨hlb, hC2, hb2, on2, hlk, hfi2, hvls2, hdn2, hsl2, hso2⟩ := HL.out
            have hd := vis_drop _ _ _ _ _ hτ
            have hdl := H.out.2.2.1
            have hiS := H.out.2.2.2.2.2.2.2.2.2.2.2.2.2.2.2
            obtain ⟨a, b, rfl, ha⟩ := hsx
            obtain ⟨a5, b5, rfl, ha5⟩ := hs5
            simp only [CkS.push] at hfi4 on4 ha ha5 hfi2
            have hoff := hC6.off on4 (by simp only [CkS.pop, CkS.push]; rw [hdn2, hdl, hfi2])
            rw [show τ.sc.dropLast = [G] from hd] at hoff
            refine .inl ⟨τ.tr, τ.vs, _, ?_, rfl, hoff, (hbw.trans hb5).trans hb6, rfl, ?_, ?_, ?_, hsl2, hso2⟩
            · unfold bodyM
              rw [hlb, Ck.bind_ok, ← hpar, ← hvs, hτ]
              rfl
            · simp only [CkS.pop, CkS.push]; rw [hfi2]
            · simp only [CkS.pop, CkS.push]; rw [hdn2]
            · intro m hm
              simp only [CkS.pop, CkS.push]
              rw [ha5 m (by rw [hfi2]; exact hm), ha m (by rw [hfi2]; exact hm), hvls2])
          clear hC6 hb6
          go_wp2_with fail
          go_end0
          exact HE.out
        · have HE := Lib.hid (show R (PncL no p) w5 by
            rw [← HR.out]
            refine .inr ⟨no, p, ?_, rfl, HG.out.2.2.2.1.trans hb5⟩
            unfold bodyM
            rw [HL.out.1, Ck.bind_ok, ← HG.out.1, ← HG.out.2.1, hτ]
            rfl)
          clear hτ hb5
          go_wp2_with fail
          exact pnc_end rfl HE.out
  · have HE := Lib.hid (show R (PncL no p) w2 by
      rw [← HR.out]
      exact .inr ⟨no, p, by unfold bodyM; rw [hlb]; rfl, rfl, H.out.2.2.2.2.2.2.2.2.2.2.2.2.2.2.1.trans hb2⟩)
    clear hlb hb2
    go_wp2_with fail
    exact pnc_end rfl HE.out
end Go.Proofs.YtfaoiajhoifalaaGreatDoor
