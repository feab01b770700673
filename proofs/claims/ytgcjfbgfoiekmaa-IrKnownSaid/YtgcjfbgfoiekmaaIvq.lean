/-
  Layer ir: walk of valuesOf.
-/
import Derived.Test.YtgcjfbgfoiekmaaIvp
import Derived.Laws.OwnMore
import Derived.OwnWalk
namespace Go.Proofs.Ytgcjfbgfoiekmaa
open Go Go.RowKit Go.Maps
set_option linter.unusedVariables false
set_option linter.unusedSimpArgs false

theorem intC_set (l : List Int) (k : Nat) (v : Int) : (intC l).setIfInBounds k (.int .i64 v) = intC (l.set k v) := by
  apply Array.ext'
  simp [intC, List.map_set]
theorem intC_at {l : List Int} {k : Nat} (h : k < l.length) : (intC l)[k]? = some (.int .i64 l[k]) := by simp [intC, List.getElem?_eq_getElem h]
theorem fill_set (a : List Int) (n : Nat) (v : Int) : (a ++ List.replicate (n + 1) (0 : Int)).set a.length v = (a ++ [v]) ++ List.replicate n 0 := by
  rw [List.set_append_right _ _ (Nat.le_refl _), Nat.sub_self, List.replicate_succ, List.set_cons_zero, List.append_assoc]
  rfl
/-- A list of numbers that stands in a block of its own. -/
theorem isI_blk {w : World} {g : Nat} {l : List Int} (h : Blk w g tI1 (intC l)) (hw : ∀ x ∈ l, iw x) (hl : l.length ≤ 1000000) : IsI w w.heap.size (.slice (some ⟨g, 0, none⟩) l.length l.length) l :=
  ⟨_, l.length, rfl, Nat.le_refl _, by unfold maxLen; omega, fun h => by (cases h), .inr ⟨g, 0, rfl, h.lt, fun i y hi => by
    obtain ⟨hil, rfl⟩ := List.getElem?_eq_some_iff.1 hi
    have := h.cell i
    rw [intC_at hil] at this
    exact ⟨by simpa using this, hw _ (List.getElem_mem hil)⟩⟩⟩
theorem at0_iw {r : List Int} (h : ∀ x ∈ r, iw x) (i : Int) : iw (at0 r i) := by
  unfold at0
  rw [List.getD_eq_getElem?_getD]
  cases hh : r[i.toNat]? with
  | none => exact iw_of (by simp)
  | some v => exact h v (List.mem_of_getElem? hh)

set_option maxHeartbeats 1000000 in
set_option maxRecDepth 10000 in
theorem valuesOf_any {X : Mc} {w : World} {rb : Nat} {r : List Int} {ov : Value} (h : RgV X w rb r ov) (pl : List Int) (pv : Value) (hp : IsI w w.heap.size pv pl) (hin : ∀ a ∈ pl, inR r a = true) (hpl : pl.length ≤ 100000) :
    Calls Try.prog 60 #[rgs rb r.length, pv] w fun e w' => ∃ v, e = .returned v ∧ IsI w' w'.heap.size v (pl.map (at0 r)) ∧ (∀ b j u, b < w.heap.size → IsI (w'.setCell ⟨b, j, none⟩ u) w'.heap.size v (pl.map (at0 r))) ∧ Below w.heap.size w w' := by
  obtain ⟨A, c, rfl, hlc, hcm, hA0⟩ := hp.sl
  obtain ⟨n, hn⟩ : ∃ n, pl.length = n := ⟨_, rfl⟩
  have HN := Lib.hid hn
  have HP := Lib.hid hp
  have HR := Lib.hid h
  have HIN := Lib.hid hin
  rw [hn] at hpl hlc ⊢
  obtain ⟨ib, hib, hbz0, hbz1, hbz2⟩ := info_parts intInfo
  obtain ⟨w1, hrun, hown, hgrow⟩ := run_make_full (P := Try.prog) (w := w) w.heap.size 26 tI1 ib (.int .i64 0) 1 Try.underlying26 hib hbz0 hbz1 .i64 .i64 n (by rw [hbz2]; omega) (by unfold maxLen; omega) (Nat.le_refl _)
  obtain ⟨H, hH⟩ : ∃ H, w.heap.size = H := ⟨_, rfl⟩
  have hob := made_int hown
  have hB1 : Below w.heap.size w w1 := (Below.refl _ w).grown hgrow (Nat.le_refl _) (fun j e => by cases e)
  have HF := Lib.hid (And.intro hob hB1)
  have HH := Lib.hid hH
  rw [hH] at HF hrun
  obtain ⟨nr, hnr⟩ : ∃ nr, r.length = nr := ⟨_, rfl⟩
  have HNR := Lib.hid hnr
  rw [hnr]
  clear h hp hn hin hown hgrow hob hB1 hA0 hlc hcm hnr hH hbz0 hbz1 hbz2 hib
  unfold rgs
  go_enter Try.func60, Try.ntmps60
  go_upto_region 2 with (fail)
  clear hrun
  go_wp2_with fail
  go_loopw [13] (fun v wr => ∃ (j : Nat), j ≤ n ∧ v = .int .i64 j ∧ Blk wr H tI1 (intC ((pl.take j).map (at0 r) ++ List.replicate (n - j) 0)) ∧ Below H w wr) (fun v _ => n - (intOf v).toNat)
  case atStart => exact ⟨0, by omega, rfl, by simpa using HF.out.1, HF.out.2⟩
  case round =>
    obtain ⟨j, hj, rfl, hb, hB⟩ := hrel
    by_cases hlt : j < n
    · have hjl : j < pl.length := by rw [HN.out]; exact hlt
      obtain ⟨g, o, c9, hv9, hg, -, -, hx0, -⟩ := HP.out.at hjl
      simp only [Value.slice.injEq] at hv9
      obtain ⟨rfl, -, -⟩ := hv9
      have hx := HIN.out _ (List.getElem_mem hjl)
      obtain ⟨k, hk, hklt⟩ := inR_nat hx
      have hgH : g < H := by rw [← HH.out]; exact hg
      have x0 : wr.cell? ⟨g, o + j, none⟩ = some (.int .i64 k) := by
        rw [hB.cell (p := ⟨g, o + j, none⟩) hgH, ← hk]
        simpa using hx0
      have hrl := HR.out.blk.lt
      rw [HH.out] at hrl
      have r0 : wr.cell? ⟨rb, k, none⟩ = some (.int .i64 (at0 r k)) := by
        rw [hB.cell (p := ⟨rb, k, none⟩) hrl]
        exact (HR.out.cell hklt).1
      rw [HNR.out] at hklt
      have hk' : (k : Int) < nr := by omega
      have hlt' : (j : Int) < n := by omega
      have hgw : g < wr.heap.size := by have := hB.size; rw [HH.out] at this; omega
      have hrw : rb < wr.heap.size := by have := hB.size; rw [HH.out] at this; omega
      have hHw := hb.lt
      have hlen : ((pl.take j).map (at0 r)).length = j := by simp; omega
      obtain ⟨d, hd⟩ : ∃ d, n - j = d + 1 := ⟨n - j - 1, by omega⟩
      have c0 := hb.cell j
      have f0 := hb.frozen j
      rw [intC_at (by simp; omega)] at c0
      have hb2 := hb.set_ j (.int .i64 (at0 r k))
      have e2 : (intC ((pl.take j).map (at0 r) ++ List.replicate (n - j) 0)).setIfInBounds j (.int .i64 (at0 r k)) = intC ((pl.take (j + 1)).map (at0 r) ++ List.replicate (n - (j + 1)) 0) := by
        rw [intC_set, hd, show n - (j + 1) = d by omega]
        have := fill_set ((pl.take j).map (at0 r)) d (at0 r k)
        rw [hlen] at this
        rw [this, List.take_add_one, List.getElem?_eq_getElem hjl, hk]
        simp
      rw [e2] at hb2
      have hB2 : Below H w (wr.setCell ⟨H, j, none⟩ (.int .i64 (at0 r k))) := hB.setCell (p := ⟨H, j, none⟩) (Nat.le_refl _) _
      have HB2 := Lib.hid (And.intro hb2 hB2)
      generalize at0 r (k : Int) = v at *
      generalize ((pl.take j).map (at0 r) ++ List.replicate (n - j) (0 : Int))[j]'(by simp; omega) = v0 at *
      clear hb hB hx0 hx hk hb2 hB2 e2 hlen hd
      go_wp2_with fail
      go_roundw
      case rel => exact ⟨j + 1, by omega, by go_num, HB2.out.1, HB2.out.2⟩
      case measure => simp [intOf]; omega
    · obtain rfl : n = j := by omega
      have hlt' : ¬ (n : Int) < n := by omega
      have HB := Lib.hid (And.intro hb hB)
      clear hb hB hlt
      go_wp2_with fail
      go_ret
      have hpn : pl.length = n := HN.out
      have h1 := HB.out.1
      rw [List.take_of_length_le (by omega), Nat.sub_self, List.replicate_zero, List.append_nil] at h1
      have hw9 : ∀ x ∈ pl.map (at0 r), iw x := fun x hx => by
        obtain ⟨a, -, rfl⟩ := List.mem_map.1 hx
        exact at0_iw HR.out.wf a
      have h2 := isI_blk h1 hw9 (by simp; omega)
      rw [List.length_map, hpn] at h2
      refine ⟨_, rfl, h2, fun b j u hb => ?_, by rw [HH.out]; exact HB.out.2⟩
      have h3 := isI_blk (h1.far (p := ⟨b, j, none⟩) (by rw [HH.out] at hb; simp; omega) u) hw9 (by simp; omega)
      rw [List.length_map, hpn] at h3
      simpa using h3
end Go.Proofs.Ytgcjfbgfoiekmaa
