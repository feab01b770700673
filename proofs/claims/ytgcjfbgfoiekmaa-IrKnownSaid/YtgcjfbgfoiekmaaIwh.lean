/-
  The main that returns 7; what the statements know of it.
-/
import Derived.Test.YtgcjfbgfoiekmaaIwg
namespace Go.Proofs.Ytgcjfbgfoiekmaa
open Go Go.RowKit Go.Maps
set_option linter.unusedVariables false
set_option linter.unusedSimpArgs false

def i7 : Ins := ⟨1, 0, 0, 0, 0, 7, [], []⟩
def b7 : Blo := ⟨[i7], ⟨3, 0, 0, 0⟩⟩
def m7 : Mdl := ⟨[], [mainC [1] [b7]]⟩
theorem chk_m7 : chk m7 = 0 := by decide +kernel
theorem run_m7_1 : runM m7 [] 1 = ⟨[], 3, 0⟩ := by
  have h : (runM m7 [] 1).out = [] ∧ (runM m7 [] 1).status = 3 ∧ (runM m7 [] 1).code = 0 := by decide +kernel
  rw [show runM m7 [] 1 = ⟨(runM m7 [] 1).out, (runM m7 [] 1).status, (runM m7 [] 1).code⟩ from rfl, h.1, h.2.1, h.2.2]
theorem run_m7_2 : runM m7 [] 2 = ⟨[], 1, 7⟩ := by
  have h : (runM m7 [] 2).out = [] ∧ (runM m7 [] 2).status = 1 ∧ (runM m7 [] 2).code = 7 := by decide +kernel
  rw [show runM m7 [] 2 = ⟨(runM m7 [] 2).out, (runM m7 [] 2).status, (runM m7 [] 2).code⟩ from rfl, h.1, h.2.1, h.2.2]
theorem m7_small : SmM m7 := by
  intro f hf
  obtain rfl : f = mainC [1] [b7] := by simpa [m7] using hf
  intro b hb
  obtain rfl : b = b7 := by simpa [mainC] using hb
  intro i hi
  obtain rfl : i = i7 := by simpa [b7] using hi
  simp [i7]

theorem i7_w : i7.w := ⟨iw_small (by decide), iw_small (by decide), iw_small (by decide), iw_small (by decide), iw_small (by decide), iw_small (by decide)⟩
theorem e3_w : (⟨3, 0, 0, 0⟩ : Eb).w := ⟨iw_small (by decide), iw_small (by decide), iw_small (by decide), iw_small (by decide)⟩
theorem ones_w : ∀ x ∈ [(1 : Int)], iw x := by
  intro x hx
  obtain rfl : x = 1 := by simpa using hx
  exact iw_small (by decide)
/-- The four blocks of the main that returns 7. -/
structure Q7 (V : World) (H g : Nat) : Prop where
  r : Blk V H tI1 #[.int .i64 1]
  n : Blk V (H + 1) tIn (insC i7 nilV).toArray
  b : Blk V (H + 2) tBl (bloC b7 (.slice (some ⟨H + 1, 0, none⟩) 1 1)).toArray
  c : Blk V g tCo (codC (mainC [1] [b7]) (.slice (some ⟨H, 0, none⟩) 1 1) (.slice (some ⟨H + 2, 0, none⟩) 1 1)).toArray
theorem Q7.isF {V : World} {H g : Nat} (q : Q7 V H g) : IsF V V.heap.size (.slice (some ⟨g, 0, none⟩) 1 1) m7.f := by
  have hN : IsN V V.heap.size (.slice (some ⟨H + 1, 0, none⟩) 1 1) [i7] := isN_flat (l := [i7]) (fun _ => nilV) q.n (by simp) (by
    intro x hx
    obtain rfl : x = i7 := by simpa using hx
    exact ⟨i7_w, isI_nil _ _⟩)
  have hB : IsB V V.heap.size (.slice (some ⟨H + 2, 0, none⟩) 1 1) [b7] := isB_one q.b e3_w hN
  have hI : IsI V V.heap.size (.slice (some ⟨H, 0, none⟩) 1 1) [1] := isI_flat (l := [1]) q.r (by simp) ones_w
  exact isF_one (c := mainC [1] [b7]) q.c ⟨iw_small (by simp [mainC]), iw_small (by simp [mainC])⟩ hI hB
theorem Q7.far {V : World} {H g b j : Nat} (q : Q7 V H g) (h1 : b < H) (h2 : H ≤ g) (u : Value) : Q7 (V.setCell ⟨b, j, none⟩ u) H g :=
  ⟨q.r.far (p := ⟨b, j, none⟩) (by simp only; omega) u, q.n.far (p := ⟨b, j, none⟩) (by simp only; omega) u, q.b.far (p := ⟨b, j, none⟩) (by simp only; omega) u, q.c.far (p := ⟨b, j, none⟩) (by simp only; omega) u⟩

set_option maxHeartbeats 1000000 in
set_option maxRecDepth 10000 in
theorem seven_any (w : World) : Calls Try.prog 17 #[] w fun e w' => ∃ fv, e = .returned (.agg #[.slice none 0 0, fv]) ∧ IsF w' w'.heap.size fv m7.f ∧ Below w.heap.size w w' := by
  have hb1 : Below w.heap.size w (w.alloc (.cells #[.slice none 0 0, .slice none 0 0] tMo)) := (Below.refl _ _).alloc (Nat.le_refl _) _
  have HB1 := Lib.hid (And.intro hb1 (Blk.new w tMo #[.slice none 0 0, .slice none 0 0]))
  clear hb1
  go_enter Try.func17, Try.ntmps17
  go_upto_region 1 with (fail)
  obtain ⟨H, hH⟩ : ∃ H, w.heap.size = H := ⟨_, rfl⟩
  have HH := Lib.hid hH
  rw [hH] at HB1
  generalize hw1 : w.alloc (.cells #[.slice none 0 0, .slice none 0 0] tMo) = W1 at *
  simp only [hH]
  clear hH hw1
  have hl := HB1.out.2.lt
  have hb2 : Below W1.heap.size W1 (((W1.alloc (.cells #[.int .i64 1] tI1)).alloc (.cells (insC i7 nilV).toArray tIn)).alloc (.cells (bloC b7 (.slice (some ⟨W1.heap.size + 1, 0, none⟩) 1 1)).toArray tBl)) := (((Below.refl _ _).alloc (Nat.le_refl _) _).alloc (by simp) _).alloc (by simp; omega) _
  have q1 : Blk (((W1.alloc (.cells #[.int .i64 1] tI1)).alloc (.cells (insC i7 nilV).toArray tIn)).alloc (.cells (bloC b7 (.slice (some ⟨W1.heap.size + 1, 0, none⟩) 1 1)).toArray tBl)) W1.heap.size tI1 #[.int .i64 1] := ((Blk.new W1 tI1 _).alloc _).alloc _
  have q2 : Blk (((W1.alloc (.cells #[.int .i64 1] tI1)).alloc (.cells (insC i7 nilV).toArray tIn)).alloc (.cells (bloC b7 (.slice (some ⟨W1.heap.size + 1, 0, none⟩) 1 1)).toArray tBl)) (W1.heap.size + 1) tIn (insC i7 nilV).toArray := by
    have h := (Blk.new (W1.alloc (.cells #[.int .i64 1] tI1)) tIn (insC i7 nilV).toArray).alloc (.cells (bloC b7 (.slice (some ⟨W1.heap.size + 1, 0, none⟩) 1 1)).toArray tBl)
    rwa [show (W1.alloc (.cells #[.int .i64 1] tI1)).heap.size = W1.heap.size + 1 by simp] at h
  have q3 : Blk (((W1.alloc (.cells #[.int .i64 1] tI1)).alloc (.cells (insC i7 nilV).toArray tIn)).alloc (.cells (bloC b7 (.slice (some ⟨W1.heap.size + 1, 0, none⟩) 1 1)).toArray tBl)) (W1.heap.size + 2) tBl (bloC b7 (.slice (some ⟨W1.heap.size + 1, 0, none⟩) 1 1)).toArray := by
    have h := Blk.new ((W1.alloc (.cells #[.int .i64 1] tI1)).alloc (.cells (insC i7 nilV).toArray tIn)) tBl (bloC b7 (.slice (some ⟨W1.heap.size + 1, 0, none⟩) 1 1)).toArray
    rwa [show ((W1.alloc (.cells #[.int .i64 1] tI1)).alloc (.cells (insC i7 nilV).toArray tIn)).heap.size = W1.heap.size + 2 by simp] at h
  have HQ := Lib.hid (And.intro hb2 (And.intro q1 (And.intro q2 q3)))
  have HM : Hid (Calls Try.prog 16 #[.slice (some ⟨W1.heap.size, 0, none⟩) 1 1, .slice (some ⟨W1.heap.size + 2, 0, none⟩) 1 1] (((W1.alloc (.cells #[.int .i64 1] tI1)).alloc (.cells (insC i7 nilV).toArray tIn)).alloc (.cells (bloC b7 (.slice (some ⟨W1.heap.size + 1, 0, none⟩) 1 1)).toArray tBl)) fun e w' => ∃ g, e = .returned (.agg #[.slice none 0 0, .slice (some ⟨g, 0, none⟩) 1 1]) ∧ Q7 w' W1.heap.size g ∧ W1.heap.size ≤ g ∧ Below W1.heap.size W1 w') := Lib.hid
    ((mainR_any [1] [b7] _ _ _ _ _ _ _).mono fun e w' ⟨g, h1, h2, h3, h4⟩ => ⟨g, h1, ⟨q1.below h4 (q1.lt), q2.below h4 q2.lt, q3.below h4 q3.lt, h2⟩, Nat.le_trans hb2.size h3, hb2.trans (h4.mono hb2.size)⟩)
  clear hb2 q1 q2 q3
  go_wp2_with fail
  refine HM.out.mono ?_
  rintro e W3 ⟨g, rfl, hF, hgg, hb3⟩
  have HF := Lib.hid (And.intro hF hgg)
  have hk := HB1.out.2.on hb3
  have HB3 := Lib.hid (And.intro (HB1.out.1.trans (hb3.mono (by rw [← HH.out]; have := HB1.out.1.size; omega))) hk)
  have c0 := hk.cell 0
  have c1 := hk.cell 1
  have f0 := hk.frozen 0
  have f1 := hk.frozen 1
  have hl3 := hk.lt
  simp only [List.getElem?_toArray, List.getElem?_cons_zero, List.getElem?_cons_succ] at c0 c1
  clear hF hgg hb3 hk HM HQ
  go_wp2_with fail
  have hq := ((HB3.out.2.set_ 0 (.slice none 0 0)).set_ 1 (.slice (some ⟨g, 0, none⟩) 1 1))
  refine bodyPost_ret (v := .agg #[.slice none 0 0, .slice (some ⟨g, 0, none⟩) 1 1]) (results_cell_row rfl _ _ H tMo _ (0, 0) (.struct _) rfl hq Try.underlying25 rfl moInfo) rfl ?_
  have hbl : Below H W3 ((W3.setCell ⟨H, 0, none⟩ (.slice none 0 0)).setCell ⟨H, 1, none⟩ (.slice (some ⟨g, 0, none⟩) 1 1)) := ((Below.refl H W3).setCell (p := ⟨H, 0, none⟩) (Nat.le_refl _) _).setCell (p := ⟨H, 1, none⟩) (Nat.le_refl _) _
  exact ⟨_, rfl, ((HF.out.1.far hl HF.out.2 _).far hl HF.out.2 _).isF, by rw [HH.out]; exact HB3.out.1.trans hbl⟩
end Go.Proofs.Ytgcjfbgfoiekmaa
