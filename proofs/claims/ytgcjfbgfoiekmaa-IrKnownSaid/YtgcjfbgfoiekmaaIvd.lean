/-
  Layer ir: walks of the functions that list what an instruction needs.
-/
import Derived.Test.YtgcjfbgfoiekmaaIvc
namespace Go.Proofs.Ytgcjfbgfoiekmaa
open Go Go.RowKit
set_option linter.unusedVariables false
set_option linter.unusedSimpArgs false

theorem isNd_1 {W : World} {H : Nat} {ok : Prop} {x : Int} {fv : Value} {p : Int → Bool} (hb : Blk W H tNd #[.int .i64 x, fv]) (h : NeedV W ok fv p) : IsNd W ok (.slice (some ⟨H, 0, none⟩) 1 1) [(x, p)] :=
  ⟨_, 1, rfl, Nat.le_refl _, by unfold maxLen; omega, fun h => by (cases h), .inr ⟨H, 0, rfl, hb.lt, fun i y hi => by
    match i, hi with
    | 0, hi => cases hi; exact ⟨hb.cell 0, fv, hb.cell 1, h⟩⟩⟩
theorem isNd_2 {W : World} {H : Nat} {ok : Prop} {x y : Int} {fv gv : Value} {p q : Int → Bool} (hb : Blk W H tNd #[.int .i64 x, fv, .int .i64 y, gv]) (h : NeedV W ok fv p) (h' : NeedV W ok gv q) : IsNd W ok (.slice (some ⟨H, 0, none⟩) 2 2) [(x, p), (y, q)] :=
  ⟨_, 2, rfl, Nat.le_refl _, by unfold maxLen; omega, fun h => by (cases h), .inr ⟨H, 0, rfl, hb.lt, fun i y hi => by
    match i, hi with
    | 0, hi => cases hi; exact ⟨hb.cell 0, fv, hb.cell 1, h⟩
    | 1, hi => cases hi; exact ⟨hb.cell 2, gv, hb.cell 3, h'⟩⟩⟩
theorem isNd_3 {W : World} {H : Nat} {ok : Prop} {x y z : Int} {fv gv kv : Value} {p q r : Int → Bool} (hb : Blk W H tNd #[.int .i64 x, fv, .int .i64 y, gv, .int .i64 z, kv]) (h : NeedV W ok fv p) (h' : NeedV W ok gv q) (h3 : NeedV W ok kv r) : IsNd W ok (.slice (some ⟨H, 0, none⟩) 3 3) [(x, p), (y, q), (z, r)] :=
  ⟨_, 3, rfl, Nat.le_refl _, by unfold maxLen; omega, fun h => by (cases h), .inr ⟨H, 0, rfl, hb.lt, fun i y hi => by
    match i, hi with
    | 0, hi => cases hi; exact ⟨hb.cell 0, fv, hb.cell 1, h⟩
    | 1, hi => cases hi; exact ⟨hb.cell 2, gv, hb.cell 3, h'⟩
    | 2, hi => cases hi; exact ⟨hb.cell 4, kv, hb.cell 5, h3⟩⟩⟩
theorem is_any (v : Int) (w : World) (ok : Prop) : Calls Try.prog 42 #[.int .i64 v] w fun e w' => ∃ fv, e = .returned fv ∧ NeedV w' ok fv (fun t => t == v) ∧ Below w.heap.size w w' := by
  go_enter Try.func42, Try.ntmps42
  go_wp2
  go_ret
  exact ⟨_, rfl, need_is _ ok _ v (Blk.new w tI1 #[.int .i64 v]), (Below.refl _ _).alloc (Nat.le_refl _) _⟩
theorem holdE_any (m : Mdl) (f : Cod) (n : Int) (cb : Nat) (w : World) (hc : CkV w cb m f) : Calls Try.prog 51 #[.pointer (some ⟨cb, 0, none⟩), .int .i64 n] w fun e w' => ∃ fv, e = .returned fv ∧ NeedV w' (inR m.g n = true) fv (fun t => t == held (gAt m n).ty) ∧ Below w.heap.size w w' := by
  have HC := Lib.hid hc
  clear hc
  go_enter Try.func51, Try.ntmps51
  go_wp2
  go_ret
  have hb : Below w.heap.size w ((w.alloc (.cells #[.pointer (some ⟨cb, 0, none⟩)] tCp)).alloc (.cells #[.int .i64 n] tI1)) := ((Below.refl _ _).alloc (Nat.le_refl _) _).alloc (by simp) _
  have h3 := Blk.new (w.alloc (.cells #[.pointer (some ⟨cb, 0, none⟩)] tCp)) tI1 #[.int .i64 n]
  rw [show (w.alloc (.cells #[.pointer (some ⟨cb, 0, none⟩)] tCp)).heap.size = w.heap.size + 1 by simp] at h3
  exact ⟨_, rfl, need_elem _ m f n cb _ _ (HC.out.on hb) ((Blk.new w tCp _).alloc _) h3, hb⟩
theorem holdS_any (m : Mdl) (f : Cod) (n : Int) (cb : Nat) (w : World) (hc : CkV w cb m f) : Calls Try.prog 52 #[.pointer (some ⟨cb, 0, none⟩), .int .i64 n] w fun e w' => ∃ fv, e = .returned fv ∧ NeedV w' (inR m.g n = true) fv (fun t => t == (gAt m n).ty) ∧ Below w.heap.size w w' := by
  have HC := Lib.hid hc
  clear hc
  go_enter Try.func52, Try.ntmps52
  go_wp2
  go_ret
  have hb : Below w.heap.size w ((w.alloc (.cells #[.pointer (some ⟨cb, 0, none⟩)] tCp)).alloc (.cells #[.int .i64 n] tI1)) := ((Below.refl _ _).alloc (Nat.le_refl _) _).alloc (by simp) _
  have h3 := Blk.new (w.alloc (.cells #[.pointer (some ⟨cb, 0, none⟩)] tCp)) tI1 #[.int .i64 n]
  rw [show (w.alloc (.cells #[.pointer (some ⟨cb, 0, none⟩)] tCp)).heap.size = w.heap.size + 1 by simp] at h3
  exact ⟨_, rfl, need_scal _ m f n cb _ _ (HC.out.on hb) ((Blk.new w tCp _).alloc _) h3, hb⟩
/-- What must hold for the needs to be asked. -/
def OkI (m : Mdl) (f : Cod) (i : Ins) : Prop := (existL f (needL m f i) && placeI m f i) = true ∧ (i.op = 9 → (i.args.length : Int) = (fAt m i.n).pr)
theorem OkI.g {m : Mdl} {f : Cod} {i : Ins} (h : OkI m f i) (ho : i.op = 5 ∨ i.op = 6 ∨ i.op = 7 ∨ i.op = 8) : inR m.g i.n = true := by
  have h1 := (Bool.and_eq_true _ _ ▸ h.1).2
  unfold placeI at h1
  rw [if_neg (by omega)] at h1
  by_cases h5 : i.op = 5 ∨ i.op = 6
  · rw [if_pos h5] at h1; exact (Bool.and_eq_true _ _ ▸ h1).1
  · rw [if_neg h5, if_pos (by omega)] at h1; exact (Bool.and_eq_true _ _ ▸ h1).1
theorem OkI.a {m : Mdl} {f : Cod} {i : Ins} (h : OkI m f i) (ho : i.op = 2) : inR f.regs i.a = true := by
  have h1 := (Bool.and_eq_true _ _ ▸ h.1).1
  simp [existL, needL, ho] at h1
  exact h1.1
theorem OkI.c {m : Mdl} {f : Cod} {i : Ins} (h : OkI m f i) (ho : i.op = 9) : inR m.f i.n = true ∧ i.args.length ≤ (fAt m i.n).regs.length := by
  have h1 := (Bool.and_eq_true _ _ ▸ h.1).2
  have h2 := h.2 ho
  simp [placeI, ho] at h1
  exact ⟨h1.1, by omega⟩
/-- At the head of 'needs': its two boxes. -/
structure NeedHd (w W1 : World) (cb : Nat) (m : Mdl) (f : Cod) (i : Ins) (av : Value) : Prop where
  b : Below w.heap.size w W1
  c : CkV W1 cb m f
  p : Blk W1 w.heap.size tCp #[.pointer (some ⟨cb, 0, none⟩)]
  q : Blk W1 (w.heap.size + 1) tIn (insA i av)
theorem needHd {w : World} {cb : Nat} {m : Mdl} {f : Cod} (i : Ins) (av : Value) (hc : CkV w cb m f) : NeedHd w ((w.alloc (.cells #[.pointer (some ⟨cb, 0, none⟩)] tCp)).alloc (.cells (insA i av) tIn)) cb m f i av := by
  have hb : Below w.heap.size w ((w.alloc (.cells #[.pointer (some ⟨cb, 0, none⟩)] tCp)).alloc (.cells (insA i av) tIn)) := ((Below.refl _ _).alloc (Nat.le_refl _) _).alloc (by simp) _
  have h3 := Blk.new (w.alloc (.cells #[.pointer (some ⟨cb, 0, none⟩)] tCp)) tIn (insA i av)
  rw [show (w.alloc (.cells #[.pointer (some ⟨cb, 0, none⟩)] tCp)).heap.size = w.heap.size + 1 by simp] at h3
  exact ⟨hb, hc.on hb, (Blk.new w tCp _).alloc _, h3⟩
def NeedsPost (w : World) (m : Mdl) (f : Cod) (i : Ins) (e : Ending) (w' : World) : Prop := ∃ v, e = .returned v ∧ IsNd w' (OkI m f i) v (needL m f i) ∧ Below w.heap.size w w'
set_option maxHeartbeats 1000000 in
theorem needs3_any (m : Mdl) (f : Cod) (i : Ins) (av : Value) (cb : Nat) (w : World) (hc : CkV w cb m f) (ho : i.op = 3) : Calls Try.prog 37 #[.pointer (some ⟨cb, 0, none⟩), .agg (insA i av)] w (NeedsPost w m f i) := by
  have HH := Lib.hid (needHd i av hc)
  have HO := Lib.hid ho
  obtain ⟨P, hP⟩ : ∃ P, NeedsPost w m f i = P := ⟨_, rfl⟩
  have HP := Lib.hid hP
  rw [hP]
  clear hc hP
  unfold insA at HH ⊢
  obtain ⟨op, ty, dst, a, b, n, s, args⟩ := i
  simp only at ho HH ⊢
  subst ho
  have HI : Hid (∀ v W, Calls Try.prog 42 #[.int .i64 v] W fun e w' => ∃ fv, e = .returned fv ∧ NeedV w' (OkI m f ⟨3, ty, dst, a, b, n, s, args⟩) fv (fun t => t == v) ∧ Below W.heap.size W w') := Lib.hid fun v W => is_any v W _
  obtain ⟨rt, hrt⟩ : ∃ rt, resT ⟨3, ty, dst, a, b, n, s, args⟩ = rt := ⟨_, rfl⟩
  have HR : Hid (∀ W, Calls Try.prog 49 #[.agg #[.int .i64 3, .int .i64 ty, .int .i64 dst, .int .i64 a, .int .i64 b, .int .i64 n, .string (str s), av]] W fun e w' => e = .returned (.int .i64 rt) ∧ Below W.heap.size W w') := Lib.hid fun W => by rw [← hrt]; exact resT_any ⟨3, ty, dst, a, b, n, s, args⟩ av W
  have HRT := Lib.hid hrt
  clear hrt
  go_enter Try.func37, Try.ntmps37
  go_upto_region 1 with (fail)
  generalize (w.alloc (.cells #[.pointer (some ⟨cb, 0, none⟩)] tCp)).alloc (.cells #[.int .i64 3, .int .i64 ty, .int .i64 dst, .int .i64 a, .int .i64 b, .int .i64 n, .string (str s), av] tIn) = W1 at *
  have q0 : W1.cell? ⟨w.heap.size + 1, 0, none⟩ = some (.int .i64 3) := HH.out.q.cell 0
  have q1 : W1.cell? ⟨w.heap.size + 1, 1, none⟩ = some (.int .i64 ty) := HH.out.q.cell 1
  have q2 : W1.cell? ⟨w.heap.size + 1, 2, none⟩ = some (.int .i64 dst) := HH.out.q.cell 2
  have q3 : W1.cell? ⟨w.heap.size + 1, 3, none⟩ = some (.int .i64 a) := HH.out.q.cell 3
  have q4 : W1.cell? ⟨w.heap.size + 1, 4, none⟩ = some (.int .i64 b) := HH.out.q.cell 4
  have q5 : W1.cell? ⟨w.heap.size + 1, 5, none⟩ = some (.int .i64 n) := HH.out.q.cell 5
  have q6 : W1.cell? ⟨w.heap.size + 1, 6, none⟩ = some (.string (str s)) := HH.out.q.cell 6
  have q7 : W1.cell? ⟨w.heap.size + 1, 7, none⟩ = some (av) := HH.out.q.cell 7
  have ql := HH.out.q.lt
  go_wp2_with fail
  have HS : Hid (∀ Wx, Below W1.heap.size W1 Wx → Wx.cell? ⟨w.heap.size + 1, 0, none⟩ = some (.int .i64 3) ∧ Wx.cell? ⟨w.heap.size + 1, 1, none⟩ = some (.int .i64 ty) ∧ Wx.cell? ⟨w.heap.size + 1, 2, none⟩ = some (.int .i64 dst) ∧ Wx.cell? ⟨w.heap.size + 1, 3, none⟩ = some (.int .i64 a) ∧ Wx.cell? ⟨w.heap.size + 1, 4, none⟩ = some (.int .i64 b) ∧ Wx.cell? ⟨w.heap.size + 1, 5, none⟩ = some (.int .i64 n) ∧ Wx.cell? ⟨w.heap.size + 1, 6, none⟩ = some (.string (str s)) ∧ Wx.cell? ⟨w.heap.size + 1, 7, none⟩ = some (av) ∧ w.heap.size + 1 < Wx.heap.size) := Lib.hid fun Wx h => by
    have hz := h.size
    exact ⟨(h.cell (p := ⟨w.heap.size + 1, 0, none⟩) ql).trans q0, (h.cell (p := ⟨w.heap.size + 1, 1, none⟩) ql).trans q1, (h.cell (p := ⟨w.heap.size + 1, 2, none⟩) ql).trans q2, (h.cell (p := ⟨w.heap.size + 1, 3, none⟩) ql).trans q3, (h.cell (p := ⟨w.heap.size + 1, 4, none⟩) ql).trans q4, (h.cell (p := ⟨w.heap.size + 1, 5, none⟩) ql).trans q5, (h.cell (p := ⟨w.heap.size + 1, 6, none⟩) ql).trans q6, (h.cell (p := ⟨w.heap.size + 1, 7, none⟩) ql).trans q7, by omega⟩
  have J : Below W1.heap.size W1 W1 := Below.refl _ _
  go_region_held3 (fun Wx => Wx.cell? ⟨w.heap.size + 1, 0, none⟩ = some (.int .i64 3) ∧ Wx.cell? ⟨w.heap.size + 1, 1, none⟩ = some (.int .i64 ty) ∧ Wx.cell? ⟨w.heap.size + 1, 2, none⟩ = some (.int .i64 dst) ∧ Wx.cell? ⟨w.heap.size + 1, 3, none⟩ = some (.int .i64 a) ∧ Wx.cell? ⟨w.heap.size + 1, 4, none⟩ = some (.int .i64 b) ∧ Wx.cell? ⟨w.heap.size + 1, 5, none⟩ = some (.int .i64 n) ∧ Wx.cell? ⟨w.heap.size + 1, 6, none⟩ = some (.string (str s)) ∧ Wx.cell? ⟨w.heap.size + 1, 7, none⟩ = some (av) ∧ w.heap.size + 1 < Wx.heap.size)
    (first | exact ⟨q0, q1, q2, q3, q4, q5, q6, q7, ql⟩ | exact HS.out _ J | exact HS.out _ (J.alloc J.size _))
    (first
      | (go_at_call 42; (with_reducible refine Calls.mono (HI.out _ _) ?_); (first | (have _t := hn2; rintro e v3 ⟨fv, rfl, hn3, b3⟩; obtain ⟨k3, caps3, rfl, hk3⟩ := hn3; have hn3 := hk3; (have J : Below W1.heap.size W1 v3 := by first | exact J.trans (b3.mono J.size) | exact J.drew.trans (b3.mono J.drew.size))) | (have _t := hn1; rintro e v2 ⟨fv, rfl, hn2, b2⟩; obtain ⟨k2, caps2, rfl, hk2⟩ := hn2; have hn2 := hk2; (have J : Below W1.heap.size W1 v2 := by first | exact J.trans (b2.mono J.size) | exact J.drew.trans (b2.mono J.drew.size))) | (rintro e v1 ⟨fv, rfl, hn1, b1⟩; obtain ⟨k1, caps1, rfl, hk1⟩ := hn1; have hn1 := hk1; (have J : Below W1.heap.size W1 v1 := by first | exact J.trans (b1.mono J.size) | exact J.drew.trans (b1.mono J.drew.size)))))
      | (go_at_call 49; (with_reducible refine Calls.mono (HR.out _) ?_); rintro e v8 ⟨rfl, b8⟩; (have J : Below W1.heap.size W1 v8 := by first | exact J.trans (b8.mono J.size) | exact J.drew.trans (b8.mono J.drew.size))))
  all_goals
    go_wp2_with fail
    rw [← HP.out]
    have q28 := b8.trans (b3.mono b8.size)
    have q2 := q28.alloc q28.size (.cells #[.int .i64 a, .func (.func k1) #[] caps1, .int .i64 b, .func (.func k2) #[] caps2, .int .i64 dst, .func (.func k3) #[] caps3] tNd)
    have q1 := b2.trans (q2.mono b2.size)
    exact ⟨_, rfl, isNd_3 (Blk.new _ _ _) (NeedV.on (w := v1) ⟨_, _, rfl, hk1⟩ q1) (NeedV.on (w := v2) ⟨_, _, rfl, hk2⟩ q2) (by rw [HRT.out]; exact NeedV.on (w := v3) ⟨_, _, rfl, hk3⟩ ((Below.refl _ _).alloc (Nat.le_refl _) _)), HH.out.b.trans ((J.alloc J.size _).mono HH.out.b.size)⟩
set_option maxHeartbeats 1000000 in
theorem needs4_any (m : Mdl) (f : Cod) (i : Ins) (av : Value) (cb : Nat) (w : World) (hc : CkV w cb m f) (ho : i.op = 4) : Calls Try.prog 37 #[.pointer (some ⟨cb, 0, none⟩), .agg (insA i av)] w (NeedsPost w m f i) := by
  have HH := Lib.hid (needHd i av hc)
  have HO := Lib.hid ho
  obtain ⟨P, hP⟩ : ∃ P, NeedsPost w m f i = P := ⟨_, rfl⟩
  have HP := Lib.hid hP
  rw [hP]
  clear hc hP
  unfold insA at HH ⊢
  obtain ⟨op, ty, dst, a, b, n, s, args⟩ := i
  simp only at ho HH ⊢
  subst ho
  have HI : Hid (∀ v W, Calls Try.prog 42 #[.int .i64 v] W fun e w' => ∃ fv, e = .returned fv ∧ NeedV w' (OkI m f ⟨4, ty, dst, a, b, n, s, args⟩) fv (fun t => t == v) ∧ Below W.heap.size W w') := Lib.hid fun v W => is_any v W _
  obtain ⟨ht, hht⟩ : ∃ ht, held ty = ht := ⟨_, rfl⟩
  have HD : Hid (∀ W, Calls Try.prog 50 #[.int .i64 ty] W fun e w' => e = .returned (.int .i64 ht) ∧ Below W.heap.size W w') := Lib.hid fun W => by rw [← hht]; exact (held_any ty W).mono fun e w' h => ⟨h.1, by rw [← h.2]; exact Below.refl _ _⟩
  have HHT := Lib.hid hht
  clear hht
  go_enter Try.func37, Try.ntmps37
  go_upto_region 1 with (fail)
  generalize (w.alloc (.cells #[.pointer (some ⟨cb, 0, none⟩)] tCp)).alloc (.cells #[.int .i64 4, .int .i64 ty, .int .i64 dst, .int .i64 a, .int .i64 b, .int .i64 n, .string (str s), av] tIn) = W1 at *
  have q0 : W1.cell? ⟨w.heap.size + 1, 0, none⟩ = some (.int .i64 4) := HH.out.q.cell 0
  have q1 : W1.cell? ⟨w.heap.size + 1, 1, none⟩ = some (.int .i64 ty) := HH.out.q.cell 1
  have q2 : W1.cell? ⟨w.heap.size + 1, 2, none⟩ = some (.int .i64 dst) := HH.out.q.cell 2
  have q3 : W1.cell? ⟨w.heap.size + 1, 3, none⟩ = some (.int .i64 a) := HH.out.q.cell 3
  have ql := HH.out.q.lt
  go_wp2_with fail
  have HS : Hid (∀ Wx, Below W1.heap.size W1 Wx → Wx.cell? ⟨w.heap.size + 1, 1, none⟩ = some (.int .i64 ty) ∧ Wx.cell? ⟨w.heap.size + 1, 2, none⟩ = some (.int .i64 dst) ∧ Wx.cell? ⟨w.heap.size + 1, 3, none⟩ = some (.int .i64 a) ∧ w.heap.size + 1 < Wx.heap.size) := Lib.hid fun Wx h => by
    have hz := h.size
    exact ⟨(h.cell (p := ⟨w.heap.size + 1, 1, none⟩) ql).trans q1, (h.cell (p := ⟨w.heap.size + 1, 2, none⟩) ql).trans q2, (h.cell (p := ⟨w.heap.size + 1, 3, none⟩) ql).trans q3, by omega⟩
  have J : Below W1.heap.size W1 W1 := Below.refl _ _
  go_region_held3 (fun Wx => Wx.cell? ⟨w.heap.size + 1, 1, none⟩ = some (.int .i64 ty) ∧ Wx.cell? ⟨w.heap.size + 1, 2, none⟩ = some (.int .i64 dst) ∧ Wx.cell? ⟨w.heap.size + 1, 3, none⟩ = some (.int .i64 a) ∧ w.heap.size + 1 < Wx.heap.size)
    (first | exact ⟨q1, q2, q3, ql⟩ | exact HS.out _ J | exact HS.out _ (J.alloc J.size _))
    (first
      | (go_at_call 42; (with_reducible refine Calls.mono (HI.out _ _) ?_); (first | (have _t := hn2; rintro e v3 ⟨fv, rfl, hn3, b3⟩; obtain ⟨k3, caps3, rfl, hk3⟩ := hn3; have hn3 := hk3; (have J : Below W1.heap.size W1 v3 := by first | exact J.trans (b3.mono J.size) | exact J.drew.trans (b3.mono J.drew.size))) | (have _t := hn1; rintro e v2 ⟨fv, rfl, hn2, b2⟩; obtain ⟨k2, caps2, rfl, hk2⟩ := hn2; have hn2 := hk2; (have J : Below W1.heap.size W1 v2 := by first | exact J.trans (b2.mono J.size) | exact J.drew.trans (b2.mono J.drew.size))) | (rintro e v1 ⟨fv, rfl, hn1, b1⟩; obtain ⟨k1, caps1, rfl, hk1⟩ := hn1; have hn1 := hk1; (have J : Below W1.heap.size W1 v1 := by first | exact J.trans (b1.mono J.size) | exact J.drew.trans (b1.mono J.drew.size)))))
      | (go_at_call 50; (with_reducible refine Calls.mono (HD.out _) ?_); rintro e v8 ⟨rfl, b8⟩; (have J : Below W1.heap.size W1 v8 := by first | exact J.trans (b8.mono J.size) | exact J.drew.trans (b8.mono J.drew.size))))
  all_goals
    go_wp2_with fail
    rw [← HP.out]
    exact ⟨_, rfl, isNd_2 (Blk.new _ _ _) (need_isV _ _) (by rw [HHT.out]; exact NeedV.on (w := v1) ⟨_, _, rfl, hk1⟩ ((Below.refl _ _).alloc (Nat.le_refl _) _)), HH.out.b.trans ((J.alloc J.size _).mono HH.out.b.size)⟩
set_option maxHeartbeats 1000000 in
theorem needs5_any (m : Mdl) (f : Cod) (i : Ins) (av : Value) (cb : Nat) (w : World) (hc : CkV w cb m f) (ho : i.op = 5) : Calls Try.prog 37 #[.pointer (some ⟨cb, 0, none⟩), .agg (insA i av)] w (NeedsPost w m f i) := by
  have HH := Lib.hid (needHd i av hc)
  have HO := Lib.hid ho
  obtain ⟨P, hP⟩ : ∃ P, NeedsPost w m f i = P := ⟨_, rfl⟩
  have HP := Lib.hid hP
  rw [hP]
  clear hc hP
  unfold insA at HH ⊢
  obtain ⟨op, ty, dst, a, b, n, s, args⟩ := i
  simp only at ho HH ⊢
  subst ho
  have HI : Hid (∀ v W, Calls Try.prog 42 #[.int .i64 v] W fun e w' => ∃ fv, e = .returned fv ∧ NeedV w' (OkI m f ⟨5, ty, dst, a, b, n, s, args⟩) fv (fun t => t == v) ∧ Below W.heap.size W w') := Lib.hid fun v W => is_any v W _
  go_enter Try.func37, Try.ntmps37
  go_upto_region 1 with (fail)
  generalize (w.alloc (.cells #[.pointer (some ⟨cb, 0, none⟩)] tCp)).alloc (.cells #[.int .i64 5, .int .i64 ty, .int .i64 dst, .int .i64 a, .int .i64 b, .int .i64 n, .string (str s), av] tIn) = W1 at *
  have p0 : W1.cell? ⟨w.heap.size, 0, none⟩ = some (.pointer (some ⟨cb, 0, none⟩)) := HH.out.p.cell 0
  have pl := HH.out.p.lt
  have q0 : W1.cell? ⟨w.heap.size + 1, 0, none⟩ = some (.int .i64 5) := HH.out.q.cell 0
  have q2 : W1.cell? ⟨w.heap.size + 1, 2, none⟩ = some (.int .i64 dst) := HH.out.q.cell 2
  have q3 : W1.cell? ⟨w.heap.size + 1, 3, none⟩ = some (.int .i64 a) := HH.out.q.cell 3
  have q5 : W1.cell? ⟨w.heap.size + 1, 5, none⟩ = some (.int .i64 n) := HH.out.q.cell 5
  have ql := HH.out.q.lt
  go_wp2_with fail
  have HC : Hid (∀ W, Below W1.heap.size W1 W → Calls Try.prog 51 #[.pointer (some ⟨cb, 0, none⟩), .int .i64 n] W fun e w' => ∃ fv, e = .returned fv ∧ NeedV w' (OkI m f ⟨5, ty, dst, a, b, n, s, args⟩) fv (fun t => t == held (gAt m n).ty) ∧ Below W.heap.size W w') := Lib.hid fun W hW => (holdE_any m f n cb W (HH.out.c.on hW)).mono fun e w' ⟨fv, h1, h2, h3⟩ => ⟨fv, h1, h2.imp fun h => h.g (by simp), h3⟩
  have HS : Hid (∀ Wx, Below W1.heap.size W1 Wx → Wx.cell? ⟨w.heap.size, 0, none⟩ = some (.pointer (some ⟨cb, 0, none⟩)) ∧ Wx.cell? ⟨w.heap.size + 1, 2, none⟩ = some (.int .i64 dst) ∧ Wx.cell? ⟨w.heap.size + 1, 3, none⟩ = some (.int .i64 a) ∧ Wx.cell? ⟨w.heap.size + 1, 5, none⟩ = some (.int .i64 n) ∧ w.heap.size < Wx.heap.size ∧ w.heap.size + 1 < Wx.heap.size) := Lib.hid fun Wx h => by
    have hz := h.size
    exact ⟨(h.cell (p := ⟨w.heap.size, 0, none⟩) pl).trans p0, (h.cell (p := ⟨w.heap.size + 1, 2, none⟩) ql).trans q2, (h.cell (p := ⟨w.heap.size + 1, 3, none⟩) ql).trans q3, (h.cell (p := ⟨w.heap.size + 1, 5, none⟩) ql).trans q5, by omega, by omega⟩
  have J : Below W1.heap.size W1 W1 := Below.refl _ _
  go_region_held3 (fun Wx => Wx.cell? ⟨w.heap.size, 0, none⟩ = some (.pointer (some ⟨cb, 0, none⟩)) ∧ Wx.cell? ⟨w.heap.size + 1, 2, none⟩ = some (.int .i64 dst) ∧ Wx.cell? ⟨w.heap.size + 1, 3, none⟩ = some (.int .i64 a) ∧ Wx.cell? ⟨w.heap.size + 1, 5, none⟩ = some (.int .i64 n) ∧ w.heap.size < Wx.heap.size ∧ w.heap.size + 1 < Wx.heap.size)
    (first | exact ⟨p0, q2, q3, q5, pl, ql⟩ | exact HS.out _ J | exact HS.out _ (J.alloc J.size _))
    (first
      | (go_at_call 42; (with_reducible refine Calls.mono (HI.out _ _) ?_); (first | (have _t := hn2; rintro e v3 ⟨fv, rfl, hn3, b3⟩; obtain ⟨k3, caps3, rfl, hk3⟩ := hn3; have hn3 := hk3; (have J : Below W1.heap.size W1 v3 := by first | exact J.trans (b3.mono J.size) | exact J.drew.trans (b3.mono J.drew.size))) | (have _t := hn1; rintro e v2 ⟨fv, rfl, hn2, b2⟩; obtain ⟨k2, caps2, rfl, hk2⟩ := hn2; have hn2 := hk2; (have J : Below W1.heap.size W1 v2 := by first | exact J.trans (b2.mono J.size) | exact J.drew.trans (b2.mono J.drew.size))) | (rintro e v1 ⟨fv, rfl, hn1, b1⟩; obtain ⟨k1, caps1, rfl, hk1⟩ := hn1; have hn1 := hk1; (have J : Below W1.heap.size W1 v1 := by first | exact J.trans (b1.mono J.size) | exact J.drew.trans (b1.mono J.drew.size)))))
      | (go_at_call 51; (with_reducible refine Calls.mono (HC.out _ ?hw) ?_); (case hw => first | exact J | exact J.drew); (first | (have _t := hn2; rintro e v3 ⟨fv, rfl, hn3, b3⟩; obtain ⟨k3, caps3, rfl, hk3⟩ := hn3; have hn3 := hk3; (have J : Below W1.heap.size W1 v3 := by first | exact J.trans (b3.mono J.size) | exact J.drew.trans (b3.mono J.drew.size))) | (have _t := hn1; rintro e v2 ⟨fv, rfl, hn2, b2⟩; obtain ⟨k2, caps2, rfl, hk2⟩ := hn2; have hn2 := hk2; (have J : Below W1.heap.size W1 v2 := by first | exact J.trans (b2.mono J.size) | exact J.drew.trans (b2.mono J.drew.size))) | (rintro e v1 ⟨fv, rfl, hn1, b1⟩; obtain ⟨k1, caps1, rfl, hk1⟩ := hn1; have hn1 := hk1; (have J : Below W1.heap.size W1 v1 := by first | exact J.trans (b1.mono J.size) | exact J.drew.trans (b1.mono J.drew.size))))))
  all_goals
    go_wp2_with fail
    rw [← HP.out]
    exact ⟨_, rfl, isNd_2 (Blk.new _ _ _) (NeedV.on (w := v1) ⟨_, _, rfl, hk1⟩ (b2.alloc b2.size _)) (NeedV.on (w := v2) ⟨_, _, rfl, hk2⟩ ((Below.refl _ _).alloc (Nat.le_refl _) _)), HH.out.b.trans ((J.alloc J.size _).mono HH.out.b.size)⟩
set_option maxHeartbeats 1000000 in
theorem needs6_any (m : Mdl) (f : Cod) (i : Ins) (av : Value) (cb : Nat) (w : World) (hc : CkV w cb m f) (ho : i.op = 6) : Calls Try.prog 37 #[.pointer (some ⟨cb, 0, none⟩), .agg (insA i av)] w (NeedsPost w m f i) := by
  have HH := Lib.hid (needHd i av hc)
  have HO := Lib.hid ho
  obtain ⟨P, hP⟩ : ∃ P, NeedsPost w m f i = P := ⟨_, rfl⟩
  have HP := Lib.hid hP
  rw [hP]
  clear hc hP
  unfold insA at HH ⊢
  obtain ⟨op, ty, dst, a, b, n, s, args⟩ := i
  simp only at ho HH ⊢
  subst ho
  have HI : Hid (∀ v W, Calls Try.prog 42 #[.int .i64 v] W fun e w' => ∃ fv, e = .returned fv ∧ NeedV w' (OkI m f ⟨6, ty, dst, a, b, n, s, args⟩) fv (fun t => t == v) ∧ Below W.heap.size W w') := Lib.hid fun v W => is_any v W _
  go_enter Try.func37, Try.ntmps37
  go_upto_region 1 with (fail)
  generalize (w.alloc (.cells #[.pointer (some ⟨cb, 0, none⟩)] tCp)).alloc (.cells #[.int .i64 6, .int .i64 ty, .int .i64 dst, .int .i64 a, .int .i64 b, .int .i64 n, .string (str s), av] tIn) = W1 at *
  have p0 : W1.cell? ⟨w.heap.size, 0, none⟩ = some (.pointer (some ⟨cb, 0, none⟩)) := HH.out.p.cell 0
  have pl := HH.out.p.lt
  have q0 : W1.cell? ⟨w.heap.size + 1, 0, none⟩ = some (.int .i64 6) := HH.out.q.cell 0
  have q3 : W1.cell? ⟨w.heap.size + 1, 3, none⟩ = some (.int .i64 a) := HH.out.q.cell 3
  have q4 : W1.cell? ⟨w.heap.size + 1, 4, none⟩ = some (.int .i64 b) := HH.out.q.cell 4
  have q5 : W1.cell? ⟨w.heap.size + 1, 5, none⟩ = some (.int .i64 n) := HH.out.q.cell 5
  have ql := HH.out.q.lt
  go_wp2_with fail
  have HC : Hid (∀ W, Below W1.heap.size W1 W → Calls Try.prog 51 #[.pointer (some ⟨cb, 0, none⟩), .int .i64 n] W fun e w' => ∃ fv, e = .returned fv ∧ NeedV w' (OkI m f ⟨6, ty, dst, a, b, n, s, args⟩) fv (fun t => t == held (gAt m n).ty) ∧ Below W.heap.size W w') := Lib.hid fun W hW => (holdE_any m f n cb W (HH.out.c.on hW)).mono fun e w' ⟨fv, h1, h2, h3⟩ => ⟨fv, h1, h2.imp fun h => h.g (by simp), h3⟩
  have HS : Hid (∀ Wx, Below W1.heap.size W1 Wx → Wx.cell? ⟨w.heap.size, 0, none⟩ = some (.pointer (some ⟨cb, 0, none⟩)) ∧ Wx.cell? ⟨w.heap.size + 1, 3, none⟩ = some (.int .i64 a) ∧ Wx.cell? ⟨w.heap.size + 1, 4, none⟩ = some (.int .i64 b) ∧ Wx.cell? ⟨w.heap.size + 1, 5, none⟩ = some (.int .i64 n) ∧ w.heap.size < Wx.heap.size ∧ w.heap.size + 1 < Wx.heap.size) := Lib.hid fun Wx h => by
    have hz := h.size
    exact ⟨(h.cell (p := ⟨w.heap.size, 0, none⟩) pl).trans p0, (h.cell (p := ⟨w.heap.size + 1, 3, none⟩) ql).trans q3, (h.cell (p := ⟨w.heap.size + 1, 4, none⟩) ql).trans q4, (h.cell (p := ⟨w.heap.size + 1, 5, none⟩) ql).trans q5, by omega, by omega⟩
  have J : Below W1.heap.size W1 W1 := Below.refl _ _
  go_region_held3 (fun Wx => Wx.cell? ⟨w.heap.size, 0, none⟩ = some (.pointer (some ⟨cb, 0, none⟩)) ∧ Wx.cell? ⟨w.heap.size + 1, 3, none⟩ = some (.int .i64 a) ∧ Wx.cell? ⟨w.heap.size + 1, 4, none⟩ = some (.int .i64 b) ∧ Wx.cell? ⟨w.heap.size + 1, 5, none⟩ = some (.int .i64 n) ∧ w.heap.size < Wx.heap.size ∧ w.heap.size + 1 < Wx.heap.size)
    (first | exact ⟨p0, q3, q4, q5, pl, ql⟩ | exact HS.out _ J | exact HS.out _ (J.alloc J.size _))
    (first
      | (go_at_call 42; (with_reducible refine Calls.mono (HI.out _ _) ?_); (first | (have _t := hn2; rintro e v3 ⟨fv, rfl, hn3, b3⟩; obtain ⟨k3, caps3, rfl, hk3⟩ := hn3; have hn3 := hk3; (have J : Below W1.heap.size W1 v3 := by first | exact J.trans (b3.mono J.size) | exact J.drew.trans (b3.mono J.drew.size))) | (have _t := hn1; rintro e v2 ⟨fv, rfl, hn2, b2⟩; obtain ⟨k2, caps2, rfl, hk2⟩ := hn2; have hn2 := hk2; (have J : Below W1.heap.size W1 v2 := by first | exact J.trans (b2.mono J.size) | exact J.drew.trans (b2.mono J.drew.size))) | (rintro e v1 ⟨fv, rfl, hn1, b1⟩; obtain ⟨k1, caps1, rfl, hk1⟩ := hn1; have hn1 := hk1; (have J : Below W1.heap.size W1 v1 := by first | exact J.trans (b1.mono J.size) | exact J.drew.trans (b1.mono J.drew.size)))))
      | (go_at_call 51; (with_reducible refine Calls.mono (HC.out _ ?hw) ?_); (case hw => first | exact J | exact J.drew); (first | (have _t := hn2; rintro e v3 ⟨fv, rfl, hn3, b3⟩; obtain ⟨k3, caps3, rfl, hk3⟩ := hn3; have hn3 := hk3; (have J : Below W1.heap.size W1 v3 := by first | exact J.trans (b3.mono J.size) | exact J.drew.trans (b3.mono J.drew.size))) | (have _t := hn1; rintro e v2 ⟨fv, rfl, hn2, b2⟩; obtain ⟨k2, caps2, rfl, hk2⟩ := hn2; have hn2 := hk2; (have J : Below W1.heap.size W1 v2 := by first | exact J.trans (b2.mono J.size) | exact J.drew.trans (b2.mono J.drew.size))) | (rintro e v1 ⟨fv, rfl, hn1, b1⟩; obtain ⟨k1, caps1, rfl, hk1⟩ := hn1; have hn1 := hk1; (have J : Below W1.heap.size W1 v1 := by first | exact J.trans (b1.mono J.size) | exact J.drew.trans (b1.mono J.drew.size))))))
  all_goals
    go_wp2_with fail
    rw [← HP.out]
    exact ⟨_, rfl, isNd_2 (Blk.new _ _ _) (NeedV.on (w := v1) ⟨_, _, rfl, hk1⟩ (b2.alloc b2.size _)) (NeedV.on (w := v2) ⟨_, _, rfl, hk2⟩ ((Below.refl _ _).alloc (Nat.le_refl _) _)), HH.out.b.trans ((J.alloc J.size _).mono HH.out.b.size)⟩
set_option maxHeartbeats 1000000 in
theorem needs7_any (m : Mdl) (f : Cod) (i : Ins) (av : Value) (cb : Nat) (w : World) (hc : CkV w cb m f) (ho : i.op = 7) : Calls Try.prog 37 #[.pointer (some ⟨cb, 0, none⟩), .agg (insA i av)] w (NeedsPost w m f i) := by
  have HH := Lib.hid (needHd i av hc)
  have HO := Lib.hid ho
  obtain ⟨P, hP⟩ : ∃ P, NeedsPost w m f i = P := ⟨_, rfl⟩
  have HP := Lib.hid hP
  rw [hP]
  clear hc hP
  unfold insA at HH ⊢
  obtain ⟨op, ty, dst, a, b, n, s, args⟩ := i
  simp only at ho HH ⊢
  subst ho
  go_enter Try.func37, Try.ntmps37
  go_upto_region 1 with (fail)
  generalize (w.alloc (.cells #[.pointer (some ⟨cb, 0, none⟩)] tCp)).alloc (.cells #[.int .i64 7, .int .i64 ty, .int .i64 dst, .int .i64 a, .int .i64 b, .int .i64 n, .string (str s), av] tIn) = W1 at *
  have p0 : W1.cell? ⟨w.heap.size, 0, none⟩ = some (.pointer (some ⟨cb, 0, none⟩)) := HH.out.p.cell 0
  have pl := HH.out.p.lt
  have q0 : W1.cell? ⟨w.heap.size + 1, 0, none⟩ = some (.int .i64 7) := HH.out.q.cell 0
  have q2 : W1.cell? ⟨w.heap.size + 1, 2, none⟩ = some (.int .i64 dst) := HH.out.q.cell 2
  have q5 : W1.cell? ⟨w.heap.size + 1, 5, none⟩ = some (.int .i64 n) := HH.out.q.cell 5
  have ql := HH.out.q.lt
  go_wp2_with fail
  have HC : Hid (∀ W, Below W1.heap.size W1 W → Calls Try.prog 52 #[.pointer (some ⟨cb, 0, none⟩), .int .i64 n] W fun e w' => ∃ fv, e = .returned fv ∧ NeedV w' (OkI m f ⟨7, ty, dst, a, b, n, s, args⟩) fv (fun t => t == (gAt m n).ty) ∧ Below W.heap.size W w') := Lib.hid fun W hW => (holdS_any m f n cb W (HH.out.c.on hW)).mono fun e w' ⟨fv, h1, h2, h3⟩ => ⟨fv, h1, h2.imp fun h => h.g (by simp), h3⟩
  have HS : Hid (∀ Wx, Below W1.heap.size W1 Wx → Wx.cell? ⟨w.heap.size, 0, none⟩ = some (.pointer (some ⟨cb, 0, none⟩)) ∧ Wx.cell? ⟨w.heap.size + 1, 2, none⟩ = some (.int .i64 dst) ∧ Wx.cell? ⟨w.heap.size + 1, 5, none⟩ = some (.int .i64 n) ∧ w.heap.size < Wx.heap.size ∧ w.heap.size + 1 < Wx.heap.size) := Lib.hid fun Wx h => by
    have hz := h.size
    exact ⟨(h.cell (p := ⟨w.heap.size, 0, none⟩) pl).trans p0, (h.cell (p := ⟨w.heap.size + 1, 2, none⟩) ql).trans q2, (h.cell (p := ⟨w.heap.size + 1, 5, none⟩) ql).trans q5, by omega, by omega⟩
  have J : Below W1.heap.size W1 W1 := Below.refl _ _
  go_region_held3 (fun Wx => Wx.cell? ⟨w.heap.size, 0, none⟩ = some (.pointer (some ⟨cb, 0, none⟩)) ∧ Wx.cell? ⟨w.heap.size + 1, 2, none⟩ = some (.int .i64 dst) ∧ Wx.cell? ⟨w.heap.size + 1, 5, none⟩ = some (.int .i64 n) ∧ w.heap.size < Wx.heap.size ∧ w.heap.size + 1 < Wx.heap.size)
    (first | exact ⟨p0, q2, q5, pl, ql⟩ | exact HS.out _ J | exact HS.out _ (J.alloc J.size _))
    (first
      | (go_at_call 52; (with_reducible refine Calls.mono (HC.out _ ?hw) ?_); (case hw => first | exact J | exact J.drew); (first | (have _t := hn2; rintro e v3 ⟨fv, rfl, hn3, b3⟩; obtain ⟨k3, caps3, rfl, hk3⟩ := hn3; have hn3 := hk3; (have J : Below W1.heap.size W1 v3 := by first | exact J.trans (b3.mono J.size) | exact J.drew.trans (b3.mono J.drew.size))) | (have _t := hn1; rintro e v2 ⟨fv, rfl, hn2, b2⟩; obtain ⟨k2, caps2, rfl, hk2⟩ := hn2; have hn2 := hk2; (have J : Below W1.heap.size W1 v2 := by first | exact J.trans (b2.mono J.size) | exact J.drew.trans (b2.mono J.drew.size))) | (rintro e v1 ⟨fv, rfl, hn1, b1⟩; obtain ⟨k1, caps1, rfl, hk1⟩ := hn1; have hn1 := hk1; (have J : Below W1.heap.size W1 v1 := by first | exact J.trans (b1.mono J.size) | exact J.drew.trans (b1.mono J.drew.size))))))
  all_goals
    go_wp2_with fail
    rw [← HP.out]
    exact ⟨_, rfl, isNd_1 (Blk.new _ _ _) (NeedV.on (w := v1) ⟨_, _, rfl, hk1⟩ ((Below.refl _ _).alloc (Nat.le_refl _) _)), HH.out.b.trans ((J.alloc J.size _).mono HH.out.b.size)⟩
set_option maxHeartbeats 1000000 in
theorem needs8_any (m : Mdl) (f : Cod) (i : Ins) (av : Value) (cb : Nat) (w : World) (hc : CkV w cb m f) (ho : i.op = 8) : Calls Try.prog 37 #[.pointer (some ⟨cb, 0, none⟩), .agg (insA i av)] w (NeedsPost w m f i) := by
  have HH := Lib.hid (needHd i av hc)
  have HO := Lib.hid ho
  obtain ⟨P, hP⟩ : ∃ P, NeedsPost w m f i = P := ⟨_, rfl⟩
  have HP := Lib.hid hP
  rw [hP]
  clear hc hP
  unfold insA at HH ⊢
  obtain ⟨op, ty, dst, a, b, n, s, args⟩ := i
  simp only at ho HH ⊢
  subst ho
  go_enter Try.func37, Try.ntmps37
  go_upto_region 1 with (fail)
  generalize (w.alloc (.cells #[.pointer (some ⟨cb, 0, none⟩)] tCp)).alloc (.cells #[.int .i64 8, .int .i64 ty, .int .i64 dst, .int .i64 a, .int .i64 b, .int .i64 n, .string (str s), av] tIn) = W1 at *
  have p0 : W1.cell? ⟨w.heap.size, 0, none⟩ = some (.pointer (some ⟨cb, 0, none⟩)) := HH.out.p.cell 0
  have pl := HH.out.p.lt
  have q0 : W1.cell? ⟨w.heap.size + 1, 0, none⟩ = some (.int .i64 8) := HH.out.q.cell 0
  have q3 : W1.cell? ⟨w.heap.size + 1, 3, none⟩ = some (.int .i64 a) := HH.out.q.cell 3
  have q5 : W1.cell? ⟨w.heap.size + 1, 5, none⟩ = some (.int .i64 n) := HH.out.q.cell 5
  have ql := HH.out.q.lt
  go_wp2_with fail
  have HC : Hid (∀ W, Below W1.heap.size W1 W → Calls Try.prog 52 #[.pointer (some ⟨cb, 0, none⟩), .int .i64 n] W fun e w' => ∃ fv, e = .returned fv ∧ NeedV w' (OkI m f ⟨8, ty, dst, a, b, n, s, args⟩) fv (fun t => t == (gAt m n).ty) ∧ Below W.heap.size W w') := Lib.hid fun W hW => (holdS_any m f n cb W (HH.out.c.on hW)).mono fun e w' ⟨fv, h1, h2, h3⟩ => ⟨fv, h1, h2.imp fun h => h.g (by simp), h3⟩
  have HS : Hid (∀ Wx, Below W1.heap.size W1 Wx → Wx.cell? ⟨w.heap.size, 0, none⟩ = some (.pointer (some ⟨cb, 0, none⟩)) ∧ Wx.cell? ⟨w.heap.size + 1, 3, none⟩ = some (.int .i64 a) ∧ Wx.cell? ⟨w.heap.size + 1, 5, none⟩ = some (.int .i64 n) ∧ w.heap.size < Wx.heap.size ∧ w.heap.size + 1 < Wx.heap.size) := Lib.hid fun Wx h => by
    have hz := h.size
    exact ⟨(h.cell (p := ⟨w.heap.size, 0, none⟩) pl).trans p0, (h.cell (p := ⟨w.heap.size + 1, 3, none⟩) ql).trans q3, (h.cell (p := ⟨w.heap.size + 1, 5, none⟩) ql).trans q5, by omega, by omega⟩
  have J : Below W1.heap.size W1 W1 := Below.refl _ _
  go_region_held3 (fun Wx => Wx.cell? ⟨w.heap.size, 0, none⟩ = some (.pointer (some ⟨cb, 0, none⟩)) ∧ Wx.cell? ⟨w.heap.size + 1, 3, none⟩ = some (.int .i64 a) ∧ Wx.cell? ⟨w.heap.size + 1, 5, none⟩ = some (.int .i64 n) ∧ w.heap.size < Wx.heap.size ∧ w.heap.size + 1 < Wx.heap.size)
    (first | exact ⟨p0, q3, q5, pl, ql⟩ | exact HS.out _ J | exact HS.out _ (J.alloc J.size _))
    (first
      | (go_at_call 52; (with_reducible refine Calls.mono (HC.out _ ?hw) ?_); (case hw => first | exact J | exact J.drew); (first | (have _t := hn2; rintro e v3 ⟨fv, rfl, hn3, b3⟩; obtain ⟨k3, caps3, rfl, hk3⟩ := hn3; have hn3 := hk3; (have J : Below W1.heap.size W1 v3 := by first | exact J.trans (b3.mono J.size) | exact J.drew.trans (b3.mono J.drew.size))) | (have _t := hn1; rintro e v2 ⟨fv, rfl, hn2, b2⟩; obtain ⟨k2, caps2, rfl, hk2⟩ := hn2; have hn2 := hk2; (have J : Below W1.heap.size W1 v2 := by first | exact J.trans (b2.mono J.size) | exact J.drew.trans (b2.mono J.drew.size))) | (rintro e v1 ⟨fv, rfl, hn1, b1⟩; obtain ⟨k1, caps1, rfl, hk1⟩ := hn1; have hn1 := hk1; (have J : Below W1.heap.size W1 v1 := by first | exact J.trans (b1.mono J.size) | exact J.drew.trans (b1.mono J.drew.size))))))
  all_goals
    go_wp2_with fail
    rw [← HP.out]
    exact ⟨_, rfl, isNd_1 (Blk.new _ _ _) (NeedV.on (w := v1) ⟨_, _, rfl, hk1⟩ ((Below.refl _ _).alloc (Nat.le_refl _) _)), HH.out.b.trans ((J.alloc J.size _).mono HH.out.b.size)⟩
set_option maxHeartbeats 1000000 in
theorem needs10_any (m : Mdl) (f : Cod) (i : Ins) (av : Value) (cb : Nat) (w : World) (hc : CkV w cb m f) (ho : i.op = 10) : Calls Try.prog 37 #[.pointer (some ⟨cb, 0, none⟩), .agg (insA i av)] w (NeedsPost w m f i) := by
  have HH := Lib.hid (needHd i av hc)
  have HO := Lib.hid ho
  obtain ⟨P, hP⟩ : ∃ P, NeedsPost w m f i = P := ⟨_, rfl⟩
  have HP := Lib.hid hP
  rw [hP]
  clear hc hP
  unfold insA at HH ⊢
  obtain ⟨op, ty, dst, a, b, n, s, args⟩ := i
  simp only at ho HH ⊢
  subst ho
  have HI : Hid (∀ v W, Calls Try.prog 42 #[.int .i64 v] W fun e w' => ∃ fv, e = .returned fv ∧ NeedV w' (OkI m f ⟨10, ty, dst, a, b, n, s, args⟩) fv (fun t => t == v) ∧ Below W.heap.size W w') := Lib.hid fun v W => is_any v W _
  go_enter Try.func37, Try.ntmps37
  go_upto_region 1 with (fail)
  generalize (w.alloc (.cells #[.pointer (some ⟨cb, 0, none⟩)] tCp)).alloc (.cells #[.int .i64 10, .int .i64 ty, .int .i64 dst, .int .i64 a, .int .i64 b, .int .i64 n, .string (str s), av] tIn) = W1 at *
  have q0 : W1.cell? ⟨w.heap.size + 1, 0, none⟩ = some (.int .i64 10) := HH.out.q.cell 0
  have q2 : W1.cell? ⟨w.heap.size + 1, 2, none⟩ = some (.int .i64 dst) := HH.out.q.cell 2
  have ql := HH.out.q.lt
  go_wp2_with fail
  have HS : Hid (∀ Wx, Below W1.heap.size W1 Wx → Wx.cell? ⟨w.heap.size + 1, 2, none⟩ = some (.int .i64 dst) ∧ w.heap.size + 1 < Wx.heap.size) := Lib.hid fun Wx h => by
    have hz := h.size
    exact ⟨(h.cell (p := ⟨w.heap.size + 1, 2, none⟩) ql).trans q2, by omega⟩
  have J : Below W1.heap.size W1 W1 := Below.refl _ _
  go_region_held3 (fun Wx => Wx.cell? ⟨w.heap.size + 1, 2, none⟩ = some (.int .i64 dst) ∧ w.heap.size + 1 < Wx.heap.size)
    (first | exact ⟨q2, ql⟩ | exact HS.out _ J | exact HS.out _ (J.alloc J.size _))
    (first
      | (go_at_call 42; (with_reducible refine Calls.mono (HI.out _ _) ?_); (first | (have _t := hn2; rintro e v3 ⟨fv, rfl, hn3, b3⟩; obtain ⟨k3, caps3, rfl, hk3⟩ := hn3; have hn3 := hk3; (have J : Below W1.heap.size W1 v3 := by first | exact J.trans (b3.mono J.size) | exact J.drew.trans (b3.mono J.drew.size))) | (have _t := hn1; rintro e v2 ⟨fv, rfl, hn2, b2⟩; obtain ⟨k2, caps2, rfl, hk2⟩ := hn2; have hn2 := hk2; (have J : Below W1.heap.size W1 v2 := by first | exact J.trans (b2.mono J.size) | exact J.drew.trans (b2.mono J.drew.size))) | (rintro e v1 ⟨fv, rfl, hn1, b1⟩; obtain ⟨k1, caps1, rfl, hk1⟩ := hn1; have hn1 := hk1; (have J : Below W1.heap.size W1 v1 := by first | exact J.trans (b1.mono J.size) | exact J.drew.trans (b1.mono J.drew.size))))))
  all_goals
    go_wp2_with fail
    rw [← HP.out]
    exact ⟨_, rfl, isNd_1 (Blk.new _ _ _) (NeedV.on (w := v1) ⟨_, _, rfl, hk1⟩ ((Below.refl _ _).alloc (Nat.le_refl _) _)), HH.out.b.trans ((J.alloc J.size _).mono HH.out.b.size)⟩
set_option maxHeartbeats 1000000 in
theorem needs11_any (m : Mdl) (f : Cod) (i : Ins) (av : Value) (cb : Nat) (w : World) (hc : CkV w cb m f) (ho : i.op = 11) : Calls Try.prog 37 #[.pointer (some ⟨cb, 0, none⟩), .agg (insA i av)] w (NeedsPost w m f i) := by
  have HH := Lib.hid (needHd i av hc)
  have HO := Lib.hid ho
  obtain ⟨P, hP⟩ : ∃ P, NeedsPost w m f i = P := ⟨_, rfl⟩
  have HP := Lib.hid hP
  rw [hP]
  clear hc hP
  unfold insA at HH ⊢
  obtain ⟨op, ty, dst, a, b, n, s, args⟩ := i
  simp only at ho HH ⊢
  subst ho
  have HI : Hid (∀ v W, Calls Try.prog 42 #[.int .i64 v] W fun e w' => ∃ fv, e = .returned fv ∧ NeedV w' (OkI m f ⟨11, ty, dst, a, b, n, s, args⟩) fv (fun t => t == v) ∧ Below W.heap.size W w') := Lib.hid fun v W => is_any v W _
  go_enter Try.func37, Try.ntmps37
  go_upto_region 1 with (fail)
  generalize (w.alloc (.cells #[.pointer (some ⟨cb, 0, none⟩)] tCp)).alloc (.cells #[.int .i64 11, .int .i64 ty, .int .i64 dst, .int .i64 a, .int .i64 b, .int .i64 n, .string (str s), av] tIn) = W1 at *
  have q0 : W1.cell? ⟨w.heap.size + 1, 0, none⟩ = some (.int .i64 11) := HH.out.q.cell 0
  have q3 : W1.cell? ⟨w.heap.size + 1, 3, none⟩ = some (.int .i64 a) := HH.out.q.cell 3
  have ql := HH.out.q.lt
  go_wp2_with fail
  have HS : Hid (∀ Wx, Below W1.heap.size W1 Wx → Wx.cell? ⟨w.heap.size + 1, 3, none⟩ = some (.int .i64 a) ∧ w.heap.size + 1 < Wx.heap.size) := Lib.hid fun Wx h => by
    have hz := h.size
    exact ⟨(h.cell (p := ⟨w.heap.size + 1, 3, none⟩) ql).trans q3, by omega⟩
  have J : Below W1.heap.size W1 W1 := Below.refl _ _
  go_region_held3 (fun Wx => Wx.cell? ⟨w.heap.size + 1, 3, none⟩ = some (.int .i64 a) ∧ w.heap.size + 1 < Wx.heap.size)
    (first | exact ⟨q3, ql⟩ | exact HS.out _ J | exact HS.out _ (J.alloc J.size _))
    (first
      | (go_at_call 42; (with_reducible refine Calls.mono (HI.out _ _) ?_); (first | (have _t := hn2; rintro e v3 ⟨fv, rfl, hn3, b3⟩; obtain ⟨k3, caps3, rfl, hk3⟩ := hn3; have hn3 := hk3; (have J : Below W1.heap.size W1 v3 := by first | exact J.trans (b3.mono J.size) | exact J.drew.trans (b3.mono J.drew.size))) | (have _t := hn1; rintro e v2 ⟨fv, rfl, hn2, b2⟩; obtain ⟨k2, caps2, rfl, hk2⟩ := hn2; have hn2 := hk2; (have J : Below W1.heap.size W1 v2 := by first | exact J.trans (b2.mono J.size) | exact J.drew.trans (b2.mono J.drew.size))) | (rintro e v1 ⟨fv, rfl, hn1, b1⟩; obtain ⟨k1, caps1, rfl, hk1⟩ := hn1; have hn1 := hk1; (have J : Below W1.heap.size W1 v1 := by first | exact J.trans (b1.mono J.size) | exact J.drew.trans (b1.mono J.drew.size))))))
  all_goals
    go_wp2_with fail
    rw [← HP.out]
    exact ⟨_, rfl, isNd_1 (Blk.new _ _ _) (NeedV.on (w := v1) ⟨_, _, rfl, hk1⟩ ((Below.refl _ _).alloc (Nat.le_refl _) _)), HH.out.b.trans ((J.alloc J.size _).mono HH.out.b.size)⟩
set_option maxHeartbeats 1000000 in
theorem needs1_any (m : Mdl) (f : Cod) (i : Ins) (av : Value) (cb : Nat) (w : World) (hc : CkV w cb m f) (ho : i.op = 1) : Calls Try.prog 37 #[.pointer (some ⟨cb, 0, none⟩), .agg (insA i av)] w (NeedsPost w m f i) := by
  have HH := Lib.hid (needHd i av hc)
  have HO := Lib.hid ho
  obtain ⟨P, hP⟩ : ∃ P, NeedsPost w m f i = P := ⟨_, rfl⟩
  have HP := Lib.hid hP
  rw [hP]
  clear hc hP
  unfold insA at HH ⊢
  obtain ⟨op, ty, dst, a, b, n, s, args⟩ := i
  simp only at ho HH ⊢
  subst ho
  go_enter Try.func37, Try.ntmps37
  go_upto_region 1 with (fail)
  generalize (w.alloc (.cells #[.pointer (some ⟨cb, 0, none⟩)] tCp)).alloc (.cells #[.int .i64 1, .int .i64 ty, .int .i64 dst, .int .i64 a, .int .i64 b, .int .i64 n, .string (str s), av] tIn) = W1 at *
  have q0 : W1.cell? ⟨w.heap.size + 1, 0, none⟩ = some (.int .i64 1) := HH.out.q.cell 0
  have q2 : W1.cell? ⟨w.heap.size + 1, 2, none⟩ = some (.int .i64 dst) := HH.out.q.cell 2
  have q3 : W1.cell? ⟨w.heap.size + 1, 3, none⟩ = some (.int .i64 a) := HH.out.q.cell 3
  have ql := HH.out.q.lt
  go_wp2_with fail
  first
    | go_ret
    | skip
  rw [← HP.out]
  exact ⟨_, rfl, isNd_1 (Blk.new _ _ _) (need_isV _ _), HH.out.b.trans (((Below.refl _ _).alloc (Nat.le_refl _) _).mono HH.out.b.size)⟩
set_option maxHeartbeats 1000000 in
theorem needs2_any (m : Mdl) (f : Cod) (i : Ins) (av : Value) (cb : Nat) (w : World) (hc : CkV w cb m f) (ho : i.op = 2) : Calls Try.prog 37 #[.pointer (some ⟨cb, 0, none⟩), .agg (insA i av)] w (NeedsPost w m f i) := by
  have HH := Lib.hid (needHd i av hc)
  have HO := Lib.hid ho
  obtain ⟨P, hP⟩ : ∃ P, NeedsPost w m f i = P := ⟨_, rfl⟩
  have HP := Lib.hid hP
  rw [hP]
  clear hc hP
  unfold insA at HH ⊢
  obtain ⟨op, ty, dst, a, b, n, s, args⟩ := i
  simp only at ho HH ⊢
  subst ho
  go_enter Try.func37, Try.ntmps37
  go_upto_region 1 with (fail)
  generalize (w.alloc (.cells #[.pointer (some ⟨cb, 0, none⟩)] tCp)).alloc (.cells #[.int .i64 2, .int .i64 ty, .int .i64 dst, .int .i64 a, .int .i64 b, .int .i64 n, .string (str s), av] tIn) = W1 at *
  have q0 : W1.cell? ⟨w.heap.size + 1, 0, none⟩ = some (.int .i64 2) := HH.out.q.cell 0
  have q2 : W1.cell? ⟨w.heap.size + 1, 2, none⟩ = some (.int .i64 dst) := HH.out.q.cell 2
  have q3 : W1.cell? ⟨w.heap.size + 1, 3, none⟩ = some (.int .i64 a) := HH.out.q.cell 3
  have ql := HH.out.q.lt
  go_wp2_with fail
  first
    | go_ret
    | skip
  rw [← HP.out]
  exact ⟨_, rfl, isNd_2 (Blk.new _ _ _) (need_isV _ _) (((need_copy _ m f ⟨2, ty, dst, a, b, n, s, args⟩ av cb _ _ HH.out.c HH.out.p HH.out.q).imp fun h => h.a (by simp)).on ((Below.refl _ _).alloc (Nat.le_refl _) _)), HH.out.b.trans (((Below.refl _ _).alloc (Nat.le_refl _) _).mono HH.out.b.size)⟩

end Go.Proofs.Ytgcjfbgfoiekmaa
