/-
  Walks of layer parse, the document's printer: digits, a type's word, a sign's level. Walks of layer parse, the document's printer: an expression. Walks of layer parse, the document's printer: statements. Walks of layer parse, the document's printer: nodes without kids. Walks of layer parse, the document's printer: binary signs. Walks of layer parse, the document's printer: if. Walks of layer parse, the document's printer: lists of expressions; calls. Walks of layer parse, the document's printer: calls. Walks of layer parse, the document's printer: blocks. Layer parse, the document's printer along the grammar: definitions; expressions with one kid. Layer parse, the document's printer along the grammar: all other nodes' texts. Layer parse: the document's printer prints each node of a program that was read as its tokens. Layer parse: the document's printer prints each tree of a program that was read as its tokens. Layer parse: the document's printer at each function's block. Walks of layer parse, the document's printer: a whole program. The walk of the statement ParsePrints.
-/
import Derived.Test.YtlbjjpfhkgagiaaGreatDoorMf
import Derived.Deep.RegionHeld3
import Derived.Test.YtlbjjpfhkgagiaaGreatDoorLexoe
/-! Pva -/
namespace Go.Proofs.YtlbjjpfhkgagiaaGreatDoor
open Go.RowKit
set_option linter.unusedVariables false
set_option linter.unusedSimpArgs false

theorem dec_len3 (n : Nat) : (Lib.decDigits n).length ≤ n + 1 := by
  induction n using Nat.strongRecOn with
  | _ n ih =>
    by_cases h : n < 10
    · rw [dec_small h]; simp
    · rw [dec_big h, List.length_append]
      have := ih (n / 10) (by omega)
      simp
      omega
theorem dec_len20 {n : Nat} (h : n ≤ 9223372036854775807) : (Lib.decDigits n).length ≤ 21 := by
  have := Lib.itoa_length_le (n : Int) (by omega) (by omega)
  rw [Lib.itoa, if_neg (by omega), Int.toNat_natCast] at this
  exact this

set_option maxHeartbeats 400000 in
set_option maxRecDepth 100000 in
theorem pdigits_any (n : Nat) : n ≤ 9223372036854775807 → ∀ w : World,
    Calls Tryz.prog 34 #[.int .i64 n] w fun e w' => e = .returned (.string (str (Lib.decDigits n))) ∧ Below w.heap.size w w' := by
  induction n using Nat.strongRecOn with
  | _ n ih =>
    intro hn w
    by_cases h : n < 10
    · have hd := dec_small h
      have hd' := hd
      have hu8 : ((UInt8.ofNat (48 + n)).toNat : Int) = 48 + (n : Int) := by
        have e8 : (UInt8.ofNat (48 + n)).toNat = 48 + n := by rw [UInt8.toNat_ofNat']; omega
        rw [e8]; omega
      have hcv := run_convert_bytes_back (P := Tryz.prog) (w.alloc (.cells #[.int .u8 (48 + (n : Int))] tU)) 73 9 tU ⟨w.heap.size, 0, none⟩ 1 [UInt8.ofNat (48 + n)] Tryz.underlying73 Tryz.underlying5 Tryz.underlying9 (by
        intro j hj
        match j, hj with
        | 0, _ => rw [List.getElem_cons_zero, hu8]; exact (Blk.new w tU #[.int .u8 (48 + (n : Int))]).cell 0)
      have hcv' : (convert 73 9 (.slice (some ⟨w.heap.size, 0, none⟩) 1 1)).run Tryz.prog (w.alloc (.cells #[.int .u8 (48 + (n : Int))] tU)) = .ok (.string (str (Lib.decDigits n))) (w.alloc (.cells #[.int .u8 (48 + (n : Int))] tU)) := by rw [hd']; exact hcv
      have ht : (n : Int) % 10 = n := by omega
      clear hd hd' ih hu8 hcv
      go_enter Tryz.func34, Tryz.ntmps34
      go_wp2_with fail
      go_ret
      exact ⟨rfl, (Below.refl _ w).alloc (Nat.le_refl _) _⟩
    · have h1 := ih (n / 10) (by omega) (by omega)
      have h2 := ih (n % 10) (by omega) (by omega)
      have hd := dec_big h
      have hs := dec_small (show n % 10 < 10 by omega)
      rw [← hs] at hd
      have HD := Lib.hid hd
      have hl1 := dec_len3 (n / 10)
      have hl2 := dec_len3 (n % 10)
      have HT1 : Hid ((n : Int) / 10 = ((n / 10 : Nat) : Int)) := Lib.hid (by omega)
      have HT2 : Hid ((n : Int) % 10 = ((n % 10 : Nat) : Int)) := Lib.hid (by omega)
      have hadd := fun W : World => run_string_add_sum (P := Tryz.prog) W (str (Lib.decDigits (n / 10))) (str (Lib.decDigits (n % 10))) (by rw [str_size, str_size]; omega)
      simp only [str_append, ← hd] at hadd
      clear hd hs ih
      go_enter Tryz.func34, Tryz.ntmps34
      go_wp2_with fail
      rw [HT1.out]
      refine (h1 _).mono ?_
      rintro e w1 ⟨rfl, hb1⟩
      go_wp2_with fail
      rw [HT2.out]
      refine (h2 _).mono ?_
      rintro e w2 ⟨rfl, hb2⟩
      go_wp2
      go_ret
      exact ⟨rfl, hb1.trans (hb2.mono hb1.size)⟩

set_option maxHeartbeats 400000 in
set_option maxRecDepth 100000 in
theorem ptyped_any (t : Int) (h : t = 0 ∨ t = 1 ∨ t = 2 ∨ t = 3) (w : World) :
    Calls Tryz.prog 33 #[.int .i64 t] w fun e w' => e = .returned (.string (str (typeW t))) ∧ Below w.heap.size w w' := by
  rcases h with rfl | rfl | rfl | rfl
  all_goals
    go_enter Tryz.func33, Tryz.ntmps33
    go_wp2_with fail
    go_ret
    exact ⟨rfl, (Below.refl _ w).alloc (Nat.le_refl _) _⟩

set_option maxHeartbeats 4000000 in
set_option maxRecDepth 100000 in
theorem plevel_any (zz : ByteArray) (l : List UInt8) (hz : zz.toList = l) (w : World) :
    Calls Tryz.prog 107 #[.string zz] w fun e w' => e = .returned (.int .i64 (lvl l : Nat)) ∧ w = w' := by
  go_enter Tryz.func107, Tryz.ntmps107
  go_wp2
  all_goals (go_ret; refine ⟨ret_int ?_, rfl⟩; subst hz; simp_all [lvl])
end Go.Proofs.YtlbjjpfhkgagiaaGreatDoor
/-! Pvb -/
namespace Go.Proofs.YtlbjjpfhkgagiaaGreatDoor
open Go.RowKit
set_option linter.unusedVariables false
set_option linter.unusedSimpArgs false

/-! texts -/
theorem wl_true {t : Tx} (h : t ≠ []) : wl true t = 32 :: wl false t := by
  cases t with
  | nil => exact absurd rfl h
  | cons x t => simp [wl]
theorem wl_app {a b : Tx} (ha : a ≠ []) (hb : b ≠ []) : wl false (a ++ b) = wl false a ++ 32 :: wl false b := by
  rw [wl_append, show bgn false a = true by cases a <;> simp [bgn] at *, wl_true hb]
theorem wl_one (x : List UInt8) : wl false [x] = x := by simp [wl]
theorem wl_cons (x : List UInt8) {t : Tx} (h : t ≠ []) : wl false (x :: t) = x ++ 32 :: wl false t := by
  rw [show x :: t = [x] ++ t from rfl, wl_app (by simp) h, wl_one]

/-- A node in memory, as the printer reads it: its cells, its kids' places. -/
structure NdW (w : World) (gA : Option Addr) (i : Nat) (h : Hd) (ks : List Nat) : Prop where
  c : ∃ g o A kc, gA = some ⟨g, o, none⟩ ∧ g < w.heap.size ∧ ks.length ≤ kc ∧ kc ≤ maxLen ∧ RdI w w.heap.size A ks ∧
    ∀ j v, [Value.int .i64 h.op, .int .i64 h.p, .int .i64 h.n, .string (str h.s), .int .i64 h.to, .slice A ks.length kc, .int .i64 h.ty, .int .i64 0][j]? = some v → w.cell? ⟨g, o + i * 8 + j, none⟩ = some v
theorem Nds.ndw {w : World} {gA : Option Addr} {N c : Nat} {ns : List NV} (h : Nds w w.heap.size (.slice gA N c) ns) {i : Nat} {n : Nd} (hi : (ns.map NV.nd)[i]? = some n) : NdW w gA i n.h n.kids := by
  rw [List.getElem?_map] at hi
  obtain ⟨x, hx, rfl⟩ := Option.map_eq_some_iff.1 hi
  obtain ⟨A, c', hv, hs⟩ := h.sl
  simp only [Value.slice.injEq] at hv
  obtain ⟨rfl, -, -⟩ := hv
  obtain ⟨A2, c2, h1, h2, h3, h4⟩ := h.kids x (List.mem_of_getElem? hx)
  rcases hs with h9 | ⟨g, o, e, hg, hc⟩
  · subst h9; simp at hx
  · refine ⟨g, o, A2, c2, e, hg, h2, h3, h4, fun j v hv => ?_⟩
    have hj : j < 8 := by
      rcases Nat.lt_or_ge j 8 with h | h
      · exact h
      · rw [List.getElem?_eq_none (by simpa using h)] at hv; cases hv
    rw [hc i x hx j hj, ← hv]
    simp only [cells8, NV.nd, h1]
theorem NdW.below {w w' : World} {gA : Option Addr} {i : Nat} {h : Hd} {ks : List Nat} (hn : NdW w gA i h ks) (hb : Below w.heap.size w w') : NdW w' gA i h ks := by
  obtain ⟨g, o, A, kc, e, hg, h1, h2, h3, h4⟩ := hn
  have hs := hb.size
  refine ⟨g, o, A, kc, e, by omega, h1, h2, ?_, fun j v hv => (hb.cell (p := ⟨g, o + i * 8 + j, none⟩) hg).trans (h4 j v hv)⟩
  rcases h3 with h3 | ⟨g', o', e', hg', hc'⟩
  · exact .inl h3
  · exact .inr ⟨g', o', e', by omega, fun i k hk => (hb.cell (p := ⟨g', o' + i, none⟩) hg').trans (hc' i k hk)⟩

section
variable (B : World) (gA fA nA : Option Addr) (gn gc fn fc N nc : Nat)
/-- The printer's answer at a node is that text. -/
def PxE (i : Nat) (lv : Int) (t : Tx) : Prop := ∀ W, Below B.heap.size B W → Calls Tryz.prog 62 #[.agg #[.slice gA gn gc, .slice fA fn fc, .slice nA N nc], .int .i64 i, .int .i64 lv] W fun e w' => e = .returned (.string (str (wl false t))) ∧ Below W.heap.size W w'

variable {B gA fA nA gn gc fn fc N nc}
set_option maxHeartbeats 600000 in
set_option maxRecDepth 100000 in
theorem pidx_any {i k0 : Nat} {lv : Int} {h : Hd} {t0 : Tx} (hi : i < N) (hN : N ≤ 4000) (ho : h.op = 3) (hn : NdW B nA i h [k0]) (hs : h.s.length ≤ 24) (ht0 : t0 ≠ []) (hl0 : byt t0 ≤ 1000000) (hk0 : PxE B gA fA nA gn gc fn fc N nc k0 1 t0) :
    PxE B gA fA nA gn gc fn fc N nc i lv ([h.s] ++ [[91]] ++ t0 ++ [[93]]) := by
  intro W hW
  have e0 : wl false ([h.s] ++ [[91]] ++ t0 ++ [[93]]) = (((h.s ++ [32, 91, 32]) ++ wl false t0) ++ [32, 93]) := by
    rw [wl_app (by simp) (by simp), wl_app (by simp) ht0, wl_one]; simp [wl]
  rw [e0]
  have hb0 := wl_byt t0 false
  have hadd1 := fun W : World => run_string_add_sum (P := Tryz.prog) W (str (h.s)) (str ([32, 91, 32])) (by rw [str_size, str_size]; simp; omega)
  have hadd2 := fun W : World => run_string_add_sum (P := Tryz.prog) W (str ((h.s) ++ [32, 91, 32])) (str (wl false t0)) (by rw [str_size, str_size]; simp; omega)
  have hadd3 := fun W : World => run_string_add_sum (P := Tryz.prog) W (str (((h.s) ++ [32, 91, 32]) ++ wl false t0)) (str ([32, 93])) (by rw [str_size, str_size]; simp; omega)
  simp only [str_append] at hadd1 hadd2 hadd3
  unfold PxE at hk0
  have HK0 := Lib.hid hk0
  have HW := Lib.hid hW
  obtain ⟨g, o, A, kc, rfl, hg, h1, h2, h3, h4⟩ := hn.below hW
  obtain ⟨kg, ko, rfl, hkg, hkc0⟩ : ∃ g o, A = some ⟨g, o, none⟩ ∧ g < W.heap.size ∧ W.cell? ⟨g, o, none⟩ = some (.int .i64 (k0 : Nat)) := by
    rcases h3 with h9 | ⟨g, o, e, hg, hc⟩
    · cases h9
    · exact ⟨g, o, e, hg, hc 0 k0 rfl⟩
  have y0 := h4 0 _ rfl; have y1 := h4 1 _ rfl; have y2 := h4 2 _ rfl; have y3 := h4 3 _ rfl; have y4 := h4 4 _ rfl; have y5 := h4 5 _ rfl; have y6 := h4 6 _ rfl; have y7 := h4 7 _ rfl
  rw [ho] at y0
  obtain ⟨op, p, n, s, to_, ty⟩ := h
  simp only at y0 y1 y2 y3 y4 y5 y6 y7 hadd1 hadd2 hadd3 ⊢
  generalize wl false t0 = T0 at *
  generalize s ++ [32, 91, 32] = u1 at *
  generalize u1 ++ T0 = u2 at *
  generalize u2 ++ [32, 93] = u3 at *
  clear hn h4 h3 hW e0 ho hs hk0 hb0 hl0 ht0
  simp only [List.length_cons, List.length_nil, Nat.zero_add, Nat.add_zero, Nat.reduceAdd] at y0 y5 h1
  go_enter Tryz.func62, Tryz.ntmps62
  go_upto_region 2 with (fail)
  have b1 : Blk ((W.alloc (.cells #[.slice gA gn gc, .slice fA fn fc, .slice (some ⟨g, o, none⟩) N nc] tPg)).alloc (.cells #[.int .i64 3, .int .i64 p, .int .i64 n, .string (str s), .int .i64 to_, .slice (some ⟨kg, ko, none⟩) 1 kc, .int .i64 ty, .int .i64 0] tN)) W.heap.size tPg #[.slice gA gn gc, .slice fA fn fc, .slice (some ⟨g, o, none⟩) N nc] := (Blk.new W tPg _).alloc _
  have b2 := Blk.new (W.alloc (.cells #[.slice gA gn gc, .slice fA fn fc, .slice (some ⟨g, o, none⟩) N nc] tPg)) tN #[.int .i64 3, .int .i64 p, .int .i64 n, .string (str s), .int .i64 to_, .slice (some ⟨kg, ko, none⟩) 1 kc, .int .i64 ty, .int .i64 0]
  have e2 : (W.alloc (.cells #[.slice gA gn gc, .slice fA fn fc, .slice (some ⟨g, o, none⟩) N nc] tPg)).heap.size = W.heap.size + 1 := by simp
  rw [e2] at b2
  have hb : Below W.heap.size W ((W.alloc (.cells #[.slice gA gn gc, .slice fA fn fc, .slice (some ⟨g, o, none⟩) N nc] tPg)).alloc (.cells #[.int .i64 3, .int .i64 p, .int .i64 n, .string (str s), .int .i64 to_, .slice (some ⟨kg, ko, none⟩) 1 kc, .int .i64 ty, .int .i64 0] tN)) := ((Below.refl _ _).alloc (Nat.le_refl _) _).alloc (by simp) _
  clear e2
  generalize ((W.alloc (.cells #[.slice gA gn gc, .slice fA fn fc, .slice (some ⟨g, o, none⟩) N nc] tPg)).alloc (.cells #[.int .i64 3, .int .i64 p, .int .i64 n, .string (str s), .int .i64 to_, .slice (some ⟨kg, ko, none⟩) 1 kc, .int .i64 ty, .int .i64 0] tN)) = W2 at *
  have p0 : W2.cell? ⟨W.heap.size, 0, none⟩ = some (.slice gA gn gc) := b1.cell 0
  have p1 : W2.cell? ⟨W.heap.size, 1, none⟩ = some (.slice fA fn fc) := b1.cell 1
  have p2 : W2.cell? ⟨W.heap.size, 2, none⟩ = some (.slice (some ⟨g, o, none⟩) N nc) := b1.cell 2
  have p3 : W2.cell? ⟨W.heap.size + 1, 0, none⟩ = some (.int .i64 3) := b2.cell 0
  have p4 : W2.cell? ⟨W.heap.size + 1, 3, none⟩ = some (.string (str s)) := b2.cell 3
  have p5 : W2.cell? ⟨W.heap.size + 1, 4, none⟩ = some (.int .i64 to_) := b2.cell 4
  have p6 : W2.cell? ⟨W.heap.size + 1, 5, none⟩ = some (.slice (some ⟨kg, ko, none⟩) 1 kc) := b2.cell 5
  have p7 : W2.cell? ⟨kg, ko, none⟩ = some (.int .i64 (k0 : Nat)) := (hb.cell (p := ⟨kg, ko, none⟩) hkg).trans hkc0
  have pl1 := b1.lt
  have pl2 := b2.lt
  have pl3 : kg < W2.heap.size := by omega
  have HS : Hid (∀ Wx, Below W2.heap.size W2 Wx → Wx.cell? ⟨W.heap.size, 0, none⟩ = some (.slice gA gn gc) ∧ Wx.cell? ⟨W.heap.size, 1, none⟩ = some (.slice fA fn fc) ∧ Wx.cell? ⟨W.heap.size, 2, none⟩ = some (.slice (some ⟨g, o, none⟩) N nc) ∧ Wx.cell? ⟨W.heap.size + 1, 0, none⟩ = some (.int .i64 3) ∧ Wx.cell? ⟨W.heap.size + 1, 3, none⟩ = some (.string (str s)) ∧ Wx.cell? ⟨W.heap.size + 1, 4, none⟩ = some (.int .i64 to_) ∧ Wx.cell? ⟨W.heap.size + 1, 5, none⟩ = some (.slice (some ⟨kg, ko, none⟩) 1 kc) ∧ Wx.cell? ⟨kg, ko, none⟩ = some (.int .i64 (k0 : Nat)) ∧ W.heap.size < Wx.heap.size ∧ W.heap.size + 1 < Wx.heap.size ∧ kg < Wx.heap.size) := Lib.hid fun Wx h => by
    have hz := h.size
    exact ⟨(h.cell (p := ⟨W.heap.size, 0, none⟩) pl1).trans p0, (h.cell (p := ⟨W.heap.size, 1, none⟩) pl1).trans p1, (h.cell (p := ⟨W.heap.size, 2, none⟩) pl1).trans p2, (h.cell (p := ⟨W.heap.size + 1, 0, none⟩) pl2).trans p3, (h.cell (p := ⟨W.heap.size + 1, 3, none⟩) pl2).trans p4, (h.cell (p := ⟨W.heap.size + 1, 4, none⟩) pl2).trans p5, (h.cell (p := ⟨W.heap.size + 1, 5, none⟩) pl2).trans p6, (h.cell (p := ⟨kg, ko, none⟩) pl3).trans p7, by omega, by omega, by omega⟩
  have HB := Lib.hid (HW.out.trans (hb.mono HW.out.size))
  have HBW := Lib.hid hb
  have J0 : Below W2.heap.size W2 W2 := Below.refl _ _
  clear hb b1 b2 y0 y1 y2 y3 y4 y5 y6 y7 hkg hkc0 hg
  go_upto_region 10 with (fail)
  go_region_held3 (fun Wx => Wx.cell? ⟨W.heap.size, 0, none⟩ = some (.slice gA gn gc) ∧ Wx.cell? ⟨W.heap.size, 1, none⟩ = some (.slice fA fn fc) ∧ Wx.cell? ⟨W.heap.size, 2, none⟩ = some (.slice (some ⟨g, o, none⟩) N nc) ∧ Wx.cell? ⟨W.heap.size + 1, 0, none⟩ = some (.int .i64 3) ∧ Wx.cell? ⟨W.heap.size + 1, 3, none⟩ = some (.string (str s)) ∧ Wx.cell? ⟨W.heap.size + 1, 4, none⟩ = some (.int .i64 to_) ∧ Wx.cell? ⟨W.heap.size + 1, 5, none⟩ = some (.slice (some ⟨kg, ko, none⟩) 1 kc) ∧ Wx.cell? ⟨kg, ko, none⟩ = some (.int .i64 (k0 : Nat)) ∧ W.heap.size < Wx.heap.size ∧ W.heap.size + 1 < Wx.heap.size ∧ kg < Wx.heap.size)
    (first | exact ⟨p0, p1, p2, p3, p4, p5, p6, p7, pl1, pl2, pl3⟩ | exact HS.out _ J1)
    (first
      | (go_at_call 62; (with_reducible refine Calls.mono (HK0.out _ ?hw) ?_); (case hw => first | exact HB.out.trans (J0.mono HB.out.size) | exact HB.out.trans (J0.drew.mono HB.out.size)); rintro e v1 ⟨rfl, b1⟩; have J1 : Below W2.heap.size W2 v1 := by first | exact J0.trans (b1.mono J0.size) | exact J0.drew.trans (b1.mono J0.size)))
  all_goals
    have H1 := Lib.hid (HBW.out.trans (J1.mono HBW.out.size))
    clear J0 J1
    go_wp2_with fail
    go_ret
    exact ⟨rfl, H1.out⟩

set_option maxHeartbeats 600000 in
set_option maxRecDepth 100000 in
theorem pun_any {i k0 : Nat} {lv : Int} {h : Hd} {t0 : Tx} (hi : i < N) (hN : N ≤ 4000) (ho : h.op = 4) (hn : NdW B nA i h [k0]) (hs : h.s.length ≤ 24) (ht0 : t0 ≠ []) (hl0 : byt t0 ≤ 1000000) (hk0 : PxE B gA fA nA gn gc fn fc N nc k0 11 t0) :
    PxE B gA fA nA gn gc fn fc N nc i lv ([h.s] ++ t0) := by
  intro W hW
  have e0 : wl false ([h.s] ++ t0) = ((h.s ++ [32]) ++ wl false t0) := by
    rw [wl_app (by simp) ht0, wl_one]; simp
  rw [e0]
  have hb0 := wl_byt t0 false
  have hadd1 := fun W : World => run_string_add_sum (P := Tryz.prog) W (str (h.s)) (str ([32])) (by rw [str_size, str_size]; simp; omega)
  have hadd2 := fun W : World => run_string_add_sum (P := Tryz.prog) W (str ((h.s) ++ [32])) (str (wl false t0)) (by rw [str_size, str_size]; simp; omega)
  simp only [str_append] at hadd1 hadd2
  unfold PxE at hk0
  have HK0 := Lib.hid hk0
  have HW := Lib.hid hW
  obtain ⟨g, o, A, kc, rfl, hg, h1, h2, h3, h4⟩ := hn.below hW
  obtain ⟨kg, ko, rfl, hkg, hkc0⟩ : ∃ g o, A = some ⟨g, o, none⟩ ∧ g < W.heap.size ∧ W.cell? ⟨g, o, none⟩ = some (.int .i64 (k0 : Nat)) := by
    rcases h3 with h9 | ⟨g, o, e, hg, hc⟩
    · cases h9
    · exact ⟨g, o, e, hg, hc 0 k0 rfl⟩
  have y0 := h4 0 _ rfl; have y1 := h4 1 _ rfl; have y2 := h4 2 _ rfl; have y3 := h4 3 _ rfl; have y4 := h4 4 _ rfl; have y5 := h4 5 _ rfl; have y6 := h4 6 _ rfl; have y7 := h4 7 _ rfl
  rw [ho] at y0
  obtain ⟨op, p, n, s, to_, ty⟩ := h
  simp only at y0 y1 y2 y3 y4 y5 y6 y7 hadd1 hadd2 ⊢
  generalize wl false t0 = T0 at *
  generalize s ++ [32] = u1 at *
  generalize u1 ++ T0 = u2 at *
  clear hn h4 h3 hW e0 ho hs hk0 hb0 hl0 ht0
  simp only [List.length_cons, List.length_nil, Nat.zero_add, Nat.add_zero, Nat.reduceAdd] at y0 y5 h1
  go_enter Tryz.func62, Tryz.ntmps62
  go_upto_region 2 with (fail)
  have b1 : Blk ((W.alloc (.cells #[.slice gA gn gc, .slice fA fn fc, .slice (some ⟨g, o, none⟩) N nc] tPg)).alloc (.cells #[.int .i64 4, .int .i64 p, .int .i64 n, .string (str s), .int .i64 to_, .slice (some ⟨kg, ko, none⟩) 1 kc, .int .i64 ty, .int .i64 0] tN)) W.heap.size tPg #[.slice gA gn gc, .slice fA fn fc, .slice (some ⟨g, o, none⟩) N nc] := (Blk.new W tPg _).alloc _
  have b2 := Blk.new (W.alloc (.cells #[.slice gA gn gc, .slice fA fn fc, .slice (some ⟨g, o, none⟩) N nc] tPg)) tN #[.int .i64 4, .int .i64 p, .int .i64 n, .string (str s), .int .i64 to_, .slice (some ⟨kg, ko, none⟩) 1 kc, .int .i64 ty, .int .i64 0]
  have e2 : (W.alloc (.cells #[.slice gA gn gc, .slice fA fn fc, .slice (some ⟨g, o, none⟩) N nc] tPg)).heap.size = W.heap.size + 1 := by simp
  rw [e2] at b2
  have hb : Below W.heap.size W ((W.alloc (.cells #[.slice gA gn gc, .slice fA fn fc, .slice (some ⟨g, o, none⟩) N nc] tPg)).alloc (.cells #[.int .i64 4, .int .i64 p, .int .i64 n, .string (str s), .int .i64 to_, .slice (some ⟨kg, ko, none⟩) 1 kc, .int .i64 ty, .int .i64 0] tN)) := ((Below.refl _ _).alloc (Nat.le_refl _) _).alloc (by simp) _
  clear e2
  generalize ((W.alloc (.cells #[.slice gA gn gc, .slice fA fn fc, .slice (some ⟨g, o, none⟩) N nc] tPg)).alloc (.cells #[.int .i64 4, .int .i64 p, .int .i64 n, .string (str s), .int .i64 to_, .slice (some ⟨kg, ko, none⟩) 1 kc, .int .i64 ty, .int .i64 0] tN)) = W2 at *
  have p0 : W2.cell? ⟨W.heap.size, 0, none⟩ = some (.slice gA gn gc) := b1.cell 0
  have p1 : W2.cell? ⟨W.heap.size, 1, none⟩ = some (.slice fA fn fc) := b1.cell 1
  have p2 : W2.cell? ⟨W.heap.size, 2, none⟩ = some (.slice (some ⟨g, o, none⟩) N nc) := b1.cell 2
  have p3 : W2.cell? ⟨W.heap.size + 1, 0, none⟩ = some (.int .i64 4) := b2.cell 0
  have p4 : W2.cell? ⟨W.heap.size + 1, 3, none⟩ = some (.string (str s)) := b2.cell 3
  have p5 : W2.cell? ⟨W.heap.size + 1, 4, none⟩ = some (.int .i64 to_) := b2.cell 4
  have p6 : W2.cell? ⟨W.heap.size + 1, 5, none⟩ = some (.slice (some ⟨kg, ko, none⟩) 1 kc) := b2.cell 5
  have p7 : W2.cell? ⟨kg, ko, none⟩ = some (.int .i64 (k0 : Nat)) := (hb.cell (p := ⟨kg, ko, none⟩) hkg).trans hkc0
  have pl1 := b1.lt
  have pl2 := b2.lt
  have pl3 : kg < W2.heap.size := by omega
  have HS : Hid (∀ Wx, Below W2.heap.size W2 Wx → Wx.cell? ⟨W.heap.size, 0, none⟩ = some (.slice gA gn gc) ∧ Wx.cell? ⟨W.heap.size, 1, none⟩ = some (.slice fA fn fc) ∧ Wx.cell? ⟨W.heap.size, 2, none⟩ = some (.slice (some ⟨g, o, none⟩) N nc) ∧ Wx.cell? ⟨W.heap.size + 1, 0, none⟩ = some (.int .i64 4) ∧ Wx.cell? ⟨W.heap.size + 1, 3, none⟩ = some (.string (str s)) ∧ Wx.cell? ⟨W.heap.size + 1, 4, none⟩ = some (.int .i64 to_) ∧ Wx.cell? ⟨W.heap.size + 1, 5, none⟩ = some (.slice (some ⟨kg, ko, none⟩) 1 kc) ∧ Wx.cell? ⟨kg, ko, none⟩ = some (.int .i64 (k0 : Nat)) ∧ W.heap.size < Wx.heap.size ∧ W.heap.size + 1 < Wx.heap.size ∧ kg < Wx.heap.size) := Lib.hid fun Wx h => by
    have hz := h.size
    exact ⟨(h.cell (p := ⟨W.heap.size, 0, none⟩) pl1).trans p0, (h.cell (p := ⟨W.heap.size, 1, none⟩) pl1).trans p1, (h.cell (p := ⟨W.heap.size, 2, none⟩) pl1).trans p2, (h.cell (p := ⟨W.heap.size + 1, 0, none⟩) pl2).trans p3, (h.cell (p := ⟨W.heap.size + 1, 3, none⟩) pl2).trans p4, (h.cell (p := ⟨W.heap.size + 1, 4, none⟩) pl2).trans p5, (h.cell (p := ⟨W.heap.size + 1, 5, none⟩) pl2).trans p6, (h.cell (p := ⟨kg, ko, none⟩) pl3).trans p7, by omega, by omega, by omega⟩
  have HB := Lib.hid (HW.out.trans (hb.mono HW.out.size))
  have HBW := Lib.hid hb
  have J0 : Below W2.heap.size W2 W2 := Below.refl _ _
  clear hb b1 b2 y0 y1 y2 y3 y4 y5 y6 y7 hkg hkc0 hg
  go_upto_region 16 with (fail)
  go_region_held3 (fun Wx => Wx.cell? ⟨W.heap.size, 0, none⟩ = some (.slice gA gn gc) ∧ Wx.cell? ⟨W.heap.size, 1, none⟩ = some (.slice fA fn fc) ∧ Wx.cell? ⟨W.heap.size, 2, none⟩ = some (.slice (some ⟨g, o, none⟩) N nc) ∧ Wx.cell? ⟨W.heap.size + 1, 0, none⟩ = some (.int .i64 4) ∧ Wx.cell? ⟨W.heap.size + 1, 3, none⟩ = some (.string (str s)) ∧ Wx.cell? ⟨W.heap.size + 1, 4, none⟩ = some (.int .i64 to_) ∧ Wx.cell? ⟨W.heap.size + 1, 5, none⟩ = some (.slice (some ⟨kg, ko, none⟩) 1 kc) ∧ Wx.cell? ⟨kg, ko, none⟩ = some (.int .i64 (k0 : Nat)) ∧ W.heap.size < Wx.heap.size ∧ W.heap.size + 1 < Wx.heap.size ∧ kg < Wx.heap.size)
    (first | exact ⟨p0, p1, p2, p3, p4, p5, p6, p7, pl1, pl2, pl3⟩ | exact HS.out _ J1)
    (first
      | (go_at_call 62; (with_reducible refine Calls.mono (HK0.out _ ?hw) ?_); (case hw => first | exact HB.out.trans (J0.mono HB.out.size) | exact HB.out.trans (J0.drew.mono HB.out.size)); rintro e v1 ⟨rfl, b1⟩; have J1 : Below W2.heap.size W2 v1 := by first | exact J0.trans (b1.mono J0.size) | exact J0.drew.trans (b1.mono J0.size)))
  all_goals
    have H1 := Lib.hid (HBW.out.trans (J1.mono HBW.out.size))
    clear J0 J1
    go_wp2_with fail
    go_ret
    exact ⟨rfl, H1.out⟩

set_option maxHeartbeats 600000 in
set_option maxRecDepth 100000 in
theorem pcast_any {i k0 : Nat} {lv : Int} {h : Hd} {t0 : Tx} (hi : i < N) (hN : N ≤ 4000) (ho : h.op = 6) (hn : NdW B nA i h [k0]) (hs : h.s.length ≤ 24) (hto : h.to = 0 ∨ h.to = 1 ∨ h.to = 2 ∨ h.to = 3) (ht0 : t0 ≠ []) (hl0 : byt t0 ≤ 1000000) (hk0 : PxE B gA fA nA gn gc fn fc N nc k0 11 t0) :
    PxE B gA fA nA gn gc fn fc N nc i lv ([[40]] ++ [typeW h.to] ++ [[41]] ++ t0) := by
  intro W hW
  have e0 : wl false ([[40]] ++ [typeW h.to] ++ [[41]] ++ t0) = ((([40, 32] ++ typeW h.to) ++ [32, 41, 32]) ++ wl false t0) := by
    rw [wl_app (by simp) ht0]; simp [wl]
  rw [e0]
  have hb0 := wl_byt t0 false
  have hty := typeW_5 h.to
  have HTO := Lib.hid hto
  have hadd1 := fun W : World => run_string_add_sum (P := Tryz.prog) W (str ([40, 32])) (str (typeW h.to)) (by rw [str_size, str_size]; simp; omega)
  have hadd2 := fun W : World => run_string_add_sum (P := Tryz.prog) W (str (([40, 32]) ++ typeW h.to)) (str ([32, 41, 32])) (by rw [str_size, str_size]; simp; omega)
  have hadd3 := fun W : World => run_string_add_sum (P := Tryz.prog) W (str ((([40, 32]) ++ typeW h.to) ++ [32, 41, 32])) (str (wl false t0)) (by rw [str_size, str_size]; simp; omega)
  simp only [str_append] at hadd1 hadd2 hadd3
  unfold PxE at hk0
  have HK0 := Lib.hid hk0
  have HW := Lib.hid hW
  obtain ⟨g, o, A, kc, rfl, hg, h1, h2, h3, h4⟩ := hn.below hW
  obtain ⟨kg, ko, rfl, hkg, hkc0⟩ : ∃ g o, A = some ⟨g, o, none⟩ ∧ g < W.heap.size ∧ W.cell? ⟨g, o, none⟩ = some (.int .i64 (k0 : Nat)) := by
    rcases h3 with h9 | ⟨g, o, e, hg, hc⟩
    · cases h9
    · exact ⟨g, o, e, hg, hc 0 k0 rfl⟩
  have y0 := h4 0 _ rfl; have y1 := h4 1 _ rfl; have y2 := h4 2 _ rfl; have y3 := h4 3 _ rfl; have y4 := h4 4 _ rfl; have y5 := h4 5 _ rfl; have y6 := h4 6 _ rfl; have y7 := h4 7 _ rfl
  rw [ho] at y0
  obtain ⟨op, p, n, s, to_, ty⟩ := h
  simp only at y0 y1 y2 y3 y4 y5 y6 y7 hadd1 hadd2 hadd3 HTO ⊢
  have HTY := Lib.hid (fun W => ptyped_any to_ HTO.out W)
  generalize typeW to_ = Y at *
  generalize wl false t0 = T0 at *
  generalize [40, 32] ++ Y = u1 at *
  generalize u1 ++ [32, 41, 32] = u2 at *
  generalize u2 ++ T0 = u3 at *
  clear hn h4 h3 hW e0 ho hs hk0 hb0 hl0 ht0 hty hto
  simp only [List.length_cons, List.length_nil, Nat.zero_add, Nat.add_zero, Nat.reduceAdd] at y0 y5 h1
  go_enter Tryz.func62, Tryz.ntmps62
  go_upto_region 2 with (fail)
  have b1 : Blk ((W.alloc (.cells #[.slice gA gn gc, .slice fA fn fc, .slice (some ⟨g, o, none⟩) N nc] tPg)).alloc (.cells #[.int .i64 6, .int .i64 p, .int .i64 n, .string (str s), .int .i64 to_, .slice (some ⟨kg, ko, none⟩) 1 kc, .int .i64 ty, .int .i64 0] tN)) W.heap.size tPg #[.slice gA gn gc, .slice fA fn fc, .slice (some ⟨g, o, none⟩) N nc] := (Blk.new W tPg _).alloc _
  have b2 := Blk.new (W.alloc (.cells #[.slice gA gn gc, .slice fA fn fc, .slice (some ⟨g, o, none⟩) N nc] tPg)) tN #[.int .i64 6, .int .i64 p, .int .i64 n, .string (str s), .int .i64 to_, .slice (some ⟨kg, ko, none⟩) 1 kc, .int .i64 ty, .int .i64 0]
  have e2 : (W.alloc (.cells #[.slice gA gn gc, .slice fA fn fc, .slice (some ⟨g, o, none⟩) N nc] tPg)).heap.size = W.heap.size + 1 := by simp
  rw [e2] at b2
  have hb : Below W.heap.size W ((W.alloc (.cells #[.slice gA gn gc, .slice fA fn fc, .slice (some ⟨g, o, none⟩) N nc] tPg)).alloc (.cells #[.int .i64 6, .int .i64 p, .int .i64 n, .string (str s), .int .i64 to_, .slice (some ⟨kg, ko, none⟩) 1 kc, .int .i64 ty, .int .i64 0] tN)) := ((Below.refl _ _).alloc (Nat.le_refl _) _).alloc (by simp) _
  clear e2
  generalize ((W.alloc (.cells #[.slice gA gn gc, .slice fA fn fc, .slice (some ⟨g, o, none⟩) N nc] tPg)).alloc (.cells #[.int .i64 6, .int .i64 p, .int .i64 n, .string (str s), .int .i64 to_, .slice (some ⟨kg, ko, none⟩) 1 kc, .int .i64 ty, .int .i64 0] tN)) = W2 at *
  have p0 : W2.cell? ⟨W.heap.size, 0, none⟩ = some (.slice gA gn gc) := b1.cell 0
  have p1 : W2.cell? ⟨W.heap.size, 1, none⟩ = some (.slice fA fn fc) := b1.cell 1
  have p2 : W2.cell? ⟨W.heap.size, 2, none⟩ = some (.slice (some ⟨g, o, none⟩) N nc) := b1.cell 2
  have p3 : W2.cell? ⟨W.heap.size + 1, 0, none⟩ = some (.int .i64 6) := b2.cell 0
  have p4 : W2.cell? ⟨W.heap.size + 1, 3, none⟩ = some (.string (str s)) := b2.cell 3
  have p5 : W2.cell? ⟨W.heap.size + 1, 4, none⟩ = some (.int .i64 to_) := b2.cell 4
  have p6 : W2.cell? ⟨W.heap.size + 1, 5, none⟩ = some (.slice (some ⟨kg, ko, none⟩) 1 kc) := b2.cell 5
  have p7 : W2.cell? ⟨kg, ko, none⟩ = some (.int .i64 (k0 : Nat)) := (hb.cell (p := ⟨kg, ko, none⟩) hkg).trans hkc0
  have pl1 := b1.lt
  have pl2 := b2.lt
  have pl3 : kg < W2.heap.size := by omega
  have HS : Hid (∀ Wx, Below W2.heap.size W2 Wx → Wx.cell? ⟨W.heap.size, 0, none⟩ = some (.slice gA gn gc) ∧ Wx.cell? ⟨W.heap.size, 1, none⟩ = some (.slice fA fn fc) ∧ Wx.cell? ⟨W.heap.size, 2, none⟩ = some (.slice (some ⟨g, o, none⟩) N nc) ∧ Wx.cell? ⟨W.heap.size + 1, 0, none⟩ = some (.int .i64 6) ∧ Wx.cell? ⟨W.heap.size + 1, 3, none⟩ = some (.string (str s)) ∧ Wx.cell? ⟨W.heap.size + 1, 4, none⟩ = some (.int .i64 to_) ∧ Wx.cell? ⟨W.heap.size + 1, 5, none⟩ = some (.slice (some ⟨kg, ko, none⟩) 1 kc) ∧ Wx.cell? ⟨kg, ko, none⟩ = some (.int .i64 (k0 : Nat)) ∧ W.heap.size < Wx.heap.size ∧ W.heap.size + 1 < Wx.heap.size ∧ kg < Wx.heap.size) := Lib.hid fun Wx h => by
    have hz := h.size
    exact ⟨(h.cell (p := ⟨W.heap.size, 0, none⟩) pl1).trans p0, (h.cell (p := ⟨W.heap.size, 1, none⟩) pl1).trans p1, (h.cell (p := ⟨W.heap.size, 2, none⟩) pl1).trans p2, (h.cell (p := ⟨W.heap.size + 1, 0, none⟩) pl2).trans p3, (h.cell (p := ⟨W.heap.size + 1, 3, none⟩) pl2).trans p4, (h.cell (p := ⟨W.heap.size + 1, 4, none⟩) pl2).trans p5, (h.cell (p := ⟨W.heap.size + 1, 5, none⟩) pl2).trans p6, (h.cell (p := ⟨kg, ko, none⟩) pl3).trans p7, by omega, by omega, by omega⟩
  have HB := Lib.hid (HW.out.trans (hb.mono HW.out.size))
  have HBW := Lib.hid hb
  have J0 : Below W2.heap.size W2 W2 := Below.refl _ _
  clear hb b1 b2 y0 y1 y2 y3 y4 y5 y6 y7 hkg hkc0 hg
  go_upto_region 18 with (fail)
  go_region_held3 (fun Wx => Wx.cell? ⟨W.heap.size, 0, none⟩ = some (.slice gA gn gc) ∧ Wx.cell? ⟨W.heap.size, 1, none⟩ = some (.slice fA fn fc) ∧ Wx.cell? ⟨W.heap.size, 2, none⟩ = some (.slice (some ⟨g, o, none⟩) N nc) ∧ Wx.cell? ⟨W.heap.size + 1, 0, none⟩ = some (.int .i64 6) ∧ Wx.cell? ⟨W.heap.size + 1, 3, none⟩ = some (.string (str s)) ∧ Wx.cell? ⟨W.heap.size + 1, 4, none⟩ = some (.int .i64 to_) ∧ Wx.cell? ⟨W.heap.size + 1, 5, none⟩ = some (.slice (some ⟨kg, ko, none⟩) 1 kc) ∧ Wx.cell? ⟨kg, ko, none⟩ = some (.int .i64 (k0 : Nat)) ∧ W.heap.size < Wx.heap.size ∧ W.heap.size + 1 < Wx.heap.size ∧ kg < Wx.heap.size)
    (first | exact ⟨p0, p1, p2, p3, p4, p5, p6, p7, pl1, pl2, pl3⟩ | exact HS.out _ J2 | exact HS.out _ J1)
    (first
      | (go_at_call 33; (with_reducible refine Calls.mono (HTY.out _) ?_); rintro e v1 ⟨rfl, b1⟩; have J1 : Below W2.heap.size W2 v1 := by first | exact J0.trans (b1.mono J0.size) | exact J0.drew.trans (b1.mono J0.size))
      | (go_at_call 62; (with_reducible refine Calls.mono (HK0.out _ ?hw) ?_); (case hw => first | exact HB.out.trans (J1.mono HB.out.size) | exact HB.out.trans (J1.drew.mono HB.out.size)); rintro e v2 ⟨rfl, b2⟩; have J2 : Below W2.heap.size W2 v2 := by first | exact J1.trans (b2.mono J1.size) | exact J1.drew.trans (b2.mono J1.size)))
  all_goals
    have H1 := Lib.hid (HBW.out.trans (J2.mono HBW.out.size))
    clear J0 J1 J2
    go_wp2_with fail
    go_ret
    exact ⟨rfl, H1.out⟩

end
end Go.Proofs.YtlbjjpfhkgagiaaGreatDoor
/-! Pvc -/
namespace Go.Proofs.YtlbjjpfhkgagiaaGreatDoor
open Go.RowKit
set_option linter.unusedVariables false
set_option linter.unusedSimpArgs false

section
variable (B : World) (gA fA nA : Option Addr) (gn gc fn fc N nc : Nat)
/-- The printer's answer at a statement is that text. -/
def PxS (i : Nat) (t : Tx) : Prop := ∀ W, Below B.heap.size B W → Calls Tryz.prog 35 #[.agg #[.slice gA gn gc, .slice fA fn fc, .slice nA N nc], .int .i64 i] W fun e w' => e = .returned (.string (str (wl false t))) ∧ Below W.heap.size W w'
variable {B gA fA nA gn gc fn fc N nc}

set_option maxHeartbeats 600000 in
set_option maxRecDepth 100000 in
theorem plocal_any {i k0 : Nat} {h : Hd} {t0 : Tx} (hi : i < N) (hN : N ≤ 4000) (ho : h.op = 12) (hn : NdW B nA i h [k0]) (hs : h.s.length ≤ 24) (hto : h.to = 0 ∨ h.to = 1 ∨ h.to = 2 ∨ h.to = 3) (ht0 : t0 ≠ []) (hl0 : byt t0 ≤ 1000000) (hk0 : PxE B gA fA nA gn gc fn fc N nc k0 1 t0) :
    PxS B gA fA nA gn gc fn fc N nc i (typeW h.to :: h.s :: [61] :: (t0 ++ [[59]])) := by
  intro W hW
  have e0 : wl false (typeW h.to :: h.s :: [61] :: (t0 ++ [[59]])) = (((((typeW h.to ++ [32]) ++ h.s) ++ [32, 61, 32]) ++ wl false t0) ++ [32, 59]) := by
    simp [wl_cons, wl_app, wl_one, ht0]
  rw [e0]
  have hb0 := wl_byt t0 false
  have hty := typeW_5 h.to
  have HTO := Lib.hid hto
  have hadd1 := fun W : World => run_string_add_sum (P := Tryz.prog) W (str (typeW h.to)) (str ([32])) (by rw [str_size, str_size]; simp; omega)
  have hadd2 := fun W : World => run_string_add_sum (P := Tryz.prog) W (str ((typeW h.to) ++ [32])) (str (h.s)) (by rw [str_size, str_size]; simp; omega)
  have hadd3 := fun W : World => run_string_add_sum (P := Tryz.prog) W (str (((typeW h.to) ++ [32]) ++ h.s)) (str ([32, 61, 32])) (by rw [str_size, str_size]; simp; omega)
  have hadd4 := fun W : World => run_string_add_sum (P := Tryz.prog) W (str ((((typeW h.to) ++ [32]) ++ h.s) ++ [32, 61, 32])) (str (wl false t0)) (by rw [str_size, str_size]; simp; omega)
  have hadd5 := fun W : World => run_string_add_sum (P := Tryz.prog) W (str (((((typeW h.to) ++ [32]) ++ h.s) ++ [32, 61, 32]) ++ wl false t0)) (str ([32, 59])) (by rw [str_size, str_size]; simp; omega)
  simp only [str_append] at hadd1 hadd2 hadd3 hadd4 hadd5
  unfold PxE at hk0
  have HK0 := Lib.hid hk0
  have HW := Lib.hid hW
  obtain ⟨g, o, A, kc, rfl, hg, h1, h2, h3, h4⟩ := hn.below hW
  obtain ⟨kg, ko, rfl, hkg, hkc0⟩ : ∃ g o, A = some ⟨g, o, none⟩ ∧ g < W.heap.size ∧ W.cell? ⟨g, o, none⟩ = some (.int .i64 (k0 : Nat)) := by
    rcases h3 with h9 | ⟨g, o, e, hg, hc⟩
    · cases h9
    · exact ⟨g, o, e, hg, hc 0 k0 rfl⟩
  have y0 := h4 0 _ rfl; have y1 := h4 1 _ rfl; have y2 := h4 2 _ rfl; have y3 := h4 3 _ rfl; have y4 := h4 4 _ rfl; have y5 := h4 5 _ rfl; have y6 := h4 6 _ rfl; have y7 := h4 7 _ rfl
  rw [ho] at y0
  obtain ⟨op, p, n, s, to_, ty⟩ := h
  simp only at y0 y1 y2 y3 y4 y5 y6 y7 hadd1 hadd2 hadd3 hadd4 hadd5 HTO ⊢
  have HTY := Lib.hid (fun W => ptyped_any to_ HTO.out W)
  generalize typeW to_ = Y at *
  generalize wl false t0 = T0 at *
  generalize Y ++ [32] = u1 at *
  generalize u1 ++ s = u2 at *
  generalize u2 ++ [32, 61, 32] = u3 at *
  generalize u3 ++ T0 = u4 at *
  generalize u4 ++ [32, 59] = u5 at *
  clear hn h4 h3 hW e0 ho hs hk0 hb0 hl0 ht0 hty hto
  simp only [List.length_cons, List.length_nil, Nat.zero_add, Nat.add_zero, Nat.reduceAdd] at y0 y5 h1
  go_enter Tryz.func35, Tryz.ntmps35
  go_upto_region 2 with (fail)
  have b1 : Blk ((W.alloc (.cells #[.slice gA gn gc, .slice fA fn fc, .slice (some ⟨g, o, none⟩) N nc] tPg)).alloc (.cells #[.int .i64 12, .int .i64 p, .int .i64 n, .string (str s), .int .i64 to_, .slice (some ⟨kg, ko, none⟩) 1 kc, .int .i64 ty, .int .i64 0] tN)) W.heap.size tPg #[.slice gA gn gc, .slice fA fn fc, .slice (some ⟨g, o, none⟩) N nc] := (Blk.new W tPg _).alloc _
  have b2 := Blk.new (W.alloc (.cells #[.slice gA gn gc, .slice fA fn fc, .slice (some ⟨g, o, none⟩) N nc] tPg)) tN #[.int .i64 12, .int .i64 p, .int .i64 n, .string (str s), .int .i64 to_, .slice (some ⟨kg, ko, none⟩) 1 kc, .int .i64 ty, .int .i64 0]
  have e2 : (W.alloc (.cells #[.slice gA gn gc, .slice fA fn fc, .slice (some ⟨g, o, none⟩) N nc] tPg)).heap.size = W.heap.size + 1 := by simp
  rw [e2] at b2
  have hb : Below W.heap.size W ((W.alloc (.cells #[.slice gA gn gc, .slice fA fn fc, .slice (some ⟨g, o, none⟩) N nc] tPg)).alloc (.cells #[.int .i64 12, .int .i64 p, .int .i64 n, .string (str s), .int .i64 to_, .slice (some ⟨kg, ko, none⟩) 1 kc, .int .i64 ty, .int .i64 0] tN)) := ((Below.refl _ _).alloc (Nat.le_refl _) _).alloc (by simp) _
  clear e2
  generalize ((W.alloc (.cells #[.slice gA gn gc, .slice fA fn fc, .slice (some ⟨g, o, none⟩) N nc] tPg)).alloc (.cells #[.int .i64 12, .int .i64 p, .int .i64 n, .string (str s), .int .i64 to_, .slice (some ⟨kg, ko, none⟩) 1 kc, .int .i64 ty, .int .i64 0] tN)) = W2 at *
  have p0 : W2.cell? ⟨W.heap.size, 0, none⟩ = some (.slice gA gn gc) := b1.cell 0
  have p1 : W2.cell? ⟨W.heap.size, 1, none⟩ = some (.slice fA fn fc) := b1.cell 1
  have p2 : W2.cell? ⟨W.heap.size, 2, none⟩ = some (.slice (some ⟨g, o, none⟩) N nc) := b1.cell 2
  have p3 : W2.cell? ⟨W.heap.size + 1, 0, none⟩ = some (.int .i64 12) := b2.cell 0
  have p4 : W2.cell? ⟨W.heap.size + 1, 3, none⟩ = some (.string (str s)) := b2.cell 3
  have p5 : W2.cell? ⟨W.heap.size + 1, 4, none⟩ = some (.int .i64 to_) := b2.cell 4
  have p6 : W2.cell? ⟨W.heap.size + 1, 5, none⟩ = some (.slice (some ⟨kg, ko, none⟩) 1 kc) := b2.cell 5
  have p7 : W2.cell? ⟨kg, ko, none⟩ = some (.int .i64 (k0 : Nat)) := (hb.cell (p := ⟨kg, ko, none⟩) hkg).trans hkc0
  have pl1 := b1.lt
  have pl2 := b2.lt
  have pl3 : kg < W2.heap.size := by omega
  have HS : Hid (∀ Wx, Below W2.heap.size W2 Wx → Wx.cell? ⟨W.heap.size, 0, none⟩ = some (.slice gA gn gc) ∧ Wx.cell? ⟨W.heap.size, 1, none⟩ = some (.slice fA fn fc) ∧ Wx.cell? ⟨W.heap.size, 2, none⟩ = some (.slice (some ⟨g, o, none⟩) N nc) ∧ Wx.cell? ⟨W.heap.size + 1, 0, none⟩ = some (.int .i64 12) ∧ Wx.cell? ⟨W.heap.size + 1, 3, none⟩ = some (.string (str s)) ∧ Wx.cell? ⟨W.heap.size + 1, 4, none⟩ = some (.int .i64 to_) ∧ Wx.cell? ⟨W.heap.size + 1, 5, none⟩ = some (.slice (some ⟨kg, ko, none⟩) 1 kc) ∧ Wx.cell? ⟨kg, ko, none⟩ = some (.int .i64 (k0 : Nat)) ∧ W.heap.size < Wx.heap.size ∧ W.heap.size + 1 < Wx.heap.size ∧ kg < Wx.heap.size) := Lib.hid fun Wx h => by
    have hz := h.size
    exact ⟨(h.cell (p := ⟨W.heap.size, 0, none⟩) pl1).trans p0, (h.cell (p := ⟨W.heap.size, 1, none⟩) pl1).trans p1, (h.cell (p := ⟨W.heap.size, 2, none⟩) pl1).trans p2, (h.cell (p := ⟨W.heap.size + 1, 0, none⟩) pl2).trans p3, (h.cell (p := ⟨W.heap.size + 1, 3, none⟩) pl2).trans p4, (h.cell (p := ⟨W.heap.size + 1, 4, none⟩) pl2).trans p5, (h.cell (p := ⟨W.heap.size + 1, 5, none⟩) pl2).trans p6, (h.cell (p := ⟨kg, ko, none⟩) pl3).trans p7, by omega, by omega, by omega⟩
  have HB := Lib.hid (HW.out.trans (hb.mono HW.out.size))
  have HBW := Lib.hid hb
  have J0 : Below W2.heap.size W2 W2 := Below.refl _ _
  clear hb b1 b2 y0 y1 y2 y3 y4 y5 y6 y7 hkg hkc0 hg
  go_upto_region 11 with (fail)
  go_region_held3 (fun Wx => Wx.cell? ⟨W.heap.size, 0, none⟩ = some (.slice gA gn gc) ∧ Wx.cell? ⟨W.heap.size, 1, none⟩ = some (.slice fA fn fc) ∧ Wx.cell? ⟨W.heap.size, 2, none⟩ = some (.slice (some ⟨g, o, none⟩) N nc) ∧ Wx.cell? ⟨W.heap.size + 1, 0, none⟩ = some (.int .i64 12) ∧ Wx.cell? ⟨W.heap.size + 1, 3, none⟩ = some (.string (str s)) ∧ Wx.cell? ⟨W.heap.size + 1, 4, none⟩ = some (.int .i64 to_) ∧ Wx.cell? ⟨W.heap.size + 1, 5, none⟩ = some (.slice (some ⟨kg, ko, none⟩) 1 kc) ∧ Wx.cell? ⟨kg, ko, none⟩ = some (.int .i64 (k0 : Nat)) ∧ W.heap.size < Wx.heap.size ∧ W.heap.size + 1 < Wx.heap.size ∧ kg < Wx.heap.size)
    (first | exact ⟨p0, p1, p2, p3, p4, p5, p6, p7, pl1, pl2, pl3⟩ | exact HS.out _ J2 | exact HS.out _ J1)
    (first
      | (go_at_call 33; (with_reducible refine Calls.mono (HTY.out _) ?_); rintro e v1 ⟨rfl, b1⟩; have J1 : Below W2.heap.size W2 v1 := by first | exact J0.trans (b1.mono J0.size) | exact J0.drew.trans (b1.mono J0.size))
      | (go_at_call 62; (with_reducible refine Calls.mono (HK0.out _ ?hw) ?_); (case hw => first | exact HB.out.trans (J1.mono HB.out.size) | exact HB.out.trans (J1.drew.mono HB.out.size)); rintro e v2 ⟨rfl, b2⟩; have J2 : Below W2.heap.size W2 v2 := by first | exact J1.trans (b2.mono J1.size) | exact J1.drew.trans (b2.mono J1.size)))
  all_goals
    have H1 := Lib.hid (HBW.out.trans (J2.mono HBW.out.size))
    clear J0 J1 J2
    go_wp2_with fail
    go_ret
    exact ⟨rfl, H1.out⟩

set_option maxHeartbeats 600000 in
set_option maxRecDepth 100000 in
theorem passign_any {i k0 : Nat} {h : Hd} {t0 : Tx} (hi : i < N) (hN : N ≤ 4000) (ho : h.op = 13) (hn : NdW B nA i h [k0]) (hs : h.s.length ≤ 24) (ht0 : t0 ≠ []) (hl0 : byt t0 ≤ 1000000) (hk0 : PxE B gA fA nA gn gc fn fc N nc k0 1 t0) :
    PxS B gA fA nA gn gc fn fc N nc i (h.s :: [61] :: (t0 ++ [[59]])) := by
  intro W hW
  have e0 : wl false (h.s :: [61] :: (t0 ++ [[59]])) = (((h.s ++ [32, 61, 32]) ++ wl false t0) ++ [32, 59]) := by
    simp [wl_cons, wl_app, wl_one, ht0]
  rw [e0]
  have hb0 := wl_byt t0 false
  have hadd1 := fun W : World => run_string_add_sum (P := Tryz.prog) W (str (h.s)) (str ([32, 61, 32])) (by rw [str_size, str_size]; simp; omega)
  have hadd2 := fun W : World => run_string_add_sum (P := Tryz.prog) W (str ((h.s) ++ [32, 61, 32])) (str (wl false t0)) (by rw [str_size, str_size]; simp; omega)
  have hadd3 := fun W : World => run_string_add_sum (P := Tryz.prog) W (str (((h.s) ++ [32, 61, 32]) ++ wl false t0)) (str ([32, 59])) (by rw [str_size, str_size]; simp; omega)
  simp only [str_append] at hadd1 hadd2 hadd3
  unfold PxE at hk0
  have HK0 := Lib.hid hk0
  have HW := Lib.hid hW
  obtain ⟨g, o, A, kc, rfl, hg, h1, h2, h3, h4⟩ := hn.below hW
  obtain ⟨kg, ko, rfl, hkg, hkc0⟩ : ∃ g o, A = some ⟨g, o, none⟩ ∧ g < W.heap.size ∧ W.cell? ⟨g, o, none⟩ = some (.int .i64 (k0 : Nat)) := by
    rcases h3 with h9 | ⟨g, o, e, hg, hc⟩
    · cases h9
    · exact ⟨g, o, e, hg, hc 0 k0 rfl⟩
  have y0 := h4 0 _ rfl; have y1 := h4 1 _ rfl; have y2 := h4 2 _ rfl; have y3 := h4 3 _ rfl; have y4 := h4 4 _ rfl; have y5 := h4 5 _ rfl; have y6 := h4 6 _ rfl; have y7 := h4 7 _ rfl
  rw [ho] at y0
  obtain ⟨op, p, n, s, to_, ty⟩ := h
  simp only at y0 y1 y2 y3 y4 y5 y6 y7 hadd1 hadd2 hadd3 ⊢
  generalize wl false t0 = T0 at *
  generalize s ++ [32, 61, 32] = u1 at *
  generalize u1 ++ T0 = u2 at *
  generalize u2 ++ [32, 59] = u3 at *
  clear hn h4 h3 hW e0 ho hs hk0 hb0 hl0 ht0
  simp only [List.length_cons, List.length_nil, Nat.zero_add, Nat.add_zero, Nat.reduceAdd] at y0 y5 h1
  go_enter Tryz.func35, Tryz.ntmps35
  go_upto_region 2 with (fail)
  have b1 : Blk ((W.alloc (.cells #[.slice gA gn gc, .slice fA fn fc, .slice (some ⟨g, o, none⟩) N nc] tPg)).alloc (.cells #[.int .i64 13, .int .i64 p, .int .i64 n, .string (str s), .int .i64 to_, .slice (some ⟨kg, ko, none⟩) 1 kc, .int .i64 ty, .int .i64 0] tN)) W.heap.size tPg #[.slice gA gn gc, .slice fA fn fc, .slice (some ⟨g, o, none⟩) N nc] := (Blk.new W tPg _).alloc _
  have b2 := Blk.new (W.alloc (.cells #[.slice gA gn gc, .slice fA fn fc, .slice (some ⟨g, o, none⟩) N nc] tPg)) tN #[.int .i64 13, .int .i64 p, .int .i64 n, .string (str s), .int .i64 to_, .slice (some ⟨kg, ko, none⟩) 1 kc, .int .i64 ty, .int .i64 0]
  have e2 : (W.alloc (.cells #[.slice gA gn gc, .slice fA fn fc, .slice (some ⟨g, o, none⟩) N nc] tPg)).heap.size = W.heap.size + 1 := by simp
  rw [e2] at b2
  have hb : Below W.heap.size W ((W.alloc (.cells #[.slice gA gn gc, .slice fA fn fc, .slice (some ⟨g, o, none⟩) N nc] tPg)).alloc (.cells #[.int .i64 13, .int .i64 p, .int .i64 n, .string (str s), .int .i64 to_, .slice (some ⟨kg, ko, none⟩) 1 kc, .int .i64 ty, .int .i64 0] tN)) := ((Below.refl _ _).alloc (Nat.le_refl _) _).alloc (by simp) _
  clear e2
  generalize ((W.alloc (.cells #[.slice gA gn gc, .slice fA fn fc, .slice (some ⟨g, o, none⟩) N nc] tPg)).alloc (.cells #[.int .i64 13, .int .i64 p, .int .i64 n, .string (str s), .int .i64 to_, .slice (some ⟨kg, ko, none⟩) 1 kc, .int .i64 ty, .int .i64 0] tN)) = W2 at *
  have p0 : W2.cell? ⟨W.heap.size, 0, none⟩ = some (.slice gA gn gc) := b1.cell 0
  have p1 : W2.cell? ⟨W.heap.size, 1, none⟩ = some (.slice fA fn fc) := b1.cell 1
  have p2 : W2.cell? ⟨W.heap.size, 2, none⟩ = some (.slice (some ⟨g, o, none⟩) N nc) := b1.cell 2
  have p3 : W2.cell? ⟨W.heap.size + 1, 0, none⟩ = some (.int .i64 13) := b2.cell 0
  have p4 : W2.cell? ⟨W.heap.size + 1, 3, none⟩ = some (.string (str s)) := b2.cell 3
  have p5 : W2.cell? ⟨W.heap.size + 1, 4, none⟩ = some (.int .i64 to_) := b2.cell 4
  have p6 : W2.cell? ⟨W.heap.size + 1, 5, none⟩ = some (.slice (some ⟨kg, ko, none⟩) 1 kc) := b2.cell 5
  have p7 : W2.cell? ⟨kg, ko, none⟩ = some (.int .i64 (k0 : Nat)) := (hb.cell (p := ⟨kg, ko, none⟩) hkg).trans hkc0
  have pl1 := b1.lt
  have pl2 := b2.lt
  have pl3 : kg < W2.heap.size := by omega
  have HS : Hid (∀ Wx, Below W2.heap.size W2 Wx → Wx.cell? ⟨W.heap.size, 0, none⟩ = some (.slice gA gn gc) ∧ Wx.cell? ⟨W.heap.size, 1, none⟩ = some (.slice fA fn fc) ∧ Wx.cell? ⟨W.heap.size, 2, none⟩ = some (.slice (some ⟨g, o, none⟩) N nc) ∧ Wx.cell? ⟨W.heap.size + 1, 0, none⟩ = some (.int .i64 13) ∧ Wx.cell? ⟨W.heap.size + 1, 3, none⟩ = some (.string (str s)) ∧ Wx.cell? ⟨W.heap.size + 1, 4, none⟩ = some (.int .i64 to_) ∧ Wx.cell? ⟨W.heap.size + 1, 5, none⟩ = some (.slice (some ⟨kg, ko, none⟩) 1 kc) ∧ Wx.cell? ⟨kg, ko, none⟩ = some (.int .i64 (k0 : Nat)) ∧ W.heap.size < Wx.heap.size ∧ W.heap.size + 1 < Wx.heap.size ∧ kg < Wx.heap.size) := Lib.hid fun Wx h => by
    have hz := h.size
    exact ⟨(h.cell (p := ⟨W.heap.size, 0, none⟩) pl1).trans p0, (h.cell (p := ⟨W.heap.size, 1, none⟩) pl1).trans p1, (h.cell (p := ⟨W.heap.size, 2, none⟩) pl1).trans p2, (h.cell (p := ⟨W.heap.size + 1, 0, none⟩) pl2).trans p3, (h.cell (p := ⟨W.heap.size + 1, 3, none⟩) pl2).trans p4, (h.cell (p := ⟨W.heap.size + 1, 4, none⟩) pl2).trans p5, (h.cell (p := ⟨W.heap.size + 1, 5, none⟩) pl2).trans p6, (h.cell (p := ⟨kg, ko, none⟩) pl3).trans p7, by omega, by omega, by omega⟩
  have HB := Lib.hid (HW.out.trans (hb.mono HW.out.size))
  have HBW := Lib.hid hb
  have J0 : Below W2.heap.size W2 W2 := Below.refl _ _
  clear hb b1 b2 y0 y1 y2 y3 y4 y5 y6 y7 hkg hkc0 hg
  go_upto_region 13 with (fail)
  go_region_held3 (fun Wx => Wx.cell? ⟨W.heap.size, 0, none⟩ = some (.slice gA gn gc) ∧ Wx.cell? ⟨W.heap.size, 1, none⟩ = some (.slice fA fn fc) ∧ Wx.cell? ⟨W.heap.size, 2, none⟩ = some (.slice (some ⟨g, o, none⟩) N nc) ∧ Wx.cell? ⟨W.heap.size + 1, 0, none⟩ = some (.int .i64 13) ∧ Wx.cell? ⟨W.heap.size + 1, 3, none⟩ = some (.string (str s)) ∧ Wx.cell? ⟨W.heap.size + 1, 4, none⟩ = some (.int .i64 to_) ∧ Wx.cell? ⟨W.heap.size + 1, 5, none⟩ = some (.slice (some ⟨kg, ko, none⟩) 1 kc) ∧ Wx.cell? ⟨kg, ko, none⟩ = some (.int .i64 (k0 : Nat)) ∧ W.heap.size < Wx.heap.size ∧ W.heap.size + 1 < Wx.heap.size ∧ kg < Wx.heap.size)
    (first | exact ⟨p0, p1, p2, p3, p4, p5, p6, p7, pl1, pl2, pl3⟩ | exact HS.out _ J1)
    (first
      | (go_at_call 62; (with_reducible refine Calls.mono (HK0.out _ ?hw) ?_); (case hw => first | exact HB.out.trans (J0.mono HB.out.size) | exact HB.out.trans (J0.drew.mono HB.out.size)); rintro e v1 ⟨rfl, b1⟩; have J1 : Below W2.heap.size W2 v1 := by first | exact J0.trans (b1.mono J0.size) | exact J0.drew.trans (b1.mono J0.size)))
  all_goals
    have H1 := Lib.hid (HBW.out.trans (J1.mono HBW.out.size))
    clear J0 J1
    go_wp2_with fail
    go_ret
    exact ⟨rfl, H1.out⟩

set_option maxHeartbeats 600000 in
set_option maxRecDepth 100000 in
theorem pstore_any {i k0 k1 : Nat} {h : Hd} {t0 t1 : Tx} (hi : i < N) (hN : N ≤ 4000) (ho : h.op = 14) (hn : NdW B nA i h [k0, k1]) (hs : h.s.length ≤ 24) (ht0 : t0 ≠ []) (hl0 : byt t0 ≤ 1000000) (hk0 : PxE B gA fA nA gn gc fn fc N nc k0 1 t0) (ht1 : t1 ≠ []) (hl1 : byt t1 ≤ 1000000) (hk1 : PxE B gA fA nA gn gc fn fc N nc k1 1 t1) :
    PxS B gA fA nA gn gc fn fc N nc i (h.s :: [91] :: (t0 ++ [93] :: [61] :: (t1 ++ [[59]]))) := by
  intro W hW
  have e0 : wl false (h.s :: [91] :: (t0 ++ [93] :: [61] :: (t1 ++ [[59]]))) = (((((h.s ++ [32, 91, 32]) ++ wl false t0) ++ [32, 93, 32, 61, 32]) ++ wl false t1) ++ [32, 59]) := by
    simp [wl_cons, wl_app, wl_one, ht0, ht1]
  rw [e0]
  have hb0 := wl_byt t0 false
  have hb1 := wl_byt t1 false
  have hadd1 := fun W : World => run_string_add_sum (P := Tryz.prog) W (str (h.s)) (str ([32, 91, 32])) (by rw [str_size, str_size]; simp; omega)
  have hadd2 := fun W : World => run_string_add_sum (P := Tryz.prog) W (str ((h.s) ++ [32, 91, 32])) (str (wl false t0)) (by rw [str_size, str_size]; simp; omega)
  have hadd3 := fun W : World => run_string_add_sum (P := Tryz.prog) W (str (((h.s) ++ [32, 91, 32]) ++ wl false t0)) (str ([32, 93, 32, 61, 32])) (by rw [str_size, str_size]; simp; omega)
  have hadd4 := fun W : World => run_string_add_sum (P := Tryz.prog) W (str ((((h.s) ++ [32, 91, 32]) ++ wl false t0) ++ [32, 93, 32, 61, 32])) (str (wl false t1)) (by rw [str_size, str_size]; simp; omega)
  have hadd5 := fun W : World => run_string_add_sum (P := Tryz.prog) W (str (((((h.s) ++ [32, 91, 32]) ++ wl false t0) ++ [32, 93, 32, 61, 32]) ++ wl false t1)) (str ([32, 59])) (by rw [str_size, str_size]; simp; omega)
  simp only [str_append] at hadd1 hadd2 hadd3 hadd4 hadd5
  unfold PxE at hk0
  have HK0 := Lib.hid hk0
  unfold PxE at hk1
  have HK1 := Lib.hid hk1
  have HW := Lib.hid hW
  obtain ⟨g, o, A, kc, rfl, hg, h1, h2, h3, h4⟩ := hn.below hW
  obtain ⟨kg, ko, rfl, hkg, hkc0, hkc1⟩ : ∃ g o, A = some ⟨g, o, none⟩ ∧ g < W.heap.size ∧ W.cell? ⟨g, o, none⟩ = some (.int .i64 (k0 : Nat)) ∧ W.cell? ⟨g, o + 1, none⟩ = some (.int .i64 (k1 : Nat)) := by
    rcases h3 with h9 | ⟨g, o, e, hg, hc⟩
    · cases h9
    · exact ⟨g, o, e, hg, hc 0 k0 rfl, hc 1 k1 rfl⟩
  have y0 := h4 0 _ rfl; have y1 := h4 1 _ rfl; have y2 := h4 2 _ rfl; have y3 := h4 3 _ rfl; have y4 := h4 4 _ rfl; have y5 := h4 5 _ rfl; have y6 := h4 6 _ rfl; have y7 := h4 7 _ rfl
  rw [ho] at y0
  obtain ⟨op, p, n, s, to_, ty⟩ := h
  simp only at y0 y1 y2 y3 y4 y5 y6 y7 hadd1 hadd2 hadd3 hadd4 hadd5 ⊢
  generalize wl false t0 = T0 at *
  generalize wl false t1 = T1 at *
  generalize s ++ [32, 91, 32] = u1 at *
  generalize u1 ++ T0 = u2 at *
  generalize u2 ++ [32, 93, 32, 61, 32] = u3 at *
  generalize u3 ++ T1 = u4 at *
  generalize u4 ++ [32, 59] = u5 at *
  clear hn h4 h3 hW e0 ho hs hk0 hb0 hl0 ht0 hk1 hb1 hl1 ht1
  simp only [List.length_cons, List.length_nil, Nat.zero_add, Nat.add_zero, Nat.reduceAdd] at y0 y5 h1
  go_enter Tryz.func35, Tryz.ntmps35
  go_upto_region 2 with (fail)
  have b1 : Blk ((W.alloc (.cells #[.slice gA gn gc, .slice fA fn fc, .slice (some ⟨g, o, none⟩) N nc] tPg)).alloc (.cells #[.int .i64 14, .int .i64 p, .int .i64 n, .string (str s), .int .i64 to_, .slice (some ⟨kg, ko, none⟩) 2 kc, .int .i64 ty, .int .i64 0] tN)) W.heap.size tPg #[.slice gA gn gc, .slice fA fn fc, .slice (some ⟨g, o, none⟩) N nc] := (Blk.new W tPg _).alloc _
  have b2 := Blk.new (W.alloc (.cells #[.slice gA gn gc, .slice fA fn fc, .slice (some ⟨g, o, none⟩) N nc] tPg)) tN #[.int .i64 14, .int .i64 p, .int .i64 n, .string (str s), .int .i64 to_, .slice (some ⟨kg, ko, none⟩) 2 kc, .int .i64 ty, .int .i64 0]
  have e2 : (W.alloc (.cells #[.slice gA gn gc, .slice fA fn fc, .slice (some ⟨g, o, none⟩) N nc] tPg)).heap.size = W.heap.size + 1 := by simp
  rw [e2] at b2
  have hb : Below W.heap.size W ((W.alloc (.cells #[.slice gA gn gc, .slice fA fn fc, .slice (some ⟨g, o, none⟩) N nc] tPg)).alloc (.cells #[.int .i64 14, .int .i64 p, .int .i64 n, .string (str s), .int .i64 to_, .slice (some ⟨kg, ko, none⟩) 2 kc, .int .i64 ty, .int .i64 0] tN)) := ((Below.refl _ _).alloc (Nat.le_refl _) _).alloc (by simp) _
  clear e2
  generalize ((W.alloc (.cells #[.slice gA gn gc, .slice fA fn fc, .slice (some ⟨g, o, none⟩) N nc] tPg)).alloc (.cells #[.int .i64 14, .int .i64 p, .int .i64 n, .string (str s), .int .i64 to_, .slice (some ⟨kg, ko, none⟩) 2 kc, .int .i64 ty, .int .i64 0] tN)) = W2 at *
  have p0 : W2.cell? ⟨W.heap.size, 0, none⟩ = some (.slice gA gn gc) := b1.cell 0
  have p1 : W2.cell? ⟨W.heap.size, 1, none⟩ = some (.slice fA fn fc) := b1.cell 1
  have p2 : W2.cell? ⟨W.heap.size, 2, none⟩ = some (.slice (some ⟨g, o, none⟩) N nc) := b1.cell 2
  have p3 : W2.cell? ⟨W.heap.size + 1, 0, none⟩ = some (.int .i64 14) := b2.cell 0
  have p4 : W2.cell? ⟨W.heap.size + 1, 3, none⟩ = some (.string (str s)) := b2.cell 3
  have p5 : W2.cell? ⟨W.heap.size + 1, 4, none⟩ = some (.int .i64 to_) := b2.cell 4
  have p6 : W2.cell? ⟨W.heap.size + 1, 5, none⟩ = some (.slice (some ⟨kg, ko, none⟩) 2 kc) := b2.cell 5
  have p7 : W2.cell? ⟨kg, ko, none⟩ = some (.int .i64 (k0 : Nat)) := (hb.cell (p := ⟨kg, ko, none⟩) hkg).trans hkc0
  have p8 : W2.cell? ⟨kg, ko + 1, none⟩ = some (.int .i64 (k1 : Nat)) := (hb.cell (p := ⟨kg, ko + 1, none⟩) hkg).trans hkc1
  have pl1 := b1.lt
  have pl2 := b2.lt
  have pl3 : kg < W2.heap.size := by omega
  have HS : Hid (∀ Wx, Below W2.heap.size W2 Wx → Wx.cell? ⟨W.heap.size, 0, none⟩ = some (.slice gA gn gc) ∧ Wx.cell? ⟨W.heap.size, 1, none⟩ = some (.slice fA fn fc) ∧ Wx.cell? ⟨W.heap.size, 2, none⟩ = some (.slice (some ⟨g, o, none⟩) N nc) ∧ Wx.cell? ⟨W.heap.size + 1, 0, none⟩ = some (.int .i64 14) ∧ Wx.cell? ⟨W.heap.size + 1, 3, none⟩ = some (.string (str s)) ∧ Wx.cell? ⟨W.heap.size + 1, 4, none⟩ = some (.int .i64 to_) ∧ Wx.cell? ⟨W.heap.size + 1, 5, none⟩ = some (.slice (some ⟨kg, ko, none⟩) 2 kc) ∧ Wx.cell? ⟨kg, ko, none⟩ = some (.int .i64 (k0 : Nat)) ∧ Wx.cell? ⟨kg, ko + 1, none⟩ = some (.int .i64 (k1 : Nat)) ∧ W.heap.size < Wx.heap.size ∧ W.heap.size + 1 < Wx.heap.size ∧ kg < Wx.heap.size) := Lib.hid fun Wx h => by
    have hz := h.size
    exact ⟨(h.cell (p := ⟨W.heap.size, 0, none⟩) pl1).trans p0, (h.cell (p := ⟨W.heap.size, 1, none⟩) pl1).trans p1, (h.cell (p := ⟨W.heap.size, 2, none⟩) pl1).trans p2, (h.cell (p := ⟨W.heap.size + 1, 0, none⟩) pl2).trans p3, (h.cell (p := ⟨W.heap.size + 1, 3, none⟩) pl2).trans p4, (h.cell (p := ⟨W.heap.size + 1, 4, none⟩) pl2).trans p5, (h.cell (p := ⟨W.heap.size + 1, 5, none⟩) pl2).trans p6, (h.cell (p := ⟨kg, ko, none⟩) pl3).trans p7, (h.cell (p := ⟨kg, ko + 1, none⟩) pl3).trans p8, by omega, by omega, by omega⟩
  have HB := Lib.hid (HW.out.trans (hb.mono HW.out.size))
  have HBW := Lib.hid hb
  have J0 : Below W2.heap.size W2 W2 := Below.refl _ _
  clear hb b1 b2 y0 y1 y2 y3 y4 y5 y6 y7 hkg hkc0 hkc1 hg
  go_upto_region 15 with (fail)
  go_region_held3 (fun Wx => Wx.cell? ⟨W.heap.size, 0, none⟩ = some (.slice gA gn gc) ∧ Wx.cell? ⟨W.heap.size, 1, none⟩ = some (.slice fA fn fc) ∧ Wx.cell? ⟨W.heap.size, 2, none⟩ = some (.slice (some ⟨g, o, none⟩) N nc) ∧ Wx.cell? ⟨W.heap.size + 1, 0, none⟩ = some (.int .i64 14) ∧ Wx.cell? ⟨W.heap.size + 1, 3, none⟩ = some (.string (str s)) ∧ Wx.cell? ⟨W.heap.size + 1, 4, none⟩ = some (.int .i64 to_) ∧ Wx.cell? ⟨W.heap.size + 1, 5, none⟩ = some (.slice (some ⟨kg, ko, none⟩) 2 kc) ∧ Wx.cell? ⟨kg, ko, none⟩ = some (.int .i64 (k0 : Nat)) ∧ Wx.cell? ⟨kg, ko + 1, none⟩ = some (.int .i64 (k1 : Nat)) ∧ W.heap.size < Wx.heap.size ∧ W.heap.size + 1 < Wx.heap.size ∧ kg < Wx.heap.size)
    (first | exact ⟨p0, p1, p2, p3, p4, p5, p6, p7, p8, pl1, pl2, pl3⟩ | exact HS.out _ J2 | exact HS.out _ J1)
    (first
      | (go_at_call 62; (with_reducible refine Calls.mono (HK0.out _ ?hw) ?_); (case hw => first | exact HB.out.trans (J0.mono HB.out.size) | exact HB.out.trans (J0.drew.mono HB.out.size)); rintro e v1 ⟨rfl, b1⟩; have J1 : Below W2.heap.size W2 v1 := by first | exact J0.trans (b1.mono J0.size) | exact J0.drew.trans (b1.mono J0.size))
      | (go_at_call 62; (with_reducible refine Calls.mono (HK1.out _ ?hw) ?_); (case hw => first | exact HB.out.trans (J1.mono HB.out.size) | exact HB.out.trans (J1.drew.mono HB.out.size)); rintro e v2 ⟨rfl, b2⟩; have J2 : Below W2.heap.size W2 v2 := by first | exact J1.trans (b2.mono J1.size) | exact J1.drew.trans (b2.mono J1.size)))
  all_goals
    have H1 := Lib.hid (HBW.out.trans (J2.mono HBW.out.size))
    clear J0 J1 J2
    go_wp2_with fail
    go_ret
    exact ⟨rfl, H1.out⟩

set_option maxHeartbeats 600000 in
set_option maxRecDepth 100000 in
theorem pwhile_any {i k0 k1 : Nat} {h : Hd} {t0 t1 : Tx} (hi : i < N) (hN : N ≤ 4000) (ho : h.op = 16) (hn : NdW B nA i h [k0, k1]) (hs : h.s.length ≤ 24) (ht0 : t0 ≠ []) (hl0 : byt t0 ≤ 1000000) (hk0 : PxE B gA fA nA gn gc fn fc N nc k0 1 t0) (ht1 : t1 ≠ []) (hl1 : byt t1 ≤ 1000000) (hk1 : PxS B gA fA nA gn gc fn fc N nc k1 t1) :
    PxS B gA fA nA gn gc fn fc N nc i (wWhile :: [40] :: (t0 ++ [41] :: t1)) := by
  intro W hW
  have e0 : wl false (wWhile :: [40] :: (t0 ++ [41] :: t1)) = ((([119, 104, 105, 108, 101, 32, 40, 32] ++ wl false t0) ++ [32, 41, 32]) ++ wl false t1) := by
    simp [wl_cons, wl_app, wl_one, ht0, ht1, wWhile]
  rw [e0]
  have hb0 := wl_byt t0 false
  have hb1 := wl_byt t1 false
  have hadd1 := fun W : World => run_string_add_sum (P := Tryz.prog) W (str ([119, 104, 105, 108, 101, 32, 40, 32])) (str (wl false t0)) (by rw [str_size, str_size]; simp; omega)
  have hadd2 := fun W : World => run_string_add_sum (P := Tryz.prog) W (str (([119, 104, 105, 108, 101, 32, 40, 32]) ++ wl false t0)) (str ([32, 41, 32])) (by rw [str_size, str_size]; simp; omega)
  have hadd3 := fun W : World => run_string_add_sum (P := Tryz.prog) W (str ((([119, 104, 105, 108, 101, 32, 40, 32]) ++ wl false t0) ++ [32, 41, 32])) (str (wl false t1)) (by rw [str_size, str_size]; simp; omega)
  simp only [str_append] at hadd1 hadd2 hadd3
  unfold PxE at hk0
  have HK0 := Lib.hid hk0
  unfold PxS at hk1
  have HK1 := Lib.hid hk1
  have HW := Lib.hid hW
  obtain ⟨g, o, A, kc, rfl, hg, h1, h2, h3, h4⟩ := hn.below hW
  obtain ⟨kg, ko, rfl, hkg, hkc0, hkc1⟩ : ∃ g o, A = some ⟨g, o, none⟩ ∧ g < W.heap.size ∧ W.cell? ⟨g, o, none⟩ = some (.int .i64 (k0 : Nat)) ∧ W.cell? ⟨g, o + 1, none⟩ = some (.int .i64 (k1 : Nat)) := by
    rcases h3 with h9 | ⟨g, o, e, hg, hc⟩
    · cases h9
    · exact ⟨g, o, e, hg, hc 0 k0 rfl, hc 1 k1 rfl⟩
  have y0 := h4 0 _ rfl; have y1 := h4 1 _ rfl; have y2 := h4 2 _ rfl; have y3 := h4 3 _ rfl; have y4 := h4 4 _ rfl; have y5 := h4 5 _ rfl; have y6 := h4 6 _ rfl; have y7 := h4 7 _ rfl
  rw [ho] at y0
  obtain ⟨op, p, n, s, to_, ty⟩ := h
  simp only at y0 y1 y2 y3 y4 y5 y6 y7 hadd1 hadd2 hadd3 ⊢
  generalize wl false t0 = T0 at *
  generalize wl false t1 = T1 at *
  generalize [119, 104, 105, 108, 101, 32, 40, 32] ++ T0 = u1 at *
  generalize u1 ++ [32, 41, 32] = u2 at *
  generalize u2 ++ T1 = u3 at *
  clear hn h4 h3 hW e0 ho hs hk0 hb0 hl0 ht0 hk1 hb1 hl1 ht1
  simp only [List.length_cons, List.length_nil, Nat.zero_add, Nat.add_zero, Nat.reduceAdd] at y0 y5 h1
  go_enter Tryz.func35, Tryz.ntmps35
  go_upto_region 2 with (fail)
  have b1 : Blk ((W.alloc (.cells #[.slice gA gn gc, .slice fA fn fc, .slice (some ⟨g, o, none⟩) N nc] tPg)).alloc (.cells #[.int .i64 16, .int .i64 p, .int .i64 n, .string (str s), .int .i64 to_, .slice (some ⟨kg, ko, none⟩) 2 kc, .int .i64 ty, .int .i64 0] tN)) W.heap.size tPg #[.slice gA gn gc, .slice fA fn fc, .slice (some ⟨g, o, none⟩) N nc] := (Blk.new W tPg _).alloc _
  have b2 := Blk.new (W.alloc (.cells #[.slice gA gn gc, .slice fA fn fc, .slice (some ⟨g, o, none⟩) N nc] tPg)) tN #[.int .i64 16, .int .i64 p, .int .i64 n, .string (str s), .int .i64 to_, .slice (some ⟨kg, ko, none⟩) 2 kc, .int .i64 ty, .int .i64 0]
  have e2 : (W.alloc (.cells #[.slice gA gn gc, .slice fA fn fc, .slice (some ⟨g, o, none⟩) N nc] tPg)).heap.size = W.heap.size + 1 := by simp
  rw [e2] at b2
  have hb : Below W.heap.size W ((W.alloc (.cells #[.slice gA gn gc, .slice fA fn fc, .slice (some ⟨g, o, none⟩) N nc] tPg)).alloc (.cells #[.int .i64 16, .int .i64 p, .int .i64 n, .string (str s), .int .i64 to_, .slice (some ⟨kg, ko, none⟩) 2 kc, .int .i64 ty, .int .i64 0] tN)) := ((Below.refl _ _).alloc (Nat.le_refl _) _).alloc (by simp) _
  clear e2
  generalize ((W.alloc (.cells #[.slice gA gn gc, .slice fA fn fc, .slice (some ⟨g, o, none⟩) N nc] tPg)).alloc (.cells #[.int .i64 16, .int .i64 p, .int .i64 n, .string (str s), .int .i64 to_, .slice (some ⟨kg, ko, none⟩) 2 kc, .int .i64 ty, .int .i64 0] tN)) = W2 at *
  have p0 : W2.cell? ⟨W.heap.size, 0, none⟩ = some (.slice gA gn gc) := b1.cell 0
  have p1 : W2.cell? ⟨W.heap.size, 1, none⟩ = some (.slice fA fn fc) := b1.cell 1
  have p2 : W2.cell? ⟨W.heap.size, 2, none⟩ = some (.slice (some ⟨g, o, none⟩) N nc) := b1.cell 2
  have p3 : W2.cell? ⟨W.heap.size + 1, 0, none⟩ = some (.int .i64 16) := b2.cell 0
  have p4 : W2.cell? ⟨W.heap.size + 1, 3, none⟩ = some (.string (str s)) := b2.cell 3
  have p5 : W2.cell? ⟨W.heap.size + 1, 4, none⟩ = some (.int .i64 to_) := b2.cell 4
  have p6 : W2.cell? ⟨W.heap.size + 1, 5, none⟩ = some (.slice (some ⟨kg, ko, none⟩) 2 kc) := b2.cell 5
  have p7 : W2.cell? ⟨kg, ko, none⟩ = some (.int .i64 (k0 : Nat)) := (hb.cell (p := ⟨kg, ko, none⟩) hkg).trans hkc0
  have p8 : W2.cell? ⟨kg, ko + 1, none⟩ = some (.int .i64 (k1 : Nat)) := (hb.cell (p := ⟨kg, ko + 1, none⟩) hkg).trans hkc1
  have pl1 := b1.lt
  have pl2 := b2.lt
  have pl3 : kg < W2.heap.size := by omega
  have HS : Hid (∀ Wx, Below W2.heap.size W2 Wx → Wx.cell? ⟨W.heap.size, 0, none⟩ = some (.slice gA gn gc) ∧ Wx.cell? ⟨W.heap.size, 1, none⟩ = some (.slice fA fn fc) ∧ Wx.cell? ⟨W.heap.size, 2, none⟩ = some (.slice (some ⟨g, o, none⟩) N nc) ∧ Wx.cell? ⟨W.heap.size + 1, 0, none⟩ = some (.int .i64 16) ∧ Wx.cell? ⟨W.heap.size + 1, 3, none⟩ = some (.string (str s)) ∧ Wx.cell? ⟨W.heap.size + 1, 4, none⟩ = some (.int .i64 to_) ∧ Wx.cell? ⟨W.heap.size + 1, 5, none⟩ = some (.slice (some ⟨kg, ko, none⟩) 2 kc) ∧ Wx.cell? ⟨kg, ko, none⟩ = some (.int .i64 (k0 : Nat)) ∧ Wx.cell? ⟨kg, ko + 1, none⟩ = some (.int .i64 (k1 : Nat)) ∧ W.heap.size < Wx.heap.size ∧ W.heap.size + 1 < Wx.heap.size ∧ kg < Wx.heap.size) := Lib.hid fun Wx h => by
    have hz := h.size
    exact ⟨(h.cell (p := ⟨W.heap.size, 0, none⟩) pl1).trans p0, (h.cell (p := ⟨W.heap.size, 1, none⟩) pl1).trans p1, (h.cell (p := ⟨W.heap.size, 2, none⟩) pl1).trans p2, (h.cell (p := ⟨W.heap.size + 1, 0, none⟩) pl2).trans p3, (h.cell (p := ⟨W.heap.size + 1, 3, none⟩) pl2).trans p4, (h.cell (p := ⟨W.heap.size + 1, 4, none⟩) pl2).trans p5, (h.cell (p := ⟨W.heap.size + 1, 5, none⟩) pl2).trans p6, (h.cell (p := ⟨kg, ko, none⟩) pl3).trans p7, (h.cell (p := ⟨kg, ko + 1, none⟩) pl3).trans p8, by omega, by omega, by omega⟩
  have HB := Lib.hid (HW.out.trans (hb.mono HW.out.size))
  have HBW := Lib.hid hb
  have J0 : Below W2.heap.size W2 W2 := Below.refl _ _
  clear hb b1 b2 y0 y1 y2 y3 y4 y5 y6 y7 hkg hkc0 hkc1 hg
  go_upto_region 22 with (fail)
  go_region_held3 (fun Wx => Wx.cell? ⟨W.heap.size, 0, none⟩ = some (.slice gA gn gc) ∧ Wx.cell? ⟨W.heap.size, 1, none⟩ = some (.slice fA fn fc) ∧ Wx.cell? ⟨W.heap.size, 2, none⟩ = some (.slice (some ⟨g, o, none⟩) N nc) ∧ Wx.cell? ⟨W.heap.size + 1, 0, none⟩ = some (.int .i64 16) ∧ Wx.cell? ⟨W.heap.size + 1, 3, none⟩ = some (.string (str s)) ∧ Wx.cell? ⟨W.heap.size + 1, 4, none⟩ = some (.int .i64 to_) ∧ Wx.cell? ⟨W.heap.size + 1, 5, none⟩ = some (.slice (some ⟨kg, ko, none⟩) 2 kc) ∧ Wx.cell? ⟨kg, ko, none⟩ = some (.int .i64 (k0 : Nat)) ∧ Wx.cell? ⟨kg, ko + 1, none⟩ = some (.int .i64 (k1 : Nat)) ∧ W.heap.size < Wx.heap.size ∧ W.heap.size + 1 < Wx.heap.size ∧ kg < Wx.heap.size)
    (first | exact ⟨p0, p1, p2, p3, p4, p5, p6, p7, p8, pl1, pl2, pl3⟩ | exact HS.out _ J2 | exact HS.out _ J1)
    (first
      | (go_at_call 62; (with_reducible refine Calls.mono (HK0.out _ ?hw) ?_); (case hw => first | exact HB.out.trans (J0.mono HB.out.size) | exact HB.out.trans (J0.drew.mono HB.out.size)); rintro e v1 ⟨rfl, b1⟩; have J1 : Below W2.heap.size W2 v1 := by first | exact J0.trans (b1.mono J0.size) | exact J0.drew.trans (b1.mono J0.size))
      | (go_at_call 35; (with_reducible refine Calls.mono (HK1.out _ ?hw) ?_); (case hw => first | exact HB.out.trans (J1.mono HB.out.size) | exact HB.out.trans (J1.drew.mono HB.out.size)); rintro e v2 ⟨rfl, b2⟩; have J2 : Below W2.heap.size W2 v2 := by first | exact J1.trans (b2.mono J1.size) | exact J1.drew.trans (b2.mono J1.size)))
  all_goals
    have H1 := Lib.hid (HBW.out.trans (J2.mono HBW.out.size))
    clear J0 J1 J2
    go_wp2_with fail
    go_ret
    exact ⟨rfl, H1.out⟩

set_option maxHeartbeats 600000 in
set_option maxRecDepth 100000 in
theorem plabel_any {i k0 : Nat} {h : Hd} {t0 : Tx} (hi : i < N) (hN : N ≤ 4000) (ho : h.op = 18) (hn : NdW B nA i h [k0]) (hs : h.s.length ≤ 24) (ht0 : t0 ≠ []) (hl0 : byt t0 ≤ 1000000) (hk0 : PxS B gA fA nA gn gc fn fc N nc k0 t0) :
    PxS B gA fA nA gn gc fn fc N nc i (h.s :: [58] :: t0) := by
  intro W hW
  have e0 : wl false (h.s :: [58] :: t0) = ((h.s ++ [32, 58, 32]) ++ wl false t0) := by
    simp [wl_cons, wl_app, wl_one, ht0]
  rw [e0]
  have hb0 := wl_byt t0 false
  have hadd1 := fun W : World => run_string_add_sum (P := Tryz.prog) W (str (h.s)) (str ([32, 58, 32])) (by rw [str_size, str_size]; simp; omega)
  have hadd2 := fun W : World => run_string_add_sum (P := Tryz.prog) W (str ((h.s) ++ [32, 58, 32])) (str (wl false t0)) (by rw [str_size, str_size]; simp; omega)
  simp only [str_append] at hadd1 hadd2
  unfold PxS at hk0
  have HK0 := Lib.hid hk0
  have HW := Lib.hid hW
  obtain ⟨g, o, A, kc, rfl, hg, h1, h2, h3, h4⟩ := hn.below hW
  obtain ⟨kg, ko, rfl, hkg, hkc0⟩ : ∃ g o, A = some ⟨g, o, none⟩ ∧ g < W.heap.size ∧ W.cell? ⟨g, o, none⟩ = some (.int .i64 (k0 : Nat)) := by
    rcases h3 with h9 | ⟨g, o, e, hg, hc⟩
    · cases h9
    · exact ⟨g, o, e, hg, hc 0 k0 rfl⟩
  have y0 := h4 0 _ rfl; have y1 := h4 1 _ rfl; have y2 := h4 2 _ rfl; have y3 := h4 3 _ rfl; have y4 := h4 4 _ rfl; have y5 := h4 5 _ rfl; have y6 := h4 6 _ rfl; have y7 := h4 7 _ rfl
  rw [ho] at y0
  obtain ⟨op, p, n, s, to_, ty⟩ := h
  simp only at y0 y1 y2 y3 y4 y5 y6 y7 hadd1 hadd2 ⊢
  generalize wl false t0 = T0 at *
  generalize s ++ [32, 58, 32] = u1 at *
  generalize u1 ++ T0 = u2 at *
  clear hn h4 h3 hW e0 ho hs hk0 hb0 hl0 ht0
  simp only [List.length_cons, List.length_nil, Nat.zero_add, Nat.add_zero, Nat.reduceAdd] at y0 y5 h1
  go_enter Tryz.func35, Tryz.ntmps35
  go_upto_region 2 with (fail)
  have b1 : Blk ((W.alloc (.cells #[.slice gA gn gc, .slice fA fn fc, .slice (some ⟨g, o, none⟩) N nc] tPg)).alloc (.cells #[.int .i64 18, .int .i64 p, .int .i64 n, .string (str s), .int .i64 to_, .slice (some ⟨kg, ko, none⟩) 1 kc, .int .i64 ty, .int .i64 0] tN)) W.heap.size tPg #[.slice gA gn gc, .slice fA fn fc, .slice (some ⟨g, o, none⟩) N nc] := (Blk.new W tPg _).alloc _
  have b2 := Blk.new (W.alloc (.cells #[.slice gA gn gc, .slice fA fn fc, .slice (some ⟨g, o, none⟩) N nc] tPg)) tN #[.int .i64 18, .int .i64 p, .int .i64 n, .string (str s), .int .i64 to_, .slice (some ⟨kg, ko, none⟩) 1 kc, .int .i64 ty, .int .i64 0]
  have e2 : (W.alloc (.cells #[.slice gA gn gc, .slice fA fn fc, .slice (some ⟨g, o, none⟩) N nc] tPg)).heap.size = W.heap.size + 1 := by simp
  rw [e2] at b2
  have hb : Below W.heap.size W ((W.alloc (.cells #[.slice gA gn gc, .slice fA fn fc, .slice (some ⟨g, o, none⟩) N nc] tPg)).alloc (.cells #[.int .i64 18, .int .i64 p, .int .i64 n, .string (str s), .int .i64 to_, .slice (some ⟨kg, ko, none⟩) 1 kc, .int .i64 ty, .int .i64 0] tN)) := ((Below.refl _ _).alloc (Nat.le_refl _) _).alloc (by simp) _
  clear e2
  generalize ((W.alloc (.cells #[.slice gA gn gc, .slice fA fn fc, .slice (some ⟨g, o, none⟩) N nc] tPg)).alloc (.cells #[.int .i64 18, .int .i64 p, .int .i64 n, .string (str s), .int .i64 to_, .slice (some ⟨kg, ko, none⟩) 1 kc, .int .i64 ty, .int .i64 0] tN)) = W2 at *
  have p0 : W2.cell? ⟨W.heap.size, 0, none⟩ = some (.slice gA gn gc) := b1.cell 0
  have p1 : W2.cell? ⟨W.heap.size, 1, none⟩ = some (.slice fA fn fc) := b1.cell 1
  have p2 : W2.cell? ⟨W.heap.size, 2, none⟩ = some (.slice (some ⟨g, o, none⟩) N nc) := b1.cell 2
  have p3 : W2.cell? ⟨W.heap.size + 1, 0, none⟩ = some (.int .i64 18) := b2.cell 0
  have p4 : W2.cell? ⟨W.heap.size + 1, 3, none⟩ = some (.string (str s)) := b2.cell 3
  have p5 : W2.cell? ⟨W.heap.size + 1, 4, none⟩ = some (.int .i64 to_) := b2.cell 4
  have p6 : W2.cell? ⟨W.heap.size + 1, 5, none⟩ = some (.slice (some ⟨kg, ko, none⟩) 1 kc) := b2.cell 5
  have p7 : W2.cell? ⟨kg, ko, none⟩ = some (.int .i64 (k0 : Nat)) := (hb.cell (p := ⟨kg, ko, none⟩) hkg).trans hkc0
  have pl1 := b1.lt
  have pl2 := b2.lt
  have pl3 : kg < W2.heap.size := by omega
  have HS : Hid (∀ Wx, Below W2.heap.size W2 Wx → Wx.cell? ⟨W.heap.size, 0, none⟩ = some (.slice gA gn gc) ∧ Wx.cell? ⟨W.heap.size, 1, none⟩ = some (.slice fA fn fc) ∧ Wx.cell? ⟨W.heap.size, 2, none⟩ = some (.slice (some ⟨g, o, none⟩) N nc) ∧ Wx.cell? ⟨W.heap.size + 1, 0, none⟩ = some (.int .i64 18) ∧ Wx.cell? ⟨W.heap.size + 1, 3, none⟩ = some (.string (str s)) ∧ Wx.cell? ⟨W.heap.size + 1, 4, none⟩ = some (.int .i64 to_) ∧ Wx.cell? ⟨W.heap.size + 1, 5, none⟩ = some (.slice (some ⟨kg, ko, none⟩) 1 kc) ∧ Wx.cell? ⟨kg, ko, none⟩ = some (.int .i64 (k0 : Nat)) ∧ W.heap.size < Wx.heap.size ∧ W.heap.size + 1 < Wx.heap.size ∧ kg < Wx.heap.size) := Lib.hid fun Wx h => by
    have hz := h.size
    exact ⟨(h.cell (p := ⟨W.heap.size, 0, none⟩) pl1).trans p0, (h.cell (p := ⟨W.heap.size, 1, none⟩) pl1).trans p1, (h.cell (p := ⟨W.heap.size, 2, none⟩) pl1).trans p2, (h.cell (p := ⟨W.heap.size + 1, 0, none⟩) pl2).trans p3, (h.cell (p := ⟨W.heap.size + 1, 3, none⟩) pl2).trans p4, (h.cell (p := ⟨W.heap.size + 1, 4, none⟩) pl2).trans p5, (h.cell (p := ⟨W.heap.size + 1, 5, none⟩) pl2).trans p6, (h.cell (p := ⟨kg, ko, none⟩) pl3).trans p7, by omega, by omega, by omega⟩
  have HB := Lib.hid (HW.out.trans (hb.mono HW.out.size))
  have HBW := Lib.hid hb
  have J0 : Below W2.heap.size W2 W2 := Below.refl _ _
  clear hb b1 b2 y0 y1 y2 y3 y4 y5 y6 y7 hkg hkc0 hg
  go_upto_region 26 with (fail)
  go_region_held3 (fun Wx => Wx.cell? ⟨W.heap.size, 0, none⟩ = some (.slice gA gn gc) ∧ Wx.cell? ⟨W.heap.size, 1, none⟩ = some (.slice fA fn fc) ∧ Wx.cell? ⟨W.heap.size, 2, none⟩ = some (.slice (some ⟨g, o, none⟩) N nc) ∧ Wx.cell? ⟨W.heap.size + 1, 0, none⟩ = some (.int .i64 18) ∧ Wx.cell? ⟨W.heap.size + 1, 3, none⟩ = some (.string (str s)) ∧ Wx.cell? ⟨W.heap.size + 1, 4, none⟩ = some (.int .i64 to_) ∧ Wx.cell? ⟨W.heap.size + 1, 5, none⟩ = some (.slice (some ⟨kg, ko, none⟩) 1 kc) ∧ Wx.cell? ⟨kg, ko, none⟩ = some (.int .i64 (k0 : Nat)) ∧ W.heap.size < Wx.heap.size ∧ W.heap.size + 1 < Wx.heap.size ∧ kg < Wx.heap.size)
    (first | exact ⟨p0, p1, p2, p3, p4, p5, p6, p7, pl1, pl2, pl3⟩ | exact HS.out _ J1)
    (first
      | (go_at_call 35; (with_reducible refine Calls.mono (HK0.out _ ?hw) ?_); (case hw => first | exact HB.out.trans (J0.mono HB.out.size) | exact HB.out.trans (J0.drew.mono HB.out.size)); rintro e v1 ⟨rfl, b1⟩; have J1 : Below W2.heap.size W2 v1 := by first | exact J0.trans (b1.mono J0.size) | exact J0.drew.trans (b1.mono J0.size)))
  all_goals
    have H1 := Lib.hid (HBW.out.trans (J1.mono HBW.out.size))
    clear J0 J1
    go_wp2_with fail
    go_ret
    exact ⟨rfl, H1.out⟩

set_option maxHeartbeats 600000 in
set_option maxRecDepth 100000 in
theorem pret_any {i k0 : Nat} {h : Hd} {t0 : Tx} (hi : i < N) (hN : N ≤ 4000) (ho : h.op = 19) (hn : NdW B nA i h [k0]) (hs : h.s.length ≤ 24) (ht0 : t0 ≠ []) (hl0 : byt t0 ≤ 1000000) (hk0 : PxE B gA fA nA gn gc fn fc N nc k0 1 t0) :
    PxS B gA fA nA gn gc fn fc N nc i (wReturn :: (t0 ++ [[59]])) := by
  intro W hW
  have e0 : wl false (wReturn :: (t0 ++ [[59]])) = (([114, 101, 116, 117, 114, 110, 32] ++ wl false t0) ++ [32, 59]) := by
    simp [wl_cons, wl_app, wl_one, ht0, wReturn]
  rw [e0]
  have hb0 := wl_byt t0 false
  have hadd1 := fun W : World => run_string_add_sum (P := Tryz.prog) W (str ([114, 101, 116, 117, 114, 110, 32])) (str (wl false t0)) (by rw [str_size, str_size]; simp; omega)
  have hadd2 := fun W : World => run_string_add_sum (P := Tryz.prog) W (str (([114, 101, 116, 117, 114, 110, 32]) ++ wl false t0)) (str ([32, 59])) (by rw [str_size, str_size]; simp; omega)
  simp only [str_append] at hadd1 hadd2
  unfold PxE at hk0
  have HK0 := Lib.hid hk0
  have HW := Lib.hid hW
  obtain ⟨g, o, A, kc, rfl, hg, h1, h2, h3, h4⟩ := hn.below hW
  obtain ⟨kg, ko, rfl, hkg, hkc0⟩ : ∃ g o, A = some ⟨g, o, none⟩ ∧ g < W.heap.size ∧ W.cell? ⟨g, o, none⟩ = some (.int .i64 (k0 : Nat)) := by
    rcases h3 with h9 | ⟨g, o, e, hg, hc⟩
    · cases h9
    · exact ⟨g, o, e, hg, hc 0 k0 rfl⟩
  have y0 := h4 0 _ rfl; have y1 := h4 1 _ rfl; have y2 := h4 2 _ rfl; have y3 := h4 3 _ rfl; have y4 := h4 4 _ rfl; have y5 := h4 5 _ rfl; have y6 := h4 6 _ rfl; have y7 := h4 7 _ rfl
  rw [ho] at y0
  obtain ⟨op, p, n, s, to_, ty⟩ := h
  simp only at y0 y1 y2 y3 y4 y5 y6 y7 hadd1 hadd2 ⊢
  generalize wl false t0 = T0 at *
  generalize [114, 101, 116, 117, 114, 110, 32] ++ T0 = u1 at *
  generalize u1 ++ [32, 59] = u2 at *
  clear hn h4 h3 hW e0 ho hs hk0 hb0 hl0 ht0
  simp only [List.length_cons, List.length_nil, Nat.zero_add, Nat.add_zero, Nat.reduceAdd] at y0 y5 h1
  go_enter Tryz.func35, Tryz.ntmps35
  go_upto_region 2 with (fail)
  have b1 : Blk ((W.alloc (.cells #[.slice gA gn gc, .slice fA fn fc, .slice (some ⟨g, o, none⟩) N nc] tPg)).alloc (.cells #[.int .i64 19, .int .i64 p, .int .i64 n, .string (str s), .int .i64 to_, .slice (some ⟨kg, ko, none⟩) 1 kc, .int .i64 ty, .int .i64 0] tN)) W.heap.size tPg #[.slice gA gn gc, .slice fA fn fc, .slice (some ⟨g, o, none⟩) N nc] := (Blk.new W tPg _).alloc _
  have b2 := Blk.new (W.alloc (.cells #[.slice gA gn gc, .slice fA fn fc, .slice (some ⟨g, o, none⟩) N nc] tPg)) tN #[.int .i64 19, .int .i64 p, .int .i64 n, .string (str s), .int .i64 to_, .slice (some ⟨kg, ko, none⟩) 1 kc, .int .i64 ty, .int .i64 0]
  have e2 : (W.alloc (.cells #[.slice gA gn gc, .slice fA fn fc, .slice (some ⟨g, o, none⟩) N nc] tPg)).heap.size = W.heap.size + 1 := by simp
  rw [e2] at b2
  have hb : Below W.heap.size W ((W.alloc (.cells #[.slice gA gn gc, .slice fA fn fc, .slice (some ⟨g, o, none⟩) N nc] tPg)).alloc (.cells #[.int .i64 19, .int .i64 p, .int .i64 n, .string (str s), .int .i64 to_, .slice (some ⟨kg, ko, none⟩) 1 kc, .int .i64 ty, .int .i64 0] tN)) := ((Below.refl _ _).alloc (Nat.le_refl _) _).alloc (by simp) _
  clear e2
  generalize ((W.alloc (.cells #[.slice gA gn gc, .slice fA fn fc, .slice (some ⟨g, o, none⟩) N nc] tPg)).alloc (.cells #[.int .i64 19, .int .i64 p, .int .i64 n, .string (str s), .int .i64 to_, .slice (some ⟨kg, ko, none⟩) 1 kc, .int .i64 ty, .int .i64 0] tN)) = W2 at *
  have p0 : W2.cell? ⟨W.heap.size, 0, none⟩ = some (.slice gA gn gc) := b1.cell 0
  have p1 : W2.cell? ⟨W.heap.size, 1, none⟩ = some (.slice fA fn fc) := b1.cell 1
  have p2 : W2.cell? ⟨W.heap.size, 2, none⟩ = some (.slice (some ⟨g, o, none⟩) N nc) := b1.cell 2
  have p3 : W2.cell? ⟨W.heap.size + 1, 0, none⟩ = some (.int .i64 19) := b2.cell 0
  have p4 : W2.cell? ⟨W.heap.size + 1, 3, none⟩ = some (.string (str s)) := b2.cell 3
  have p5 : W2.cell? ⟨W.heap.size + 1, 4, none⟩ = some (.int .i64 to_) := b2.cell 4
  have p6 : W2.cell? ⟨W.heap.size + 1, 5, none⟩ = some (.slice (some ⟨kg, ko, none⟩) 1 kc) := b2.cell 5
  have p7 : W2.cell? ⟨kg, ko, none⟩ = some (.int .i64 (k0 : Nat)) := (hb.cell (p := ⟨kg, ko, none⟩) hkg).trans hkc0
  have pl1 := b1.lt
  have pl2 := b2.lt
  have pl3 : kg < W2.heap.size := by omega
  have HS : Hid (∀ Wx, Below W2.heap.size W2 Wx → Wx.cell? ⟨W.heap.size, 0, none⟩ = some (.slice gA gn gc) ∧ Wx.cell? ⟨W.heap.size, 1, none⟩ = some (.slice fA fn fc) ∧ Wx.cell? ⟨W.heap.size, 2, none⟩ = some (.slice (some ⟨g, o, none⟩) N nc) ∧ Wx.cell? ⟨W.heap.size + 1, 0, none⟩ = some (.int .i64 19) ∧ Wx.cell? ⟨W.heap.size + 1, 3, none⟩ = some (.string (str s)) ∧ Wx.cell? ⟨W.heap.size + 1, 4, none⟩ = some (.int .i64 to_) ∧ Wx.cell? ⟨W.heap.size + 1, 5, none⟩ = some (.slice (some ⟨kg, ko, none⟩) 1 kc) ∧ Wx.cell? ⟨kg, ko, none⟩ = some (.int .i64 (k0 : Nat)) ∧ W.heap.size < Wx.heap.size ∧ W.heap.size + 1 < Wx.heap.size ∧ kg < Wx.heap.size) := Lib.hid fun Wx h => by
    have hz := h.size
    exact ⟨(h.cell (p := ⟨W.heap.size, 0, none⟩) pl1).trans p0, (h.cell (p := ⟨W.heap.size, 1, none⟩) pl1).trans p1, (h.cell (p := ⟨W.heap.size, 2, none⟩) pl1).trans p2, (h.cell (p := ⟨W.heap.size + 1, 0, none⟩) pl2).trans p3, (h.cell (p := ⟨W.heap.size + 1, 3, none⟩) pl2).trans p4, (h.cell (p := ⟨W.heap.size + 1, 4, none⟩) pl2).trans p5, (h.cell (p := ⟨W.heap.size + 1, 5, none⟩) pl2).trans p6, (h.cell (p := ⟨kg, ko, none⟩) pl3).trans p7, by omega, by omega, by omega⟩
  have HB := Lib.hid (HW.out.trans (hb.mono HW.out.size))
  have HBW := Lib.hid hb
  have J0 : Below W2.heap.size W2 W2 := Below.refl _ _
  clear hb b1 b2 y0 y1 y2 y3 y4 y5 y6 y7 hkg hkc0 hg
  go_upto_region 30 with (fail)
  go_region_held3 (fun Wx => Wx.cell? ⟨W.heap.size, 0, none⟩ = some (.slice gA gn gc) ∧ Wx.cell? ⟨W.heap.size, 1, none⟩ = some (.slice fA fn fc) ∧ Wx.cell? ⟨W.heap.size, 2, none⟩ = some (.slice (some ⟨g, o, none⟩) N nc) ∧ Wx.cell? ⟨W.heap.size + 1, 0, none⟩ = some (.int .i64 19) ∧ Wx.cell? ⟨W.heap.size + 1, 3, none⟩ = some (.string (str s)) ∧ Wx.cell? ⟨W.heap.size + 1, 4, none⟩ = some (.int .i64 to_) ∧ Wx.cell? ⟨W.heap.size + 1, 5, none⟩ = some (.slice (some ⟨kg, ko, none⟩) 1 kc) ∧ Wx.cell? ⟨kg, ko, none⟩ = some (.int .i64 (k0 : Nat)) ∧ W.heap.size < Wx.heap.size ∧ W.heap.size + 1 < Wx.heap.size ∧ kg < Wx.heap.size)
    (first | exact ⟨p0, p1, p2, p3, p4, p5, p6, p7, pl1, pl2, pl3⟩ | exact HS.out _ J1)
    (first
      | (go_at_call 62; (with_reducible refine Calls.mono (HK0.out _ ?hw) ?_); (case hw => first | exact HB.out.trans (J0.mono HB.out.size) | exact HB.out.trans (J0.drew.mono HB.out.size)); rintro e v1 ⟨rfl, b1⟩; have J1 : Below W2.heap.size W2 v1 := by first | exact J0.trans (b1.mono J0.size) | exact J0.drew.trans (b1.mono J0.size)))
  all_goals
    have H1 := Lib.hid (HBW.out.trans (J1.mono HBW.out.size))
    clear J0 J1
    go_wp2_with fail
    go_ret
    exact ⟨rfl, H1.out⟩

set_option maxHeartbeats 600000 in
set_option maxRecDepth 100000 in
theorem pout_any {i k0 : Nat} {h : Hd} {t0 : Tx} (hi : i < N) (hN : N ≤ 4000) (ho : h.op = 20) (hn : NdW B nA i h [k0]) (hs : h.s.length ≤ 24) (ht0 : t0 ≠ []) (hl0 : byt t0 ≤ 1000000) (hk0 : PxE B gA fA nA gn gc fn fc N nc k0 1 t0) :
    PxS B gA fA nA gn gc fn fc N nc i (wOut :: [40] :: (t0 ++ [41] :: [[59]])) := by
  intro W hW
  have e0 : wl false (wOut :: [40] :: (t0 ++ [41] :: [[59]])) = (([111, 117, 116, 32, 40, 32] ++ wl false t0) ++ [32, 41, 32, 59]) := by
    simp [wl_cons, wl_app, wl_one, ht0, wOut]
  rw [e0]
  have hb0 := wl_byt t0 false
  have hadd1 := fun W : World => run_string_add_sum (P := Tryz.prog) W (str ([111, 117, 116, 32, 40, 32])) (str (wl false t0)) (by rw [str_size, str_size]; simp; omega)
  have hadd2 := fun W : World => run_string_add_sum (P := Tryz.prog) W (str (([111, 117, 116, 32, 40, 32]) ++ wl false t0)) (str ([32, 41, 32, 59])) (by rw [str_size, str_size]; simp; omega)
  simp only [str_append] at hadd1 hadd2
  unfold PxE at hk0
  have HK0 := Lib.hid hk0
  have HW := Lib.hid hW
  obtain ⟨g, o, A, kc, rfl, hg, h1, h2, h3, h4⟩ := hn.below hW
  obtain ⟨kg, ko, rfl, hkg, hkc0⟩ : ∃ g o, A = some ⟨g, o, none⟩ ∧ g < W.heap.size ∧ W.cell? ⟨g, o, none⟩ = some (.int .i64 (k0 : Nat)) := by
    rcases h3 with h9 | ⟨g, o, e, hg, hc⟩
    · cases h9
    · exact ⟨g, o, e, hg, hc 0 k0 rfl⟩
  have y0 := h4 0 _ rfl; have y1 := h4 1 _ rfl; have y2 := h4 2 _ rfl; have y3 := h4 3 _ rfl; have y4 := h4 4 _ rfl; have y5 := h4 5 _ rfl; have y6 := h4 6 _ rfl; have y7 := h4 7 _ rfl
  rw [ho] at y0
  obtain ⟨op, p, n, s, to_, ty⟩ := h
  simp only at y0 y1 y2 y3 y4 y5 y6 y7 hadd1 hadd2 ⊢
  generalize wl false t0 = T0 at *
  generalize [111, 117, 116, 32, 40, 32] ++ T0 = u1 at *
  generalize u1 ++ [32, 41, 32, 59] = u2 at *
  clear hn h4 h3 hW e0 ho hs hk0 hb0 hl0 ht0
  simp only [List.length_cons, List.length_nil, Nat.zero_add, Nat.add_zero, Nat.reduceAdd] at y0 y5 h1
  go_enter Tryz.func35, Tryz.ntmps35
  go_upto_region 2 with (fail)
  have b1 : Blk ((W.alloc (.cells #[.slice gA gn gc, .slice fA fn fc, .slice (some ⟨g, o, none⟩) N nc] tPg)).alloc (.cells #[.int .i64 20, .int .i64 p, .int .i64 n, .string (str s), .int .i64 to_, .slice (some ⟨kg, ko, none⟩) 1 kc, .int .i64 ty, .int .i64 0] tN)) W.heap.size tPg #[.slice gA gn gc, .slice fA fn fc, .slice (some ⟨g, o, none⟩) N nc] := (Blk.new W tPg _).alloc _
  have b2 := Blk.new (W.alloc (.cells #[.slice gA gn gc, .slice fA fn fc, .slice (some ⟨g, o, none⟩) N nc] tPg)) tN #[.int .i64 20, .int .i64 p, .int .i64 n, .string (str s), .int .i64 to_, .slice (some ⟨kg, ko, none⟩) 1 kc, .int .i64 ty, .int .i64 0]
  have e2 : (W.alloc (.cells #[.slice gA gn gc, .slice fA fn fc, .slice (some ⟨g, o, none⟩) N nc] tPg)).heap.size = W.heap.size + 1 := by simp
  rw [e2] at b2
  have hb : Below W.heap.size W ((W.alloc (.cells #[.slice gA gn gc, .slice fA fn fc, .slice (some ⟨g, o, none⟩) N nc] tPg)).alloc (.cells #[.int .i64 20, .int .i64 p, .int .i64 n, .string (str s), .int .i64 to_, .slice (some ⟨kg, ko, none⟩) 1 kc, .int .i64 ty, .int .i64 0] tN)) := ((Below.refl _ _).alloc (Nat.le_refl _) _).alloc (by simp) _
  clear e2
  generalize ((W.alloc (.cells #[.slice gA gn gc, .slice fA fn fc, .slice (some ⟨g, o, none⟩) N nc] tPg)).alloc (.cells #[.int .i64 20, .int .i64 p, .int .i64 n, .string (str s), .int .i64 to_, .slice (some ⟨kg, ko, none⟩) 1 kc, .int .i64 ty, .int .i64 0] tN)) = W2 at *
  have p0 : W2.cell? ⟨W.heap.size, 0, none⟩ = some (.slice gA gn gc) := b1.cell 0
  have p1 : W2.cell? ⟨W.heap.size, 1, none⟩ = some (.slice fA fn fc) := b1.cell 1
  have p2 : W2.cell? ⟨W.heap.size, 2, none⟩ = some (.slice (some ⟨g, o, none⟩) N nc) := b1.cell 2
  have p3 : W2.cell? ⟨W.heap.size + 1, 0, none⟩ = some (.int .i64 20) := b2.cell 0
  have p4 : W2.cell? ⟨W.heap.size + 1, 3, none⟩ = some (.string (str s)) := b2.cell 3
  have p5 : W2.cell? ⟨W.heap.size + 1, 4, none⟩ = some (.int .i64 to_) := b2.cell 4
  have p6 : W2.cell? ⟨W.heap.size + 1, 5, none⟩ = some (.slice (some ⟨kg, ko, none⟩) 1 kc) := b2.cell 5
  have p7 : W2.cell? ⟨kg, ko, none⟩ = some (.int .i64 (k0 : Nat)) := (hb.cell (p := ⟨kg, ko, none⟩) hkg).trans hkc0
  have pl1 := b1.lt
  have pl2 := b2.lt
  have pl3 : kg < W2.heap.size := by omega
  have HS : Hid (∀ Wx, Below W2.heap.size W2 Wx → Wx.cell? ⟨W.heap.size, 0, none⟩ = some (.slice gA gn gc) ∧ Wx.cell? ⟨W.heap.size, 1, none⟩ = some (.slice fA fn fc) ∧ Wx.cell? ⟨W.heap.size, 2, none⟩ = some (.slice (some ⟨g, o, none⟩) N nc) ∧ Wx.cell? ⟨W.heap.size + 1, 0, none⟩ = some (.int .i64 20) ∧ Wx.cell? ⟨W.heap.size + 1, 3, none⟩ = some (.string (str s)) ∧ Wx.cell? ⟨W.heap.size + 1, 4, none⟩ = some (.int .i64 to_) ∧ Wx.cell? ⟨W.heap.size + 1, 5, none⟩ = some (.slice (some ⟨kg, ko, none⟩) 1 kc) ∧ Wx.cell? ⟨kg, ko, none⟩ = some (.int .i64 (k0 : Nat)) ∧ W.heap.size < Wx.heap.size ∧ W.heap.size + 1 < Wx.heap.size ∧ kg < Wx.heap.size) := Lib.hid fun Wx h => by
    have hz := h.size
    exact ⟨(h.cell (p := ⟨W.heap.size, 0, none⟩) pl1).trans p0, (h.cell (p := ⟨W.heap.size, 1, none⟩) pl1).trans p1, (h.cell (p := ⟨W.heap.size, 2, none⟩) pl1).trans p2, (h.cell (p := ⟨W.heap.size + 1, 0, none⟩) pl2).trans p3, (h.cell (p := ⟨W.heap.size + 1, 3, none⟩) pl2).trans p4, (h.cell (p := ⟨W.heap.size + 1, 4, none⟩) pl2).trans p5, (h.cell (p := ⟨W.heap.size + 1, 5, none⟩) pl2).trans p6, (h.cell (p := ⟨kg, ko, none⟩) pl3).trans p7, by omega, by omega, by omega⟩
  have HB := Lib.hid (HW.out.trans (hb.mono HW.out.size))
  have HBW := Lib.hid hb
  have J0 : Below W2.heap.size W2 W2 := Below.refl _ _
  clear hb b1 b2 y0 y1 y2 y3 y4 y5 y6 y7 hkg hkc0 hg
  go_upto_region 32 with (fail)
  go_region_held3 (fun Wx => Wx.cell? ⟨W.heap.size, 0, none⟩ = some (.slice gA gn gc) ∧ Wx.cell? ⟨W.heap.size, 1, none⟩ = some (.slice fA fn fc) ∧ Wx.cell? ⟨W.heap.size, 2, none⟩ = some (.slice (some ⟨g, o, none⟩) N nc) ∧ Wx.cell? ⟨W.heap.size + 1, 0, none⟩ = some (.int .i64 20) ∧ Wx.cell? ⟨W.heap.size + 1, 3, none⟩ = some (.string (str s)) ∧ Wx.cell? ⟨W.heap.size + 1, 4, none⟩ = some (.int .i64 to_) ∧ Wx.cell? ⟨W.heap.size + 1, 5, none⟩ = some (.slice (some ⟨kg, ko, none⟩) 1 kc) ∧ Wx.cell? ⟨kg, ko, none⟩ = some (.int .i64 (k0 : Nat)) ∧ W.heap.size < Wx.heap.size ∧ W.heap.size + 1 < Wx.heap.size ∧ kg < Wx.heap.size)
    (first | exact ⟨p0, p1, p2, p3, p4, p5, p6, p7, pl1, pl2, pl3⟩ | exact HS.out _ J1)
    (first
      | (go_at_call 62; (with_reducible refine Calls.mono (HK0.out _ ?hw) ?_); (case hw => first | exact HB.out.trans (J0.mono HB.out.size) | exact HB.out.trans (J0.drew.mono HB.out.size)); rintro e v1 ⟨rfl, b1⟩; have J1 : Below W2.heap.size W2 v1 := by first | exact J0.trans (b1.mono J0.size) | exact J0.drew.trans (b1.mono J0.size)))
  all_goals
    have H1 := Lib.hid (HBW.out.trans (J1.mono HBW.out.size))
    clear J0 J1
    go_wp2_with fail
    go_ret
    exact ⟨rfl, H1.out⟩

set_option maxHeartbeats 600000 in
set_option maxRecDepth 100000 in
theorem psexpr_any {i k0 : Nat} {h : Hd} {t0 : Tx} (hi : i < N) (hN : N ≤ 4000) (ho : h.op = 21) (hn : NdW B nA i h [k0]) (hs : h.s.length ≤ 24) (ht0 : t0 ≠ []) (hl0 : byt t0 ≤ 1000000) (hk0 : PxE B gA fA nA gn gc fn fc N nc k0 1 t0) :
    PxS B gA fA nA gn gc fn fc N nc i (t0 ++ [[59]]) := by
  intro W hW
  have e0 : wl false (t0 ++ [[59]]) = (wl false t0 ++ [32, 59]) := by
    simp [wl_cons, wl_app, wl_one, ht0]
  rw [e0]
  have hb0 := wl_byt t0 false
  have hadd1 := fun W : World => run_string_add_sum (P := Tryz.prog) W (str (wl false t0)) (str ([32, 59])) (by rw [str_size, str_size]; simp; omega)
  simp only [str_append] at hadd1
  unfold PxE at hk0
  have HK0 := Lib.hid hk0
  have HW := Lib.hid hW
  obtain ⟨g, o, A, kc, rfl, hg, h1, h2, h3, h4⟩ := hn.below hW
  obtain ⟨kg, ko, rfl, hkg, hkc0⟩ : ∃ g o, A = some ⟨g, o, none⟩ ∧ g < W.heap.size ∧ W.cell? ⟨g, o, none⟩ = some (.int .i64 (k0 : Nat)) := by
    rcases h3 with h9 | ⟨g, o, e, hg, hc⟩
    · cases h9
    · exact ⟨g, o, e, hg, hc 0 k0 rfl⟩
  have y0 := h4 0 _ rfl; have y1 := h4 1 _ rfl; have y2 := h4 2 _ rfl; have y3 := h4 3 _ rfl; have y4 := h4 4 _ rfl; have y5 := h4 5 _ rfl; have y6 := h4 6 _ rfl; have y7 := h4 7 _ rfl
  rw [ho] at y0
  obtain ⟨op, p, n, s, to_, ty⟩ := h
  simp only at y0 y1 y2 y3 y4 y5 y6 y7 hadd1 ⊢
  generalize wl false t0 = T0 at *
  generalize T0 ++ [32, 59] = u1 at *
  clear hn h4 h3 hW e0 ho hs hk0 hb0 hl0 ht0
  simp only [List.length_cons, List.length_nil, Nat.zero_add, Nat.add_zero, Nat.reduceAdd] at y0 y5 h1
  go_enter Tryz.func35, Tryz.ntmps35
  go_upto_region 2 with (fail)
  have b1 : Blk ((W.alloc (.cells #[.slice gA gn gc, .slice fA fn fc, .slice (some ⟨g, o, none⟩) N nc] tPg)).alloc (.cells #[.int .i64 21, .int .i64 p, .int .i64 n, .string (str s), .int .i64 to_, .slice (some ⟨kg, ko, none⟩) 1 kc, .int .i64 ty, .int .i64 0] tN)) W.heap.size tPg #[.slice gA gn gc, .slice fA fn fc, .slice (some ⟨g, o, none⟩) N nc] := (Blk.new W tPg _).alloc _
  have b2 := Blk.new (W.alloc (.cells #[.slice gA gn gc, .slice fA fn fc, .slice (some ⟨g, o, none⟩) N nc] tPg)) tN #[.int .i64 21, .int .i64 p, .int .i64 n, .string (str s), .int .i64 to_, .slice (some ⟨kg, ko, none⟩) 1 kc, .int .i64 ty, .int .i64 0]
  have e2 : (W.alloc (.cells #[.slice gA gn gc, .slice fA fn fc, .slice (some ⟨g, o, none⟩) N nc] tPg)).heap.size = W.heap.size + 1 := by simp
  rw [e2] at b2
  have hb : Below W.heap.size W ((W.alloc (.cells #[.slice gA gn gc, .slice fA fn fc, .slice (some ⟨g, o, none⟩) N nc] tPg)).alloc (.cells #[.int .i64 21, .int .i64 p, .int .i64 n, .string (str s), .int .i64 to_, .slice (some ⟨kg, ko, none⟩) 1 kc, .int .i64 ty, .int .i64 0] tN)) := ((Below.refl _ _).alloc (Nat.le_refl _) _).alloc (by simp) _
  clear e2
  generalize ((W.alloc (.cells #[.slice gA gn gc, .slice fA fn fc, .slice (some ⟨g, o, none⟩) N nc] tPg)).alloc (.cells #[.int .i64 21, .int .i64 p, .int .i64 n, .string (str s), .int .i64 to_, .slice (some ⟨kg, ko, none⟩) 1 kc, .int .i64 ty, .int .i64 0] tN)) = W2 at *
  have p0 : W2.cell? ⟨W.heap.size, 0, none⟩ = some (.slice gA gn gc) := b1.cell 0
  have p1 : W2.cell? ⟨W.heap.size, 1, none⟩ = some (.slice fA fn fc) := b1.cell 1
  have p2 : W2.cell? ⟨W.heap.size, 2, none⟩ = some (.slice (some ⟨g, o, none⟩) N nc) := b1.cell 2
  have p3 : W2.cell? ⟨W.heap.size + 1, 0, none⟩ = some (.int .i64 21) := b2.cell 0
  have p4 : W2.cell? ⟨W.heap.size + 1, 3, none⟩ = some (.string (str s)) := b2.cell 3
  have p5 : W2.cell? ⟨W.heap.size + 1, 4, none⟩ = some (.int .i64 to_) := b2.cell 4
  have p6 : W2.cell? ⟨W.heap.size + 1, 5, none⟩ = some (.slice (some ⟨kg, ko, none⟩) 1 kc) := b2.cell 5
  have p7 : W2.cell? ⟨kg, ko, none⟩ = some (.int .i64 (k0 : Nat)) := (hb.cell (p := ⟨kg, ko, none⟩) hkg).trans hkc0
  have pl1 := b1.lt
  have pl2 := b2.lt
  have pl3 : kg < W2.heap.size := by omega
  have HS : Hid (∀ Wx, Below W2.heap.size W2 Wx → Wx.cell? ⟨W.heap.size, 0, none⟩ = some (.slice gA gn gc) ∧ Wx.cell? ⟨W.heap.size, 1, none⟩ = some (.slice fA fn fc) ∧ Wx.cell? ⟨W.heap.size, 2, none⟩ = some (.slice (some ⟨g, o, none⟩) N nc) ∧ Wx.cell? ⟨W.heap.size + 1, 0, none⟩ = some (.int .i64 21) ∧ Wx.cell? ⟨W.heap.size + 1, 3, none⟩ = some (.string (str s)) ∧ Wx.cell? ⟨W.heap.size + 1, 4, none⟩ = some (.int .i64 to_) ∧ Wx.cell? ⟨W.heap.size + 1, 5, none⟩ = some (.slice (some ⟨kg, ko, none⟩) 1 kc) ∧ Wx.cell? ⟨kg, ko, none⟩ = some (.int .i64 (k0 : Nat)) ∧ W.heap.size < Wx.heap.size ∧ W.heap.size + 1 < Wx.heap.size ∧ kg < Wx.heap.size) := Lib.hid fun Wx h => by
    have hz := h.size
    exact ⟨(h.cell (p := ⟨W.heap.size, 0, none⟩) pl1).trans p0, (h.cell (p := ⟨W.heap.size, 1, none⟩) pl1).trans p1, (h.cell (p := ⟨W.heap.size, 2, none⟩) pl1).trans p2, (h.cell (p := ⟨W.heap.size + 1, 0, none⟩) pl2).trans p3, (h.cell (p := ⟨W.heap.size + 1, 3, none⟩) pl2).trans p4, (h.cell (p := ⟨W.heap.size + 1, 4, none⟩) pl2).trans p5, (h.cell (p := ⟨W.heap.size + 1, 5, none⟩) pl2).trans p6, (h.cell (p := ⟨kg, ko, none⟩) pl3).trans p7, by omega, by omega, by omega⟩
  have HB := Lib.hid (HW.out.trans (hb.mono HW.out.size))
  have HBW := Lib.hid hb
  have J0 : Below W2.heap.size W2 W2 := Below.refl _ _
  clear hb b1 b2 y0 y1 y2 y3 y4 y5 y6 y7 hkg hkc0 hg
  go_upto_region 33 with (fail)
  go_region_held3 (fun Wx => Wx.cell? ⟨W.heap.size, 0, none⟩ = some (.slice gA gn gc) ∧ Wx.cell? ⟨W.heap.size, 1, none⟩ = some (.slice fA fn fc) ∧ Wx.cell? ⟨W.heap.size, 2, none⟩ = some (.slice (some ⟨g, o, none⟩) N nc) ∧ Wx.cell? ⟨W.heap.size + 1, 0, none⟩ = some (.int .i64 21) ∧ Wx.cell? ⟨W.heap.size + 1, 3, none⟩ = some (.string (str s)) ∧ Wx.cell? ⟨W.heap.size + 1, 4, none⟩ = some (.int .i64 to_) ∧ Wx.cell? ⟨W.heap.size + 1, 5, none⟩ = some (.slice (some ⟨kg, ko, none⟩) 1 kc) ∧ Wx.cell? ⟨kg, ko, none⟩ = some (.int .i64 (k0 : Nat)) ∧ W.heap.size < Wx.heap.size ∧ W.heap.size + 1 < Wx.heap.size ∧ kg < Wx.heap.size)
    (first | exact ⟨p0, p1, p2, p3, p4, p5, p6, p7, pl1, pl2, pl3⟩ | exact HS.out _ J1)
    (first
      | (go_at_call 62; (with_reducible refine Calls.mono (HK0.out _ ?hw) ?_); (case hw => first | exact HB.out.trans (J0.mono HB.out.size) | exact HB.out.trans (J0.drew.mono HB.out.size)); rintro e v1 ⟨rfl, b1⟩; have J1 : Below W2.heap.size W2 v1 := by first | exact J0.trans (b1.mono J0.size) | exact J0.drew.trans (b1.mono J0.size)))
  all_goals
    have H1 := Lib.hid (HBW.out.trans (J1.mono HBW.out.size))
    clear J0 J1
    go_wp2_with fail
    go_ret
    exact ⟨rfl, H1.out⟩

end
end Go.Proofs.YtlbjjpfhkgagiaaGreatDoor
/-! Pvd -/
namespace Go.Proofs.YtlbjjpfhkgagiaaGreatDoor
open Go.RowKit
set_option linter.unusedVariables false
set_option linter.unusedSimpArgs false

section
variable {B : World} {gA fA nA : Option Addr} {gn gc fn fc N nc : Nat}
set_option maxHeartbeats 600000 in
set_option maxRecDepth 100000 in
theorem pname_any {i : Nat} {lv : Int} {h : Hd} (hi : i < N) (hN : N ≤ 4000) (ho : h.op = 2) (hn : NdW B nA i h []) : PxE B gA fA nA gn gc fn fc N nc i lv [h.s] := by
  intro W hW
  rw [wl_one]
  have HW := Lib.hid hW
  obtain ⟨g, o, A, kc, rfl, hg, h1, h2, h3, h4⟩ := hn.below hW
  have y0 := h4 0 _ rfl; have y1 := h4 1 _ rfl; have y2 := h4 2 _ rfl; have y3 := h4 3 _ rfl; have y4 := h4 4 _ rfl; have y5 := h4 5 _ rfl; have y6 := h4 6 _ rfl; have y7 := h4 7 _ rfl
  rw [ho] at y0
  simp only [List.length_nil, Nat.add_zero] at y0 y5 h1
  obtain ⟨op, p, n, s, to_, ty⟩ := h
  simp only at y0 y1 y2 y3 y4 y5 y6 y7 ⊢
  clear hn h4 h3 hW ho
  go_enter Tryz.func62, Tryz.ntmps62
  go_wp2_with fail
  go_ret
  exact ⟨rfl, ((Below.refl _ W).alloc (Nat.le_refl _) _).alloc (by simp) _⟩
set_option maxHeartbeats 600000 in
set_option maxRecDepth 100000 in
theorem pin_any {i : Nat} {lv : Int} {h : Hd} (hi : i < N) (hN : N ≤ 4000) (ho : h.op = 8) (hn : NdW B nA i h []) : PxE B gA fA nA gn gc fn fc N nc i lv [wIn, [40], [41]] := by
  intro W hW
  have e0 : wl false [wIn, [40], [41]] = [105, 110, 32, 40, 32, 41] := by decide
  rw [e0]
  have HW := Lib.hid hW
  obtain ⟨g, o, A, kc, rfl, hg, h1, h2, h3, h4⟩ := hn.below hW
  have y0 := h4 0 _ rfl; have y1 := h4 1 _ rfl; have y2 := h4 2 _ rfl; have y3 := h4 3 _ rfl; have y4 := h4 4 _ rfl; have y5 := h4 5 _ rfl; have y6 := h4 6 _ rfl; have y7 := h4 7 _ rfl
  rw [ho] at y0
  simp only [List.length_nil, Nat.add_zero] at y0 y5 h1
  obtain ⟨op, p, n, s, to_, ty⟩ := h
  simp only at y0 y1 y2 y3 y4 y5 y6 y7 ⊢
  clear hn h4 h3 hW ho e0
  go_enter Tryz.func62, Tryz.ntmps62
  go_wp2_with fail
  go_ret
  exact ⟨rfl, ((Below.refl _ W).alloc (Nat.le_refl _) _).alloc (by simp) _⟩
set_option maxHeartbeats 600000 in
set_option maxRecDepth 100000 in
theorem pnum_any {i : Nat} {lv : Int} {h : Hd} (hi : i < N) (hN : N ≤ 4000) (ho : h.op = 1) (hn : NdW B nA i h []) (h0 : 0 ≤ h.n) (h9 : h.n ≤ 9223372036854775807) (hty : h.ty = 1 ∨ h.ty = 2) : PxE B gA fA nA gn gc fn fc N nc i lv [digL h] := by
  intro W hW
  rw [wl_one]
  have HW := Lib.hid hW
  obtain ⟨g, o, A, kc, rfl, hg, h1, h2, h3, h4⟩ := hn.below hW
  have y0 := h4 0 _ rfl; have y1 := h4 1 _ rfl; have y2 := h4 2 _ rfl; have y3 := h4 3 _ rfl; have y4 := h4 4 _ rfl; have y5 := h4 5 _ rfl; have y6 := h4 6 _ rfl; have y7 := h4 7 _ rfl
  rw [ho] at y0
  simp only [List.length_nil, Nat.add_zero] at y0 y5 h1
  obtain ⟨op, p, n, s, to_, ty⟩ := h
  simp only at y0 y1 y2 y3 y4 y5 y6 y7 h0 h9 hty ⊢
  obtain ⟨m, rfl⟩ := Int.eq_ofNat_of_zero_le h0
  have hm : m ≤ 9223372036854775807 := by omega
  have hd := dec_len20 hm
  have HD := Lib.hid (fun W => pdigits_any m hm W)
  have hadd1 := fun W : World => run_string_add_sum (P := Tryz.prog) W (str (Lib.decDigits m)) (str [76]) (by rw [str_size, str_size]; simp; omega)
  simp only [str_append] at hadd1
  have e0 : ∀ x, digL ⟨op, p, (m : Int), s, to_, x⟩ = Lib.decDigits m ++ if x = 2 then [76] else [] := fun x => by
    rw [digL, Lib.itoa, if_neg (by simp), Int.toNat_natCast]
  rw [e0]
  generalize Lib.decDigits m = D at *
  generalize hu : D ++ [76] = u1 at *
  have HU := Lib.hid hu
  clear hn h4 h3 hW ho e0 hd h0 h9 hm hu
  rcases hty with rfl | rfl
  · rw [if_neg (by decide), List.append_nil]
    go_enter Tryz.func62, Tryz.ntmps62
    go_wp2_with fail
    refine (HD.out _).mono ?_
    rintro e w1 ⟨rfl, hb⟩
    have HB := Lib.hid ((((Below.refl _ W).alloc (Nat.le_refl _) _).alloc (by simp) _).trans (hb.mono (by simp; omega)))
    clear hb
    go_wp2_with fail
    go_ret
    exact ⟨rfl, HB.out⟩
  · rw [if_pos rfl, HU.out]
    go_enter Tryz.func62, Tryz.ntmps62
    go_wp2_with fail
    refine (HD.out _).mono ?_
    rintro e w1 ⟨rfl, hb⟩
    have HB := Lib.hid ((((Below.refl _ W).alloc (Nat.le_refl _) _).alloc (by simp) _).trans (hb.mono (by simp; omega)))
    clear hb
    go_wp2_with fail
    go_ret
    exact ⟨rfl, HB.out⟩
set_option maxHeartbeats 600000 in
set_option maxRecDepth 100000 in
theorem pgoto_any {i : Nat} {h : Hd} (hi : i < N) (hN : N ≤ 4000) (ho : h.op = 17) (hn : NdW B nA i h []) (hs : h.s.length ≤ 24) : PxS B gA fA nA gn gc fn fc N nc i [wGoto, h.s, [59]] := by
  intro W hW
  have e0 : wl false [wGoto, h.s, [59]] = ([103, 111, 116, 111, 32] ++ h.s) ++ [32, 59] := by simp [wl, wGoto]
  rw [e0]
  have hadd1 := fun W : World => run_string_add_sum (P := Tryz.prog) W (str [103, 111, 116, 111, 32]) (str h.s) (by rw [str_size, str_size]; simp; omega)
  have hadd2 := fun W : World => run_string_add_sum (P := Tryz.prog) W (str ([103, 111, 116, 111, 32] ++ h.s)) (str [32, 59]) (by rw [str_size, str_size]; simp; omega)
  simp only [str_append] at hadd1 hadd2
  have HW := Lib.hid hW
  obtain ⟨g, o, A, kc, rfl, hg, h1, h2, h3, h4⟩ := hn.below hW
  have y0 := h4 0 _ rfl; have y1 := h4 1 _ rfl; have y2 := h4 2 _ rfl; have y3 := h4 3 _ rfl; have y4 := h4 4 _ rfl; have y5 := h4 5 _ rfl; have y6 := h4 6 _ rfl; have y7 := h4 7 _ rfl
  rw [ho] at y0
  simp only [List.length_nil, Nat.add_zero] at y0 y5 h1
  obtain ⟨op, p, n, s, to_, ty⟩ := h
  simp only at y0 y1 y2 y3 y4 y5 y6 y7 hadd1 hadd2 ⊢
  generalize [103, 111, 116, 111, 32] ++ s = u1 at *
  generalize u1 ++ [32, 59] = u2 at *
  clear hn h4 h3 hW ho e0 hs
  go_enter Tryz.func35, Tryz.ntmps35
  go_wp2_with fail
  go_ret
  exact ⟨rfl, ((Below.refl _ W).alloc (Nat.le_refl _) _).alloc (by simp) _⟩
set_option maxHeartbeats 600000 in
set_option maxRecDepth 100000 in
theorem pret0_any {i : Nat} {h : Hd} (hi : i < N) (hN : N ≤ 4000) (ho : h.op = 19) (hn : NdW B nA i h []) : PxS B gA fA nA gn gc fn fc N nc i [wReturn, [59]] := by
  intro W hW
  have e0 : wl false [wReturn, [59]] = [114, 101, 116, 117, 114, 110, 32, 59] := by decide
  rw [e0]
  have HW := Lib.hid hW
  obtain ⟨g, o, A, kc, rfl, hg, h1, h2, h3, h4⟩ := hn.below hW
  have y0 := h4 0 _ rfl; have y1 := h4 1 _ rfl; have y2 := h4 2 _ rfl; have y3 := h4 3 _ rfl; have y4 := h4 4 _ rfl; have y5 := h4 5 _ rfl; have y6 := h4 6 _ rfl; have y7 := h4 7 _ rfl
  rw [ho] at y0
  simp only [List.length_nil, Nat.add_zero] at y0 y5 h1
  obtain ⟨op, p, n, s, to_, ty⟩ := h
  simp only at y0 y1 y2 y3 y4 y5 y6 y7 ⊢
  clear hn h4 h3 hW ho e0
  go_enter Tryz.func35, Tryz.ntmps35
  go_wp2_with fail
  go_ret
  exact ⟨rfl, ((Below.refl _ W).alloc (Nat.le_refl _) _).alloc (by simp) _⟩
end
end Go.Proofs.YtlbjjpfhkgagiaaGreatDoor
/-! Pve -/
namespace Go.Proofs.YtlbjjpfhkgagiaaGreatDoor
open Go.RowKit
set_option linter.unusedVariables false
set_option linter.unusedSimpArgs false

section
variable {B : World} {gA fA nA : Option Addr} {gn gc fn fc N nc : Nat}

set_option maxHeartbeats 600000 in
set_option maxRecDepth 100000 in
theorem pbin0_any {i k0 k1 : Nat} {lv : Int} {h : Hd} {t0 t1 : Tx} (hi : i < N) (hN : N ≤ 4000) (ho : h.op = 5) (hn : NdW B nA i h [k0, k1]) (hs : h.s.length ≤ 24) (ht0 : t0 ≠ []) (hl0 : byt t0 ≤ 1000000) (hk0 : PxE B gA fA nA gn gc fn fc N nc k0 ((lvl h.s : Nat) : Int) t0) (ht1 : t1 ≠ []) (hl1 : byt t1 ≤ 1000000) (hk1 : PxE B gA fA nA gn gc fn fc N nc k1 (((lvl h.s : Nat) : Int) + 1) t1) (hlt : ¬ ((lvl h.s : Nat) : Int) < lv) :
    PxE B gA fA nA gn gc fn fc N nc i lv (t0 ++ h.s :: t1) := by
  intro W hW
  have e0 : wl false (t0 ++ h.s :: t1) = ((((wl false t0 ++ [32]) ++ h.s) ++ [32]) ++ wl false t1) := by
    simp [wl_cons, wl_app, wl_one, ht0, ht1]
  rw [e0]
  have hb0 := wl_byt t0 false
  have hb1 := wl_byt t1 false
  have hadd1 := fun W : World => run_string_add_sum (P := Tryz.prog) W (str (wl false t0)) (str ([32])) (by rw [str_size, str_size]; simp; omega)
  have hadd2 := fun W : World => run_string_add_sum (P := Tryz.prog) W (str ((wl false t0) ++ [32])) (str (h.s)) (by rw [str_size, str_size]; simp; omega)
  have hadd3 := fun W : World => run_string_add_sum (P := Tryz.prog) W (str (((wl false t0) ++ [32]) ++ h.s)) (str ([32])) (by rw [str_size, str_size]; simp; omega)
  have hadd4 := fun W : World => run_string_add_sum (P := Tryz.prog) W (str ((((wl false t0) ++ [32]) ++ h.s) ++ [32])) (str (wl false t1)) (by rw [str_size, str_size]; simp; omega)
  have hq10 := lvl_le h.s
  have HLV := Lib.hid (fun W => plevel_any (str h.s) h.s (str_list h.s) W)
  simp only [str_append] at hadd1 hadd2 hadd3 hadd4
  unfold PxE at hk0
  have HK0 := Lib.hid hk0
  unfold PxE at hk1
  have HK1 := Lib.hid hk1
  have HW := Lib.hid hW
  obtain ⟨g, o, A, kc, rfl, hg, h1, h2, h3, h4⟩ := hn.below hW
  obtain ⟨kg, ko, rfl, hkg, hkc0, hkc1⟩ : ∃ g o, A = some ⟨g, o, none⟩ ∧ g < W.heap.size ∧ W.cell? ⟨g, o, none⟩ = some (.int .i64 (k0 : Nat)) ∧ W.cell? ⟨g, o + 1, none⟩ = some (.int .i64 (k1 : Nat)) := by
    rcases h3 with h9 | ⟨g, o, e, hg, hc⟩
    · cases h9
    · exact ⟨g, o, e, hg, hc 0 k0 rfl, hc 1 k1 rfl⟩
  have y0 := h4 0 _ rfl; have y1 := h4 1 _ rfl; have y2 := h4 2 _ rfl; have y3 := h4 3 _ rfl; have y4 := h4 4 _ rfl; have y5 := h4 5 _ rfl; have y6 := h4 6 _ rfl; have y7 := h4 7 _ rfl
  rw [ho] at y0
  obtain ⟨op, p, n, s, to_, ty⟩ := h
  simp only at y0 y1 y2 y3 y4 y5 y6 y7 hadd1 hadd2 hadd3 hadd4 HK0 HK1 HLV hq10 hlt ⊢
  generalize wl false t0 = T0 at *
  generalize wl false t1 = T1 at *
  generalize lvl s = q at *
  have hwr : IntKind.i64.wrap ((q : Int) + 1) = (q : Int) + 1 := by rw [IntKind.wrap_i64]; omega
  generalize T0 ++ [32] = u1 at *
  generalize u1 ++ s = u2 at *
  generalize u2 ++ [32] = u3 at *
  generalize u3 ++ T1 = u4 at *
  clear hn h4 h3 hW e0 ho hs hk0 hb0 hl0 ht0 hk1 hb1 hl1 ht1
  simp only [List.length_cons, List.length_nil, Nat.zero_add, Nat.add_zero, Nat.reduceAdd] at y0 y5 h1
  go_enter Tryz.func62, Tryz.ntmps62
  go_upto_region 2 with (fail)
  have b1 : Blk ((W.alloc (.cells #[.slice gA gn gc, .slice fA fn fc, .slice (some ⟨g, o, none⟩) N nc] tPg)).alloc (.cells #[.int .i64 5, .int .i64 p, .int .i64 n, .string (str s), .int .i64 to_, .slice (some ⟨kg, ko, none⟩) 2 kc, .int .i64 ty, .int .i64 0] tN)) W.heap.size tPg #[.slice gA gn gc, .slice fA fn fc, .slice (some ⟨g, o, none⟩) N nc] := (Blk.new W tPg _).alloc _
  have b2 := Blk.new (W.alloc (.cells #[.slice gA gn gc, .slice fA fn fc, .slice (some ⟨g, o, none⟩) N nc] tPg)) tN #[.int .i64 5, .int .i64 p, .int .i64 n, .string (str s), .int .i64 to_, .slice (some ⟨kg, ko, none⟩) 2 kc, .int .i64 ty, .int .i64 0]
  have e2 : (W.alloc (.cells #[.slice gA gn gc, .slice fA fn fc, .slice (some ⟨g, o, none⟩) N nc] tPg)).heap.size = W.heap.size + 1 := by simp
  rw [e2] at b2
  have hb : Below W.heap.size W ((W.alloc (.cells #[.slice gA gn gc, .slice fA fn fc, .slice (some ⟨g, o, none⟩) N nc] tPg)).alloc (.cells #[.int .i64 5, .int .i64 p, .int .i64 n, .string (str s), .int .i64 to_, .slice (some ⟨kg, ko, none⟩) 2 kc, .int .i64 ty, .int .i64 0] tN)) := ((Below.refl _ _).alloc (Nat.le_refl _) _).alloc (by simp) _
  clear e2
  generalize ((W.alloc (.cells #[.slice gA gn gc, .slice fA fn fc, .slice (some ⟨g, o, none⟩) N nc] tPg)).alloc (.cells #[.int .i64 5, .int .i64 p, .int .i64 n, .string (str s), .int .i64 to_, .slice (some ⟨kg, ko, none⟩) 2 kc, .int .i64 ty, .int .i64 0] tN)) = W2 at *
  have p0 : W2.cell? ⟨W.heap.size, 0, none⟩ = some (.slice gA gn gc) := b1.cell 0
  have p1 : W2.cell? ⟨W.heap.size, 1, none⟩ = some (.slice fA fn fc) := b1.cell 1
  have p2 : W2.cell? ⟨W.heap.size, 2, none⟩ = some (.slice (some ⟨g, o, none⟩) N nc) := b1.cell 2
  have p3 : W2.cell? ⟨W.heap.size + 1, 0, none⟩ = some (.int .i64 5) := b2.cell 0
  have p4 : W2.cell? ⟨W.heap.size + 1, 3, none⟩ = some (.string (str s)) := b2.cell 3
  have p5 : W2.cell? ⟨W.heap.size + 1, 4, none⟩ = some (.int .i64 to_) := b2.cell 4
  have p6 : W2.cell? ⟨W.heap.size + 1, 5, none⟩ = some (.slice (some ⟨kg, ko, none⟩) 2 kc) := b2.cell 5
  have p7 : W2.cell? ⟨kg, ko, none⟩ = some (.int .i64 (k0 : Nat)) := (hb.cell (p := ⟨kg, ko, none⟩) hkg).trans hkc0
  have p8 : W2.cell? ⟨kg, ko + 1, none⟩ = some (.int .i64 (k1 : Nat)) := (hb.cell (p := ⟨kg, ko + 1, none⟩) hkg).trans hkc1
  have pl1 := b1.lt
  have pl2 := b2.lt
  have pl3 : kg < W2.heap.size := by omega
  have HS : Hid (∀ Wx, Below W2.heap.size W2 Wx → Wx.cell? ⟨W.heap.size, 0, none⟩ = some (.slice gA gn gc) ∧ Wx.cell? ⟨W.heap.size, 1, none⟩ = some (.slice fA fn fc) ∧ Wx.cell? ⟨W.heap.size, 2, none⟩ = some (.slice (some ⟨g, o, none⟩) N nc) ∧ Wx.cell? ⟨W.heap.size + 1, 0, none⟩ = some (.int .i64 5) ∧ Wx.cell? ⟨W.heap.size + 1, 3, none⟩ = some (.string (str s)) ∧ Wx.cell? ⟨W.heap.size + 1, 4, none⟩ = some (.int .i64 to_) ∧ Wx.cell? ⟨W.heap.size + 1, 5, none⟩ = some (.slice (some ⟨kg, ko, none⟩) 2 kc) ∧ Wx.cell? ⟨kg, ko, none⟩ = some (.int .i64 (k0 : Nat)) ∧ Wx.cell? ⟨kg, ko + 1, none⟩ = some (.int .i64 (k1 : Nat)) ∧ W.heap.size < Wx.heap.size ∧ W.heap.size + 1 < Wx.heap.size ∧ kg < Wx.heap.size) := Lib.hid fun Wx h => by
    have hz := h.size
    exact ⟨(h.cell (p := ⟨W.heap.size, 0, none⟩) pl1).trans p0, (h.cell (p := ⟨W.heap.size, 1, none⟩) pl1).trans p1, (h.cell (p := ⟨W.heap.size, 2, none⟩) pl1).trans p2, (h.cell (p := ⟨W.heap.size + 1, 0, none⟩) pl2).trans p3, (h.cell (p := ⟨W.heap.size + 1, 3, none⟩) pl2).trans p4, (h.cell (p := ⟨W.heap.size + 1, 4, none⟩) pl2).trans p5, (h.cell (p := ⟨W.heap.size + 1, 5, none⟩) pl2).trans p6, (h.cell (p := ⟨kg, ko, none⟩) pl3).trans p7, (h.cell (p := ⟨kg, ko + 1, none⟩) pl3).trans p8, by omega, by omega, by omega⟩
  have HB := Lib.hid (HW.out.trans (hb.mono HW.out.size))
  have HBW := Lib.hid hb
  have J0 : Below W2.heap.size W2 W2 := Below.refl _ _
  clear hb b1 b2 y0 y1 y2 y3 y4 y5 y6 y7 hkg hkc0 hkc1 hg
  go_wp2_with fail
  refine (HLV.out _).mono ?_
  rintro e w9 ⟨rfl, rfl⟩
  go_upto_region 20 with (fail)
  go_region_held3 (fun Wx => Wx.cell? ⟨W.heap.size, 0, none⟩ = some (.slice gA gn gc) ∧ Wx.cell? ⟨W.heap.size, 1, none⟩ = some (.slice fA fn fc) ∧ Wx.cell? ⟨W.heap.size, 2, none⟩ = some (.slice (some ⟨g, o, none⟩) N nc) ∧ Wx.cell? ⟨W.heap.size + 1, 0, none⟩ = some (.int .i64 5) ∧ Wx.cell? ⟨W.heap.size + 1, 3, none⟩ = some (.string (str s)) ∧ Wx.cell? ⟨W.heap.size + 1, 4, none⟩ = some (.int .i64 to_) ∧ Wx.cell? ⟨W.heap.size + 1, 5, none⟩ = some (.slice (some ⟨kg, ko, none⟩) 2 kc) ∧ Wx.cell? ⟨kg, ko, none⟩ = some (.int .i64 (k0 : Nat)) ∧ Wx.cell? ⟨kg, ko + 1, none⟩ = some (.int .i64 (k1 : Nat)) ∧ W.heap.size < Wx.heap.size ∧ W.heap.size + 1 < Wx.heap.size ∧ kg < Wx.heap.size)
    (first | exact ⟨p0, p1, p2, p3, p4, p5, p6, p7, p8, pl1, pl2, pl3⟩ | exact HS.out _ J2 | exact HS.out _ J1)
    (first
      | (go_at_call 62; (with_reducible refine Calls.mono (HK0.out _ ?hw) ?_); (case hw => first | exact HB.out.trans (J0.mono HB.out.size) | exact HB.out.trans (J0.drew.mono HB.out.size)); rintro e v1 ⟨rfl, b1⟩; have J1 : Below W2.heap.size W2 v1 := by first | exact J0.trans (b1.mono J0.size) | exact J0.drew.trans (b1.mono J0.size))
      | (go_at_call 62; (with_reducible refine Calls.mono (HK1.out _ ?hw) ?_); (case hw => first | exact HB.out.trans (J1.mono HB.out.size) | exact HB.out.trans (J1.drew.mono HB.out.size)); rintro e v2 ⟨rfl, b2⟩; have J2 : Below W2.heap.size W2 v2 := by first | exact J1.trans (b2.mono J1.size) | exact J1.drew.trans (b2.mono J1.size)))
  all_goals
    have H1 := Lib.hid (HBW.out.trans (J2.mono HBW.out.size))
    clear J0 J1 J2
    go_wp2_with fail
    go_ret
    exact ⟨rfl, H1.out⟩

set_option maxHeartbeats 600000 in
set_option maxRecDepth 100000 in
theorem pbin1_any {i k0 k1 : Nat} {lv : Int} {h : Hd} {t0 t1 : Tx} (hi : i < N) (hN : N ≤ 4000) (ho : h.op = 5) (hn : NdW B nA i h [k0, k1]) (hs : h.s.length ≤ 24) (ht0 : t0 ≠ []) (hl0 : byt t0 ≤ 1000000) (hk0 : PxE B gA fA nA gn gc fn fc N nc k0 ((lvl h.s : Nat) : Int) t0) (ht1 : t1 ≠ []) (hl1 : byt t1 ≤ 1000000) (hk1 : PxE B gA fA nA gn gc fn fc N nc k1 (((lvl h.s : Nat) : Int) + 1) t1) (hlt : ((lvl h.s : Nat) : Int) < lv) :
    PxE B gA fA nA gn gc fn fc N nc i lv ([40] :: (t0 ++ h.s :: (t1 ++ [[41]]))) := by
  intro W hW
  have e0 : wl false ([40] :: (t0 ++ h.s :: (t1 ++ [[41]]))) = ([40, 32] ++ ((((wl false t0 ++ [32]) ++ h.s) ++ [32]) ++ wl false t1)) ++ [32, 41] := by
    simp [wl_cons, wl_app, wl_one, ht0, ht1]
  rw [e0]
  have hb0 := wl_byt t0 false
  have hb1 := wl_byt t1 false
  have hadd1 := fun W : World => run_string_add_sum (P := Tryz.prog) W (str (wl false t0)) (str ([32])) (by rw [str_size, str_size]; simp; omega)
  have hadd2 := fun W : World => run_string_add_sum (P := Tryz.prog) W (str ((wl false t0) ++ [32])) (str (h.s)) (by rw [str_size, str_size]; simp; omega)
  have hadd3 := fun W : World => run_string_add_sum (P := Tryz.prog) W (str (((wl false t0) ++ [32]) ++ h.s)) (str ([32])) (by rw [str_size, str_size]; simp; omega)
  have hadd4 := fun W : World => run_string_add_sum (P := Tryz.prog) W (str ((((wl false t0) ++ [32]) ++ h.s) ++ [32])) (str (wl false t1)) (by rw [str_size, str_size]; simp; omega)
  have hadd5 := fun W : World => run_string_add_sum (P := Tryz.prog) W (str [40, 32]) (str (((((wl false t0) ++ [32]) ++ h.s) ++ [32]) ++ wl false t1)) (by rw [str_size, str_size]; simp; omega)
  have hadd6 := fun W : World => run_string_add_sum (P := Tryz.prog) W (str ([40, 32] ++ (((((wl false t0) ++ [32]) ++ h.s) ++ [32]) ++ wl false t1))) (str [32, 41]) (by rw [str_size, str_size]; simp; omega)
  have hq10 := lvl_le h.s
  have HLV := Lib.hid (fun W => plevel_any (str h.s) h.s (str_list h.s) W)
  simp only [str_append] at hadd1 hadd2 hadd3 hadd4 hadd5 hadd6
  unfold PxE at hk0
  have HK0 := Lib.hid hk0
  unfold PxE at hk1
  have HK1 := Lib.hid hk1
  have HW := Lib.hid hW
  obtain ⟨g, o, A, kc, rfl, hg, h1, h2, h3, h4⟩ := hn.below hW
  obtain ⟨kg, ko, rfl, hkg, hkc0, hkc1⟩ : ∃ g o, A = some ⟨g, o, none⟩ ∧ g < W.heap.size ∧ W.cell? ⟨g, o, none⟩ = some (.int .i64 (k0 : Nat)) ∧ W.cell? ⟨g, o + 1, none⟩ = some (.int .i64 (k1 : Nat)) := by
    rcases h3 with h9 | ⟨g, o, e, hg, hc⟩
    · cases h9
    · exact ⟨g, o, e, hg, hc 0 k0 rfl, hc 1 k1 rfl⟩
  have y0 := h4 0 _ rfl; have y1 := h4 1 _ rfl; have y2 := h4 2 _ rfl; have y3 := h4 3 _ rfl; have y4 := h4 4 _ rfl; have y5 := h4 5 _ rfl; have y6 := h4 6 _ rfl; have y7 := h4 7 _ rfl
  rw [ho] at y0
  obtain ⟨op, p, n, s, to_, ty⟩ := h
  simp only at y0 y1 y2 y3 y4 y5 y6 y7 hadd1 hadd2 hadd3 hadd4 hadd5 hadd6 HK0 HK1 HLV hq10 hlt ⊢
  generalize wl false t0 = T0 at *
  generalize wl false t1 = T1 at *
  generalize lvl s = q at *
  have hwr : IntKind.i64.wrap ((q : Int) + 1) = (q : Int) + 1 := by rw [IntKind.wrap_i64]; omega
  generalize T0 ++ [32] = u1 at *
  generalize u1 ++ s = u2 at *
  generalize u2 ++ [32] = u3 at *
  generalize u3 ++ T1 = u4 at *
  generalize [40, 32] ++ u4 = u5 at *
  generalize u5 ++ [32, 41] = u6 at *
  clear hn h4 h3 hW e0 ho hs hk0 hb0 hl0 ht0 hk1 hb1 hl1 ht1
  simp only [List.length_cons, List.length_nil, Nat.zero_add, Nat.add_zero, Nat.reduceAdd] at y0 y5 h1
  go_enter Tryz.func62, Tryz.ntmps62
  go_upto_region 2 with (fail)
  have b1 : Blk ((W.alloc (.cells #[.slice gA gn gc, .slice fA fn fc, .slice (some ⟨g, o, none⟩) N nc] tPg)).alloc (.cells #[.int .i64 5, .int .i64 p, .int .i64 n, .string (str s), .int .i64 to_, .slice (some ⟨kg, ko, none⟩) 2 kc, .int .i64 ty, .int .i64 0] tN)) W.heap.size tPg #[.slice gA gn gc, .slice fA fn fc, .slice (some ⟨g, o, none⟩) N nc] := (Blk.new W tPg _).alloc _
  have b2 := Blk.new (W.alloc (.cells #[.slice gA gn gc, .slice fA fn fc, .slice (some ⟨g, o, none⟩) N nc] tPg)) tN #[.int .i64 5, .int .i64 p, .int .i64 n, .string (str s), .int .i64 to_, .slice (some ⟨kg, ko, none⟩) 2 kc, .int .i64 ty, .int .i64 0]
  have e2 : (W.alloc (.cells #[.slice gA gn gc, .slice fA fn fc, .slice (some ⟨g, o, none⟩) N nc] tPg)).heap.size = W.heap.size + 1 := by simp
  rw [e2] at b2
  have hb : Below W.heap.size W ((W.alloc (.cells #[.slice gA gn gc, .slice fA fn fc, .slice (some ⟨g, o, none⟩) N nc] tPg)).alloc (.cells #[.int .i64 5, .int .i64 p, .int .i64 n, .string (str s), .int .i64 to_, .slice (some ⟨kg, ko, none⟩) 2 kc, .int .i64 ty, .int .i64 0] tN)) := ((Below.refl _ _).alloc (Nat.le_refl _) _).alloc (by simp) _
  clear e2
  generalize ((W.alloc (.cells #[.slice gA gn gc, .slice fA fn fc, .slice (some ⟨g, o, none⟩) N nc] tPg)).alloc (.cells #[.int .i64 5, .int .i64 p, .int .i64 n, .string (str s), .int .i64 to_, .slice (some ⟨kg, ko, none⟩) 2 kc, .int .i64 ty, .int .i64 0] tN)) = W2 at *
  have p0 : W2.cell? ⟨W.heap.size, 0, none⟩ = some (.slice gA gn gc) := b1.cell 0
  have p1 : W2.cell? ⟨W.heap.size, 1, none⟩ = some (.slice fA fn fc) := b1.cell 1
  have p2 : W2.cell? ⟨W.heap.size, 2, none⟩ = some (.slice (some ⟨g, o, none⟩) N nc) := b1.cell 2
  have p3 : W2.cell? ⟨W.heap.size + 1, 0, none⟩ = some (.int .i64 5) := b2.cell 0
  have p4 : W2.cell? ⟨W.heap.size + 1, 3, none⟩ = some (.string (str s)) := b2.cell 3
  have p5 : W2.cell? ⟨W.heap.size + 1, 4, none⟩ = some (.int .i64 to_) := b2.cell 4
  have p6 : W2.cell? ⟨W.heap.size + 1, 5, none⟩ = some (.slice (some ⟨kg, ko, none⟩) 2 kc) := b2.cell 5
  have p7 : W2.cell? ⟨kg, ko, none⟩ = some (.int .i64 (k0 : Nat)) := (hb.cell (p := ⟨kg, ko, none⟩) hkg).trans hkc0
  have p8 : W2.cell? ⟨kg, ko + 1, none⟩ = some (.int .i64 (k1 : Nat)) := (hb.cell (p := ⟨kg, ko + 1, none⟩) hkg).trans hkc1
  have pl1 := b1.lt
  have pl2 := b2.lt
  have pl3 : kg < W2.heap.size := by omega
  have HS : Hid (∀ Wx, Below W2.heap.size W2 Wx → Wx.cell? ⟨W.heap.size, 0, none⟩ = some (.slice gA gn gc) ∧ Wx.cell? ⟨W.heap.size, 1, none⟩ = some (.slice fA fn fc) ∧ Wx.cell? ⟨W.heap.size, 2, none⟩ = some (.slice (some ⟨g, o, none⟩) N nc) ∧ Wx.cell? ⟨W.heap.size + 1, 0, none⟩ = some (.int .i64 5) ∧ Wx.cell? ⟨W.heap.size + 1, 3, none⟩ = some (.string (str s)) ∧ Wx.cell? ⟨W.heap.size + 1, 4, none⟩ = some (.int .i64 to_) ∧ Wx.cell? ⟨W.heap.size + 1, 5, none⟩ = some (.slice (some ⟨kg, ko, none⟩) 2 kc) ∧ Wx.cell? ⟨kg, ko, none⟩ = some (.int .i64 (k0 : Nat)) ∧ Wx.cell? ⟨kg, ko + 1, none⟩ = some (.int .i64 (k1 : Nat)) ∧ W.heap.size < Wx.heap.size ∧ W.heap.size + 1 < Wx.heap.size ∧ kg < Wx.heap.size) := Lib.hid fun Wx h => by
    have hz := h.size
    exact ⟨(h.cell (p := ⟨W.heap.size, 0, none⟩) pl1).trans p0, (h.cell (p := ⟨W.heap.size, 1, none⟩) pl1).trans p1, (h.cell (p := ⟨W.heap.size, 2, none⟩) pl1).trans p2, (h.cell (p := ⟨W.heap.size + 1, 0, none⟩) pl2).trans p3, (h.cell (p := ⟨W.heap.size + 1, 3, none⟩) pl2).trans p4, (h.cell (p := ⟨W.heap.size + 1, 4, none⟩) pl2).trans p5, (h.cell (p := ⟨W.heap.size + 1, 5, none⟩) pl2).trans p6, (h.cell (p := ⟨kg, ko, none⟩) pl3).trans p7, (h.cell (p := ⟨kg, ko + 1, none⟩) pl3).trans p8, by omega, by omega, by omega⟩
  have HB := Lib.hid (HW.out.trans (hb.mono HW.out.size))
  have HBW := Lib.hid hb
  have J0 : Below W2.heap.size W2 W2 := Below.refl _ _
  clear hb b1 b2 y0 y1 y2 y3 y4 y5 y6 y7 hkg hkc0 hkc1 hg
  go_wp2_with fail
  refine (HLV.out _).mono ?_
  rintro e w9 ⟨rfl, rfl⟩
  go_upto_region 20 with (fail)
  go_region_held3 (fun Wx => Wx.cell? ⟨W.heap.size, 0, none⟩ = some (.slice gA gn gc) ∧ Wx.cell? ⟨W.heap.size, 1, none⟩ = some (.slice fA fn fc) ∧ Wx.cell? ⟨W.heap.size, 2, none⟩ = some (.slice (some ⟨g, o, none⟩) N nc) ∧ Wx.cell? ⟨W.heap.size + 1, 0, none⟩ = some (.int .i64 5) ∧ Wx.cell? ⟨W.heap.size + 1, 3, none⟩ = some (.string (str s)) ∧ Wx.cell? ⟨W.heap.size + 1, 4, none⟩ = some (.int .i64 to_) ∧ Wx.cell? ⟨W.heap.size + 1, 5, none⟩ = some (.slice (some ⟨kg, ko, none⟩) 2 kc) ∧ Wx.cell? ⟨kg, ko, none⟩ = some (.int .i64 (k0 : Nat)) ∧ Wx.cell? ⟨kg, ko + 1, none⟩ = some (.int .i64 (k1 : Nat)) ∧ W.heap.size < Wx.heap.size ∧ W.heap.size + 1 < Wx.heap.size ∧ kg < Wx.heap.size)
    (first | exact ⟨p0, p1, p2, p3, p4, p5, p6, p7, p8, pl1, pl2, pl3⟩ | exact HS.out _ J2 | exact HS.out _ J1)
    (first
      | (go_at_call 62; (with_reducible refine Calls.mono (HK0.out _ ?hw) ?_); (case hw => first | exact HB.out.trans (J0.mono HB.out.size) | exact HB.out.trans (J0.drew.mono HB.out.size)); rintro e v1 ⟨rfl, b1⟩; have J1 : Below W2.heap.size W2 v1 := by first | exact J0.trans (b1.mono J0.size) | exact J0.drew.trans (b1.mono J0.size))
      | (go_at_call 62; (with_reducible refine Calls.mono (HK1.out _ ?hw) ?_); (case hw => first | exact HB.out.trans (J1.mono HB.out.size) | exact HB.out.trans (J1.drew.mono HB.out.size)); rintro e v2 ⟨rfl, b2⟩; have J2 : Below W2.heap.size W2 v2 := by first | exact J1.trans (b2.mono J1.size) | exact J1.drew.trans (b2.mono J1.size)))
  all_goals
    have H1 := Lib.hid (HBW.out.trans (J2.mono HBW.out.size))
    clear J0 J1 J2
    go_wp2_with fail
    go_ret
    exact ⟨rfl, H1.out⟩

end
end Go.Proofs.YtlbjjpfhkgagiaaGreatDoor
/-! Pvf -/
namespace Go.Proofs.YtlbjjpfhkgagiaaGreatDoor
open Go.RowKit
set_option linter.unusedVariables false
set_option linter.unusedSimpArgs false

section
variable {B : World} {gA fA nA : Option Addr} {gn gc fn fc N nc : Nat}

set_option maxHeartbeats 600000 in
set_option maxRecDepth 100000 in
theorem pif2_any {i k0 k1 : Nat} {h : Hd} {t0 t1 : Tx} (hi : i < N) (hN : N ≤ 4000) (ho : h.op = 15) (hn : NdW B nA i h [k0, k1]) (hs : h.s.length ≤ 24) (ht0 : t0 ≠ []) (hl0 : byt t0 ≤ 1000000) (hk0 : PxE B gA fA nA gn gc fn fc N nc k0 1 t0) (ht1 : t1 ≠ []) (hl1 : byt t1 ≤ 1000000) (hk1 : PxS B gA fA nA gn gc fn fc N nc k1 t1) :
    PxS B gA fA nA gn gc fn fc N nc i (wIf :: [40] :: (t0 ++ [41] :: t1)) := by
  intro W hW
  have e0 : wl false (wIf :: [40] :: (t0 ++ [41] :: t1)) = ((([105, 102, 32, 40, 32] ++ wl false t0) ++ [32, 41, 32]) ++ wl false t1) := by
    simp [wl_cons, wl_app, wl_one, ht0, ht1, wIf, wElse]
  rw [e0]
  have hb0 := wl_byt t0 false
  have hb1 := wl_byt t1 false
  have hadd1 := fun W : World => run_string_add_sum (P := Tryz.prog) W (str ([105, 102, 32, 40, 32])) (str (wl false t0)) (by rw [str_size, str_size]; simp; omega)
  have hadd2 := fun W : World => run_string_add_sum (P := Tryz.prog) W (str (([105, 102, 32, 40, 32]) ++ wl false t0)) (str ([32, 41, 32])) (by rw [str_size, str_size]; simp; omega)
  have hadd3 := fun W : World => run_string_add_sum (P := Tryz.prog) W (str ((([105, 102, 32, 40, 32]) ++ wl false t0) ++ [32, 41, 32])) (str (wl false t1)) (by rw [str_size, str_size]; simp; omega)
  simp only [str_append] at hadd1 hadd2 hadd3
  unfold PxE at hk0
  have HK0 := Lib.hid hk0
  unfold PxS at hk1
  have HK1 := Lib.hid hk1
  have HW := Lib.hid hW
  obtain ⟨g, o, A, kc, rfl, hg, h1, h2, h3, h4⟩ := hn.below hW
  obtain ⟨kg, ko, rfl, hkg, hkc0, hkc1⟩ : ∃ g o, A = some ⟨g, o, none⟩ ∧ g < W.heap.size ∧ W.cell? ⟨g, o, none⟩ = some (.int .i64 (k0 : Nat)) ∧ W.cell? ⟨g, o + 1, none⟩ = some (.int .i64 (k1 : Nat)) := by
    rcases h3 with h9 | ⟨g, o, e, hg, hc⟩
    · cases h9
    · exact ⟨g, o, e, hg, hc 0 k0 rfl, hc 1 k1 rfl⟩
  have y0 := h4 0 _ rfl; have y1 := h4 1 _ rfl; have y2 := h4 2 _ rfl; have y3 := h4 3 _ rfl; have y4 := h4 4 _ rfl; have y5 := h4 5 _ rfl; have y6 := h4 6 _ rfl; have y7 := h4 7 _ rfl
  rw [ho] at y0
  obtain ⟨op, p, n, s, to_, ty⟩ := h
  simp only at y0 y1 y2 y3 y4 y5 y6 y7 hadd1 hadd2 hadd3 ⊢
  generalize wl false t0 = T0 at *
  generalize wl false t1 = T1 at *
  generalize [105, 102, 32, 40, 32] ++ T0 = u1 at *
  generalize u1 ++ [32, 41, 32] = u2 at *
  generalize u2 ++ T1 = u3 at *
  clear hn h4 h3 hW e0 ho hs hk0 hb0 hl0 ht0 hk1 hb1 hl1 ht1
  simp only [List.length_cons, List.length_nil, Nat.zero_add, Nat.add_zero, Nat.reduceAdd] at y0 y5 h1
  go_enter Tryz.func35, Tryz.ntmps35
  go_upto_region 2 with (fail)
  have b1 : Blk ((W.alloc (.cells #[.slice gA gn gc, .slice fA fn fc, .slice (some ⟨g, o, none⟩) N nc] tPg)).alloc (.cells #[.int .i64 15, .int .i64 p, .int .i64 n, .string (str s), .int .i64 to_, .slice (some ⟨kg, ko, none⟩) 2 kc, .int .i64 ty, .int .i64 0] tN)) W.heap.size tPg #[.slice gA gn gc, .slice fA fn fc, .slice (some ⟨g, o, none⟩) N nc] := (Blk.new W tPg _).alloc _
  have b2 := Blk.new (W.alloc (.cells #[.slice gA gn gc, .slice fA fn fc, .slice (some ⟨g, o, none⟩) N nc] tPg)) tN #[.int .i64 15, .int .i64 p, .int .i64 n, .string (str s), .int .i64 to_, .slice (some ⟨kg, ko, none⟩) 2 kc, .int .i64 ty, .int .i64 0]
  have e2 : (W.alloc (.cells #[.slice gA gn gc, .slice fA fn fc, .slice (some ⟨g, o, none⟩) N nc] tPg)).heap.size = W.heap.size + 1 := by simp
  rw [e2] at b2
  have hb : Below W.heap.size W ((W.alloc (.cells #[.slice gA gn gc, .slice fA fn fc, .slice (some ⟨g, o, none⟩) N nc] tPg)).alloc (.cells #[.int .i64 15, .int .i64 p, .int .i64 n, .string (str s), .int .i64 to_, .slice (some ⟨kg, ko, none⟩) 2 kc, .int .i64 ty, .int .i64 0] tN)) := ((Below.refl _ _).alloc (Nat.le_refl _) _).alloc (by simp) _
  clear e2
  generalize ((W.alloc (.cells #[.slice gA gn gc, .slice fA fn fc, .slice (some ⟨g, o, none⟩) N nc] tPg)).alloc (.cells #[.int .i64 15, .int .i64 p, .int .i64 n, .string (str s), .int .i64 to_, .slice (some ⟨kg, ko, none⟩) 2 kc, .int .i64 ty, .int .i64 0] tN)) = W2 at *
  have p0 : W2.cell? ⟨W.heap.size, 0, none⟩ = some (.slice gA gn gc) := b1.cell 0
  have p1 : W2.cell? ⟨W.heap.size, 1, none⟩ = some (.slice fA fn fc) := b1.cell 1
  have p2 : W2.cell? ⟨W.heap.size, 2, none⟩ = some (.slice (some ⟨g, o, none⟩) N nc) := b1.cell 2
  have p3 : W2.cell? ⟨W.heap.size + 1, 0, none⟩ = some (.int .i64 15) := b2.cell 0
  have p4 : W2.cell? ⟨W.heap.size + 1, 3, none⟩ = some (.string (str s)) := b2.cell 3
  have p5 : W2.cell? ⟨W.heap.size + 1, 4, none⟩ = some (.int .i64 to_) := b2.cell 4
  have p6 : W2.cell? ⟨W.heap.size + 1, 5, none⟩ = some (.slice (some ⟨kg, ko, none⟩) 2 kc) := b2.cell 5
  have p7 : W2.cell? ⟨kg, ko, none⟩ = some (.int .i64 (k0 : Nat)) := (hb.cell (p := ⟨kg, ko, none⟩) hkg).trans hkc0
  have p8 : W2.cell? ⟨kg, ko + 1, none⟩ = some (.int .i64 (k1 : Nat)) := (hb.cell (p := ⟨kg, ko + 1, none⟩) hkg).trans hkc1
  have pl1 := b1.lt
  have pl2 := b2.lt
  have pl3 : kg < W2.heap.size := by omega
  have HS : Hid (∀ Wx, Below W2.heap.size W2 Wx → Wx.cell? ⟨W.heap.size, 0, none⟩ = some (.slice gA gn gc) ∧ Wx.cell? ⟨W.heap.size, 1, none⟩ = some (.slice fA fn fc) ∧ Wx.cell? ⟨W.heap.size, 2, none⟩ = some (.slice (some ⟨g, o, none⟩) N nc) ∧ Wx.cell? ⟨W.heap.size + 1, 0, none⟩ = some (.int .i64 15) ∧ Wx.cell? ⟨W.heap.size + 1, 3, none⟩ = some (.string (str s)) ∧ Wx.cell? ⟨W.heap.size + 1, 4, none⟩ = some (.int .i64 to_) ∧ Wx.cell? ⟨W.heap.size + 1, 5, none⟩ = some (.slice (some ⟨kg, ko, none⟩) 2 kc) ∧ Wx.cell? ⟨kg, ko, none⟩ = some (.int .i64 (k0 : Nat)) ∧ Wx.cell? ⟨kg, ko + 1, none⟩ = some (.int .i64 (k1 : Nat)) ∧ W.heap.size < Wx.heap.size ∧ W.heap.size + 1 < Wx.heap.size ∧ kg < Wx.heap.size) := Lib.hid fun Wx h => by
    have hz := h.size
    exact ⟨(h.cell (p := ⟨W.heap.size, 0, none⟩) pl1).trans p0, (h.cell (p := ⟨W.heap.size, 1, none⟩) pl1).trans p1, (h.cell (p := ⟨W.heap.size, 2, none⟩) pl1).trans p2, (h.cell (p := ⟨W.heap.size + 1, 0, none⟩) pl2).trans p3, (h.cell (p := ⟨W.heap.size + 1, 3, none⟩) pl2).trans p4, (h.cell (p := ⟨W.heap.size + 1, 4, none⟩) pl2).trans p5, (h.cell (p := ⟨W.heap.size + 1, 5, none⟩) pl2).trans p6, (h.cell (p := ⟨kg, ko, none⟩) pl3).trans p7, (h.cell (p := ⟨kg, ko + 1, none⟩) pl3).trans p8, by omega, by omega, by omega⟩
  have HB := Lib.hid (HW.out.trans (hb.mono HW.out.size))
  have HBW := Lib.hid hb
  have J0 : Below W2.heap.size W2 W2 := Below.refl _ _
  clear hb b1 b2 y0 y1 y2 y3 y4 y5 y6 y7 hkg hkc0 hkc1 hg
  go_upto_region 17 with (fail)
  go_region_held3 (fun Wx => Wx.cell? ⟨W.heap.size, 0, none⟩ = some (.slice gA gn gc) ∧ Wx.cell? ⟨W.heap.size, 1, none⟩ = some (.slice fA fn fc) ∧ Wx.cell? ⟨W.heap.size, 2, none⟩ = some (.slice (some ⟨g, o, none⟩) N nc) ∧ Wx.cell? ⟨W.heap.size + 1, 0, none⟩ = some (.int .i64 15) ∧ Wx.cell? ⟨W.heap.size + 1, 3, none⟩ = some (.string (str s)) ∧ Wx.cell? ⟨W.heap.size + 1, 4, none⟩ = some (.int .i64 to_) ∧ Wx.cell? ⟨W.heap.size + 1, 5, none⟩ = some (.slice (some ⟨kg, ko, none⟩) 2 kc) ∧ Wx.cell? ⟨kg, ko, none⟩ = some (.int .i64 (k0 : Nat)) ∧ Wx.cell? ⟨kg, ko + 1, none⟩ = some (.int .i64 (k1 : Nat)) ∧ W.heap.size < Wx.heap.size ∧ W.heap.size + 1 < Wx.heap.size ∧ kg < Wx.heap.size)
    (first | exact ⟨p0, p1, p2, p3, p4, p5, p6, p7, p8, pl1, pl2, pl3⟩ | exact HS.out _ J2 | exact HS.out _ J1)
    (first
      | (go_at_call 62; (with_reducible refine Calls.mono (HK0.out _ ?hw) ?_); (case hw => first | exact HB.out.trans (J0.mono HB.out.size) | exact HB.out.trans (J0.drew.mono HB.out.size)); rintro e v1 ⟨rfl, b1⟩; have J1 : Below W2.heap.size W2 v1 := by first | exact J0.trans (b1.mono J0.size) | exact J0.drew.trans (b1.mono J0.size))
      | (go_at_call 35; (with_reducible refine Calls.mono (HK1.out _ ?hw) ?_); (case hw => first | exact HB.out.trans (J1.mono HB.out.size) | exact HB.out.trans (J1.drew.mono HB.out.size)); rintro e v2 ⟨rfl, b2⟩; have J2 : Below W2.heap.size W2 v2 := by first | exact J1.trans (b2.mono J1.size) | exact J1.drew.trans (b2.mono J1.size)))
  all_goals
    have H1 := Lib.hid (HBW.out.trans (J2.mono HBW.out.size))
    obtain ⟨q0, q1, q2, q3, q4, q5, q6, q7, q8, q9, q10, q11⟩ := HS.out _ J2
    clear J0 J1 J2
    go_wp2_with fail
    go_ret
    exact ⟨rfl, H1.out⟩

set_option maxHeartbeats 600000 in
set_option maxRecDepth 100000 in
theorem pif3_any {i k0 k1 k2 : Nat} {h : Hd} {t0 t1 t2 : Tx} (hi : i < N) (hN : N ≤ 4000) (ho : h.op = 15) (hn : NdW B nA i h [k0, k1, k2]) (hs : h.s.length ≤ 24) (ht0 : t0 ≠ []) (hl0 : byt t0 ≤ 1000000) (hk0 : PxE B gA fA nA gn gc fn fc N nc k0 1 t0) (ht1 : t1 ≠ []) (hl1 : byt t1 ≤ 1000000) (hk1 : PxS B gA fA nA gn gc fn fc N nc k1 t1) (ht2 : t2 ≠ []) (hl2 : byt t2 ≤ 1000000) (hk2 : PxS B gA fA nA gn gc fn fc N nc k2 t2) :
    PxS B gA fA nA gn gc fn fc N nc i (wIf :: [40] :: (t0 ++ [41] :: (t1 ++ wElse :: t2))) := by
  intro W hW
  have e0 : wl false (wIf :: [40] :: (t0 ++ [41] :: (t1 ++ wElse :: t2))) = ((((([105, 102, 32, 40, 32] ++ wl false t0) ++ [32, 41, 32]) ++ wl false t1) ++ [32, 101, 108, 115, 101, 32]) ++ wl false t2) := by
    simp [wl_cons, wl_app, wl_one, ht0, ht1, ht2, wIf, wElse]
  rw [e0]
  have hb0 := wl_byt t0 false
  have hb1 := wl_byt t1 false
  have hb2 := wl_byt t2 false
  have hadd1 := fun W : World => run_string_add_sum (P := Tryz.prog) W (str ([105, 102, 32, 40, 32])) (str (wl false t0)) (by rw [str_size, str_size]; simp; omega)
  have hadd2 := fun W : World => run_string_add_sum (P := Tryz.prog) W (str (([105, 102, 32, 40, 32]) ++ wl false t0)) (str ([32, 41, 32])) (by rw [str_size, str_size]; simp; omega)
  have hadd3 := fun W : World => run_string_add_sum (P := Tryz.prog) W (str ((([105, 102, 32, 40, 32]) ++ wl false t0) ++ [32, 41, 32])) (str (wl false t1)) (by rw [str_size, str_size]; simp; omega)
  have hadd4 := fun W : World => run_string_add_sum (P := Tryz.prog) W (str (((([105, 102, 32, 40, 32]) ++ wl false t0) ++ [32, 41, 32]) ++ wl false t1)) (str ([32, 101, 108, 115, 101, 32])) (by rw [str_size, str_size]; simp; omega)
  have hadd5 := fun W : World => run_string_add_sum (P := Tryz.prog) W (str ((((([105, 102, 32, 40, 32]) ++ wl false t0) ++ [32, 41, 32]) ++ wl false t1) ++ [32, 101, 108, 115, 101, 32])) (str (wl false t2)) (by rw [str_size, str_size]; simp; omega)
  simp only [str_append] at hadd1 hadd2 hadd3 hadd4 hadd5
  unfold PxE at hk0
  have HK0 := Lib.hid hk0
  unfold PxS at hk1
  have HK1 := Lib.hid hk1
  unfold PxS at hk2
  have HK2 := Lib.hid hk2
  have HW := Lib.hid hW
  obtain ⟨g, o, A, kc, rfl, hg, h1, h2, h3, h4⟩ := hn.below hW
  obtain ⟨kg, ko, rfl, hkg, hkc0, hkc1, hkc2⟩ : ∃ g o, A = some ⟨g, o, none⟩ ∧ g < W.heap.size ∧ W.cell? ⟨g, o, none⟩ = some (.int .i64 (k0 : Nat)) ∧ W.cell? ⟨g, o + 1, none⟩ = some (.int .i64 (k1 : Nat)) ∧ W.cell? ⟨g, o + 2, none⟩ = some (.int .i64 (k2 : Nat)) := by
    rcases h3 with h9 | ⟨g, o, e, hg, hc⟩
    · cases h9
    · exact ⟨g, o, e, hg, hc 0 k0 rfl, hc 1 k1 rfl, hc 2 k2 rfl⟩
  have y0 := h4 0 _ rfl; have y1 := h4 1 _ rfl; have y2 := h4 2 _ rfl; have y3 := h4 3 _ rfl; have y4 := h4 4 _ rfl; have y5 := h4 5 _ rfl; have y6 := h4 6 _ rfl; have y7 := h4 7 _ rfl
  rw [ho] at y0
  obtain ⟨op, p, n, s, to_, ty⟩ := h
  simp only at y0 y1 y2 y3 y4 y5 y6 y7 hadd1 hadd2 hadd3 hadd4 hadd5 ⊢
  generalize wl false t0 = T0 at *
  generalize wl false t1 = T1 at *
  generalize wl false t2 = T2 at *
  generalize [105, 102, 32, 40, 32] ++ T0 = u1 at *
  generalize u1 ++ [32, 41, 32] = u2 at *
  generalize u2 ++ T1 = u3 at *
  generalize u3 ++ [32, 101, 108, 115, 101, 32] = u4 at *
  generalize u4 ++ T2 = u5 at *
  clear hn h4 h3 hW e0 ho hs hk0 hb0 hl0 ht0 hk1 hb1 hl1 ht1 hk2 hb2 hl2 ht2
  simp only [List.length_cons, List.length_nil, Nat.zero_add, Nat.add_zero, Nat.reduceAdd] at y0 y5 h1
  go_enter Tryz.func35, Tryz.ntmps35
  go_upto_region 2 with (fail)
  have b1 : Blk ((W.alloc (.cells #[.slice gA gn gc, .slice fA fn fc, .slice (some ⟨g, o, none⟩) N nc] tPg)).alloc (.cells #[.int .i64 15, .int .i64 p, .int .i64 n, .string (str s), .int .i64 to_, .slice (some ⟨kg, ko, none⟩) 3 kc, .int .i64 ty, .int .i64 0] tN)) W.heap.size tPg #[.slice gA gn gc, .slice fA fn fc, .slice (some ⟨g, o, none⟩) N nc] := (Blk.new W tPg _).alloc _
  have b2 := Blk.new (W.alloc (.cells #[.slice gA gn gc, .slice fA fn fc, .slice (some ⟨g, o, none⟩) N nc] tPg)) tN #[.int .i64 15, .int .i64 p, .int .i64 n, .string (str s), .int .i64 to_, .slice (some ⟨kg, ko, none⟩) 3 kc, .int .i64 ty, .int .i64 0]
  have e2 : (W.alloc (.cells #[.slice gA gn gc, .slice fA fn fc, .slice (some ⟨g, o, none⟩) N nc] tPg)).heap.size = W.heap.size + 1 := by simp
  rw [e2] at b2
  have hb : Below W.heap.size W ((W.alloc (.cells #[.slice gA gn gc, .slice fA fn fc, .slice (some ⟨g, o, none⟩) N nc] tPg)).alloc (.cells #[.int .i64 15, .int .i64 p, .int .i64 n, .string (str s), .int .i64 to_, .slice (some ⟨kg, ko, none⟩) 3 kc, .int .i64 ty, .int .i64 0] tN)) := ((Below.refl _ _).alloc (Nat.le_refl _) _).alloc (by simp) _
  clear e2
  generalize ((W.alloc (.cells #[.slice gA gn gc, .slice fA fn fc, .slice (some ⟨g, o, none⟩) N nc] tPg)).alloc (.cells #[.int .i64 15, .int .i64 p, .int .i64 n, .string (str s), .int .i64 to_, .slice (some ⟨kg, ko, none⟩) 3 kc, .int .i64 ty, .int .i64 0] tN)) = W2 at *
  have p0 : W2.cell? ⟨W.heap.size, 0, none⟩ = some (.slice gA gn gc) := b1.cell 0
  have p1 : W2.cell? ⟨W.heap.size, 1, none⟩ = some (.slice fA fn fc) := b1.cell 1
  have p2 : W2.cell? ⟨W.heap.size, 2, none⟩ = some (.slice (some ⟨g, o, none⟩) N nc) := b1.cell 2
  have p3 : W2.cell? ⟨W.heap.size + 1, 0, none⟩ = some (.int .i64 15) := b2.cell 0
  have p4 : W2.cell? ⟨W.heap.size + 1, 3, none⟩ = some (.string (str s)) := b2.cell 3
  have p5 : W2.cell? ⟨W.heap.size + 1, 4, none⟩ = some (.int .i64 to_) := b2.cell 4
  have p6 : W2.cell? ⟨W.heap.size + 1, 5, none⟩ = some (.slice (some ⟨kg, ko, none⟩) 3 kc) := b2.cell 5
  have p7 : W2.cell? ⟨kg, ko, none⟩ = some (.int .i64 (k0 : Nat)) := (hb.cell (p := ⟨kg, ko, none⟩) hkg).trans hkc0
  have p8 : W2.cell? ⟨kg, ko + 1, none⟩ = some (.int .i64 (k1 : Nat)) := (hb.cell (p := ⟨kg, ko + 1, none⟩) hkg).trans hkc1
  have p9 : W2.cell? ⟨kg, ko + 2, none⟩ = some (.int .i64 (k2 : Nat)) := (hb.cell (p := ⟨kg, ko + 2, none⟩) hkg).trans hkc2
  have pl1 := b1.lt
  have pl2 := b2.lt
  have pl3 : kg < W2.heap.size := by omega
  have HS : Hid (∀ Wx, Below W2.heap.size W2 Wx → Wx.cell? ⟨W.heap.size, 0, none⟩ = some (.slice gA gn gc) ∧ Wx.cell? ⟨W.heap.size, 1, none⟩ = some (.slice fA fn fc) ∧ Wx.cell? ⟨W.heap.size, 2, none⟩ = some (.slice (some ⟨g, o, none⟩) N nc) ∧ Wx.cell? ⟨W.heap.size + 1, 0, none⟩ = some (.int .i64 15) ∧ Wx.cell? ⟨W.heap.size + 1, 3, none⟩ = some (.string (str s)) ∧ Wx.cell? ⟨W.heap.size + 1, 4, none⟩ = some (.int .i64 to_) ∧ Wx.cell? ⟨W.heap.size + 1, 5, none⟩ = some (.slice (some ⟨kg, ko, none⟩) 3 kc) ∧ Wx.cell? ⟨kg, ko, none⟩ = some (.int .i64 (k0 : Nat)) ∧ Wx.cell? ⟨kg, ko + 1, none⟩ = some (.int .i64 (k1 : Nat)) ∧ Wx.cell? ⟨kg, ko + 2, none⟩ = some (.int .i64 (k2 : Nat)) ∧ W.heap.size < Wx.heap.size ∧ W.heap.size + 1 < Wx.heap.size ∧ kg < Wx.heap.size) := Lib.hid fun Wx h => by
    have hz := h.size
    exact ⟨(h.cell (p := ⟨W.heap.size, 0, none⟩) pl1).trans p0, (h.cell (p := ⟨W.heap.size, 1, none⟩) pl1).trans p1, (h.cell (p := ⟨W.heap.size, 2, none⟩) pl1).trans p2, (h.cell (p := ⟨W.heap.size + 1, 0, none⟩) pl2).trans p3, (h.cell (p := ⟨W.heap.size + 1, 3, none⟩) pl2).trans p4, (h.cell (p := ⟨W.heap.size + 1, 4, none⟩) pl2).trans p5, (h.cell (p := ⟨W.heap.size + 1, 5, none⟩) pl2).trans p6, (h.cell (p := ⟨kg, ko, none⟩) pl3).trans p7, (h.cell (p := ⟨kg, ko + 1, none⟩) pl3).trans p8, (h.cell (p := ⟨kg, ko + 2, none⟩) pl3).trans p9, by omega, by omega, by omega⟩
  have HB := Lib.hid (HW.out.trans (hb.mono HW.out.size))
  have HBW := Lib.hid hb
  have J0 : Below W2.heap.size W2 W2 := Below.refl _ _
  clear hb b1 b2 y0 y1 y2 y3 y4 y5 y6 y7 hkg hkc0 hkc1 hkc2 hg
  go_upto_region 17 with (fail)
  go_region_held3 (fun Wx => Wx.cell? ⟨W.heap.size, 0, none⟩ = some (.slice gA gn gc) ∧ Wx.cell? ⟨W.heap.size, 1, none⟩ = some (.slice fA fn fc) ∧ Wx.cell? ⟨W.heap.size, 2, none⟩ = some (.slice (some ⟨g, o, none⟩) N nc) ∧ Wx.cell? ⟨W.heap.size + 1, 0, none⟩ = some (.int .i64 15) ∧ Wx.cell? ⟨W.heap.size + 1, 3, none⟩ = some (.string (str s)) ∧ Wx.cell? ⟨W.heap.size + 1, 4, none⟩ = some (.int .i64 to_) ∧ Wx.cell? ⟨W.heap.size + 1, 5, none⟩ = some (.slice (some ⟨kg, ko, none⟩) 3 kc) ∧ Wx.cell? ⟨kg, ko, none⟩ = some (.int .i64 (k0 : Nat)) ∧ Wx.cell? ⟨kg, ko + 1, none⟩ = some (.int .i64 (k1 : Nat)) ∧ Wx.cell? ⟨kg, ko + 2, none⟩ = some (.int .i64 (k2 : Nat)) ∧ W.heap.size < Wx.heap.size ∧ W.heap.size + 1 < Wx.heap.size ∧ kg < Wx.heap.size)
    (first | exact ⟨p0, p1, p2, p3, p4, p5, p6, p7, p8, p9, pl1, pl2, pl3⟩ | exact HS.out _ J3 | exact HS.out _ J2 | exact HS.out _ J1)
    (first
      | (go_at_call 62; (with_reducible refine Calls.mono (HK0.out _ ?hw) ?_); (case hw => first | exact HB.out.trans (J0.mono HB.out.size) | exact HB.out.trans (J0.drew.mono HB.out.size)); rintro e v1 ⟨rfl, b1⟩; have J1 : Below W2.heap.size W2 v1 := by first | exact J0.trans (b1.mono J0.size) | exact J0.drew.trans (b1.mono J0.size))
      | (go_at_call 35; (with_reducible refine Calls.mono (HK1.out _ ?hw) ?_); (case hw => first | exact HB.out.trans (J1.mono HB.out.size) | exact HB.out.trans (J1.drew.mono HB.out.size)); rintro e v2 ⟨rfl, b2⟩; have J2 : Below W2.heap.size W2 v2 := by first | exact J1.trans (b2.mono J1.size) | exact J1.drew.trans (b2.mono J1.size))
      | (go_at_call 35; (with_reducible refine Calls.mono (HK2.out _ ?hw) ?_); (case hw => first | exact HB.out.trans (J2.mono HB.out.size) | exact HB.out.trans (J2.drew.mono HB.out.size)); rintro e v3 ⟨rfl, b3⟩; have J3 : Below W2.heap.size W2 v3 := by first | exact J2.trans (b3.mono J2.size) | exact J2.drew.trans (b3.mono J2.size)))
  all_goals
    obtain ⟨q0, q1, q2, q3, q4, q5, q6, q7, q8, q9, q10, q11, q12⟩ := HS.out _ J2
    go_upto_region 19 with (fail)
    go_region_held3 (fun Wx => Wx.cell? ⟨W.heap.size, 0, none⟩ = some (.slice gA gn gc) ∧ Wx.cell? ⟨W.heap.size, 1, none⟩ = some (.slice fA fn fc) ∧ Wx.cell? ⟨W.heap.size, 2, none⟩ = some (.slice (some ⟨g, o, none⟩) N nc) ∧ Wx.cell? ⟨W.heap.size + 1, 0, none⟩ = some (.int .i64 15) ∧ Wx.cell? ⟨W.heap.size + 1, 3, none⟩ = some (.string (str s)) ∧ Wx.cell? ⟨W.heap.size + 1, 4, none⟩ = some (.int .i64 to_) ∧ Wx.cell? ⟨W.heap.size + 1, 5, none⟩ = some (.slice (some ⟨kg, ko, none⟩) 3 kc) ∧ Wx.cell? ⟨kg, ko, none⟩ = some (.int .i64 (k0 : Nat)) ∧ Wx.cell? ⟨kg, ko + 1, none⟩ = some (.int .i64 (k1 : Nat)) ∧ Wx.cell? ⟨kg, ko + 2, none⟩ = some (.int .i64 (k2 : Nat)) ∧ W.heap.size < Wx.heap.size ∧ W.heap.size + 1 < Wx.heap.size ∧ kg < Wx.heap.size)
      (first | exact ⟨q0, q1, q2, q3, q4, q5, q6, q7, q8, q9, q10, q11, q12⟩ | exact HS.out _ J3)
      (first
        | (go_at_call 35; (with_reducible refine Calls.mono (HK2.out _ ?hw) ?_); (case hw => first | exact HB.out.trans (J2.mono HB.out.size) | exact HB.out.trans (J2.drew.mono HB.out.size)); rintro e v3 ⟨rfl, b3⟩; have J3 : Below W2.heap.size W2 v3 := by first | exact J2.trans (b3.mono J2.size) | exact J2.drew.trans (b3.mono J2.size)))
    all_goals
      have H1 := Lib.hid (HBW.out.trans (J3.mono HBW.out.size))
      clear J0 J1 J2 J3
      go_wp2_with fail
      go_ret
      exact ⟨rfl, H1.out⟩

end
end Go.Proofs.YtlbjjpfhkgagiaaGreatDoor
/-! Pvg -/
namespace Go.Proofs.YtlbjjpfhkgagiaaGreatDoor
open Go.RowKit
set_option linter.unusedVariables false
set_option linter.unusedSimpArgs false

/-- Expressions with commas between, a blank behind each. -/
def lsT : List Tx → List UInt8
  | [] => []
  | t :: r => wl false t ++ [32] ++ r.flatMap fun t => [44, 32] ++ wl false t ++ [32]
theorem lsT_snoc (l : List Tx) (t : Tx) : lsT (l ++ [t]) = (if l = [] then lsT l else lsT l ++ [44, 32]) ++ wl false t ++ [32] := by
  cases l with
  | nil => simp [lsT]
  | cons a l => simp [lsT]
theorem lsT_len (l : List Tx) : (lsT l).length ≤ (l.map fun t => byt t + 3).sum := by
  have key : ∀ l : List Tx, (l.flatMap fun t => [44, 32] ++ wl false t ++ [32]).length ≤ (l.map fun t => byt t + 3).sum := by
    intro l
    induction l with
    | nil => exact Nat.le_refl _
    | cons t l ih =>
      have := wl_byt t false
      simp only [List.flatMap_cons, List.length_append, List.map_cons, List.sum_cons, List.length_cons, List.length_nil] at *
      omega
  cases l with
  | nil => exact Nat.le_refl _
  | cons t l =>
    have h1 := key l
    have := wl_byt t false
    simp only [lsT, List.length_append, List.map_cons, List.sum_cons, List.length_cons, List.length_nil] at *
    omega
theorem take_sum (l : List Tx) (k : Nat) : ((l.take k).map fun t => byt t + 3).sum ≤ (l.map fun t => byt t + 3).sum := by
  have := congrArg (fun x => (List.map (fun t => byt t + 3) x).sum) (List.take_append_drop k l)
  simp only [List.map_append, List.sum_append] at this
  omega
section
variable {B : World} {gA fA nA : Option Addr} {gn gc fn fc N nc : Nat}
set_option maxHeartbeats 600000 in
set_option maxRecDepth 100000 in
theorem plist_any (ks : List Nat) (ts : List Tx) (n : Nat) (hn : ks.length = n) (hts : ts.length = n) (hsz : (ts.map fun t => byt t + 3).sum ≤ 1000000) (A : Option Addr) (c : Nat) (hnc : n ≤ c) (hcm : c ≤ maxLen) (W : World) (hW : Below B.heap.size B W) (hr : RdI W W.heap.size A ks)
    (hk : ∀ (j k : Nat) (t : Tx), ks[j]? = some k → ts[j]? = some t → PxE B gA fA nA gn gc fn fc N nc k 1 t) (hn4 : n ≤ 4000) :
    Calls Tryz.prog 106 #[.agg #[.slice gA gn gc, .slice fA fn fc, .slice nA N nc], .slice A n c] W fun e w' => e = .returned (.string (str (lsT ts))) ∧ Below W.heap.size W w' := by
  have HK := Lib.hid hk
  have HW := Lib.hid hW
  have HR := Lib.hid (And.intro hr (And.intro hn (And.intro hts hsz)))
  clear hk hW hr hn hts hsz
  have bP := Blk.new W tPg #[.slice gA gn gc, .slice fA fn fc, .slice nA N nc]
  have hb : Below W.heap.size W (W.alloc (.cells #[.slice gA gn gc, .slice fA fn fc, .slice nA N nc] tPg)) := (Below.refl _ _).alloc (Nat.le_refl _) _
  have BP := Lib.hid bP
  have HB := Lib.hid hb
  clear bP hb
  go_enter Tryz.func106, Tryz.ntmps106
  go_wp2_with fail
  go_loopw [5, 6] (fun v5 v wr => ∃ k : Nat, k ≤ n ∧ v = .int .i64 k ∧ v5 = .string (str (lsT (ts.take k))) ∧ Below W.heap.size W wr ∧ Blk wr W.heap.size tPg #[.slice gA gn gc, .slice fA fn fc, .slice nA N nc]) (fun _ v _ => n - (intOf v).toNat)
  case atStart => exact ⟨0, by omega, rfl, rfl, HB.out, BP.out⟩
  case round =>
    obtain ⟨k, hk, rfl, rfl, hbw, hbp⟩ := hrel
    have HBW := Lib.hid hbw
    have HBP := Lib.hid hbp
    have p0 : wr.cell? ⟨W.heap.size, 0, none⟩ = some (.slice gA gn gc) := hbp.cell 0
    have p1 : wr.cell? ⟨W.heap.size, 1, none⟩ = some (.slice fA fn fc) := hbp.cell 1
    have p2 : wr.cell? ⟨W.heap.size, 2, none⟩ = some (.slice nA N nc) := hbp.cell 2
    have pl1 := hbp.lt
    by_cases hlt : k < n
    · have hkl : k < ks.length := by rw [HR.out.2.1]; exact hlt
      have htl : k < ts.length := by rw [HR.out.2.2.1]; exact hlt
      obtain ⟨g, o, rfl, hg, hkc⟩ : ∃ g o, A = some ⟨g, o, none⟩ ∧ g < wr.heap.size ∧ wr.cell? ⟨g, o + k, none⟩ = some (.int .i64 (ks[k] : Nat)) := by
        rcases HR.out.1 with h9 | ⟨g, o, e, hg, hc⟩
        · rw [h9] at hkl; simp at hkl
        · exact ⟨g, o, e, by have := hbw.size; omega, (hbw.cell (p := ⟨g, o + k, none⟩) hg).trans (hc k _ (List.getElem?_eq_getElem hkl))⟩
      have hx := HK.out k _ _ (List.getElem?_eq_getElem hkl) (List.getElem?_eq_getElem htl)
      unfold PxE at hx
      have HX := Lib.hid hx
      have hts := List.take_succ_eq_append_getElem htl
      have hlen := take_sum ts k
      have hall := HR.out.2.2.2
      have hl1 := lsT_len (ts.take k)
      have hl2 := wl_byt ts[k] false
      have hl3 : byt ts[k] + 3 ≤ (ts.map fun t => byt t + 3).sum := le_sum (List.mem_map.2 ⟨_, List.getElem_mem htl, rfl⟩)
      have hsn := lsT_snoc (ts.take k) ts[k]
      rw [← hts] at hsn
      have hemp : ts.take k = [] ↔ k = 0 := by
        constructor
        · intro h; have := congrArg List.length h; rw [List.length_take, List.length_nil] at this; omega
        · rintro rfl; rfl
      simp only [hemp] at hsn
      have hadd1 := fun W : World => run_string_add_sum (P := Tryz.prog) W (str (lsT (ts.take k))) (str [44, 32]) (by rw [str_size, str_size]; simp; omega)
      have hadd2 := fun W : World => run_string_add_sum (P := Tryz.prog) W (str (if k = 0 then lsT (ts.take k) else lsT (ts.take k) ++ [44, 32])) (str (wl false ts[k])) (by rw [str_size, str_size]; split <;> (try simp only [List.length_append, List.length_cons, List.length_nil]) <;> omega)
      have hadd3 := fun W : World => run_string_add_sum (P := Tryz.prog) W (str ((if k = 0 then lsT (ts.take k) else lsT (ts.take k) ++ [44, 32]) ++ wl false ts[k])) (str [32]) (by rw [str_size, str_size]; split <;> (try simp only [List.length_append, List.length_cons, List.length_nil]) <;> omega)
      simp only [str_append] at hadd1 hadd2 hadd3
      generalize ks[k] = kid at *
      generalize wl false ts[k] = T at *
      have hP : Hid (∀ Wx, Below wr.heap.size wr Wx → Wx.cell? ⟨W.heap.size, 0, none⟩ = some (.slice gA gn gc) ∧ Wx.cell? ⟨W.heap.size, 1, none⟩ = some (.slice fA fn fc) ∧ Wx.cell? ⟨W.heap.size, 2, none⟩ = some (.slice nA N nc) ∧ Wx.cell? ⟨g, o + k, none⟩ = some (.int .i64 (kid : Nat)) ∧ W.heap.size < Wx.heap.size ∧ g < Wx.heap.size) := Lib.hid fun Wx h => by
        have hz := h.size
        exact ⟨(h.cell (p := ⟨W.heap.size, 0, none⟩) pl1).trans p0, (h.cell (p := ⟨W.heap.size, 1, none⟩) pl1).trans p1, (h.cell (p := ⟨W.heap.size, 2, none⟩) pl1).trans p2, (h.cell (p := ⟨g, o + k, none⟩) hg).trans hkc, by omega, by omega⟩
      have J0 : Below wr.heap.size wr wr := Below.refl _ _
      by_cases hk0 : k = 0
      · subst hk0
        simp only [if_true, Nat.add_zero] at hsn hadd2 hadd3 hkc hP
        generalize hz1 : lsT (ts.take (0 + 1)) = w1 at hsn
        have HZ := Lib.hid hz1
        clear hz1
        generalize lsT (ts.take 0) = a at *
        generalize a ++ T = u2 at *
        generalize u2 ++ [32] = u3 at *
        have HSN := Lib.hid hsn
        clear hsn hemp hl1 hl2 hl3 hall hlen hts htl hkl hx hbw hbp
        go_upto_region 7 with (fail)
        go_region_held3 (fun Wx => Wx.cell? ⟨W.heap.size, 0, none⟩ = some (.slice gA gn gc) ∧ Wx.cell? ⟨W.heap.size, 1, none⟩ = some (.slice fA fn fc) ∧ Wx.cell? ⟨W.heap.size, 2, none⟩ = some (.slice nA N nc) ∧ Wx.cell? ⟨g, o, none⟩ = some (.int .i64 (kid : Nat)) ∧ W.heap.size < Wx.heap.size ∧ g < Wx.heap.size)
          (first | exact ⟨p0, p1, p2, hkc, pl1, hg⟩ | exact hP.out _ J1)
          (first
            | (go_at_call 62; (with_reducible refine Calls.mono (HX.out _ ?hw) ?_); (case hw => first | exact HW.out.trans (HBW.out.mono HW.out.size) | exact HW.out.trans (HBW.out.drew.mono HW.out.size)); rintro e v1 ⟨rfl, b1⟩; have J1 : Below wr.heap.size wr v1 := by first | exact J0.trans (b1.mono J0.size) | exact J0.drew.trans (b1.mono J0.size)))
        all_goals
          have HJ := Lib.hid J1
          clear J0 J1
          go_wp2_with fail
          go_roundw
          case rel => exact ⟨1, by omega, by go_num, by rw [← HSN.out, ← HZ.out], HBW.out.trans (HJ.out.mono HBW.out.size), (HJ.out.block _ HBP.out.lt).trans HBP.out⟩
          case measure => simp [intOf]; omega
      · simp only [if_neg hk0] at hsn hadd2 hadd3
        generalize lsT (ts.take k) = a at *
        generalize a ++ [44, 32] = u1 at *
        generalize u1 ++ T = u2 at *
        generalize u2 ++ [32] = u3 at *
        have HSN := Lib.hid hsn
        clear hsn hemp hl1 hl2 hl3 hall hlen hts htl hkl hx hbw hbp
        go_upto_region 7 with (fail)
        go_region_held3 (fun Wx => Wx.cell? ⟨W.heap.size, 0, none⟩ = some (.slice gA gn gc) ∧ Wx.cell? ⟨W.heap.size, 1, none⟩ = some (.slice fA fn fc) ∧ Wx.cell? ⟨W.heap.size, 2, none⟩ = some (.slice nA N nc) ∧ Wx.cell? ⟨g, o + k, none⟩ = some (.int .i64 (kid : Nat)) ∧ W.heap.size < Wx.heap.size ∧ g < Wx.heap.size)
          (first | exact ⟨p0, p1, p2, hkc, pl1, hg⟩ | exact hP.out _ J1)
          (first
            | (go_at_call 62; (with_reducible refine Calls.mono (HX.out _ ?hw) ?_); (case hw => first | exact HW.out.trans (HBW.out.mono HW.out.size) | exact HW.out.trans (HBW.out.drew.mono HW.out.size)); rintro e v1 ⟨rfl, b1⟩; have J1 : Below wr.heap.size wr v1 := by first | exact J0.trans (b1.mono J0.size) | exact J0.drew.trans (b1.mono J0.size)))
        all_goals
          have HJ := Lib.hid J1
          clear J0 J1
          go_wp2_with fail
          go_roundw
          case rel => exact ⟨k + 1, by omega, by go_num, by rw [HSN.out], HBW.out.trans (HJ.out.mono HBW.out.size), (HJ.out.block _ HBP.out.lt).trans HBP.out⟩
          case measure => simp [intOf]; omega
    · obtain rfl : k = n := by omega
      have e : ts.take k = ts := List.take_of_length_le (by rw [HR.out.2.2.1]; exact Nat.le_refl _)
      rw [e]
      clear e hbw hbp
      go_wp2_with fail
      go_ret
      exact ⟨rfl, HBW.out⟩
end
end Go.Proofs.YtlbjjpfhkgagiaaGreatDoor
/-! Pvh -/
namespace Go.Proofs.YtlbjjpfhkgagiaaGreatDoor
open Go.RowKit
set_option linter.unusedVariables false
set_option linter.unusedSimpArgs false

/-- Texts of tokens with commas between. -/
def spT : List Tx → Tx
  | [] => []
  | t :: r => t ++ r.flatMap fun t => [44] :: t
theorem sp_text (r : List Tx) (h : ∀ t ∈ r, t ≠ []) : wl true ((r.flatMap fun t => [44] :: t) ++ [[41]]) = 32 :: ((r.flatMap fun t => [44, 32] ++ wl false t ++ [32]) ++ [41]) := by
  induction r with
  | nil => simp [wl]
  | cons t r ih =>
    have h1 := ih fun x hx => h x (by simp [hx])
    have h2 := h t (by simp)
    rw [List.flatMap_cons, List.append_assoc, List.cons_append]
    show [32] ++ [44] ++ wl true (t ++ _) = _
    rw [wl_append, wl_true h2, show bgn true t = true from rfl, h1]
    simp
theorem spT_text (ts : List Tx) (h : ∀ t ∈ ts, t ≠ []) : ∀ s : List UInt8, wl false (s :: [40] :: (spT ts ++ [[41]])) = s ++ [32, 40, 32] ++ lsT ts ++ [41] := by
  intro s
  cases ts with
  | nil => simp [spT, lsT, wl]
  | cons t r =>
    have h1 := sp_text r fun x hx => h x (by simp [hx])
    have h2 := h t (by simp)
    show s ++ ([32] ++ [40] ++ wl true ((t ++ _) ++ [[41]])) = _
    rw [List.append_assoc t, wl_append, wl_true h2, show bgn true t = true from rfl, h1]
    simp [lsT]
section
variable {B : World} {gA fA nA : Option Addr} {gn gc fn fc N nc : Nat}
set_option maxHeartbeats 600000 in
set_option maxRecDepth 100000 in
theorem pcall_any {i m : Nat} {lv : Int} {h : Hd} {ks : List Nat} {ts : List Tx} (hi : i < N) (hN : N ≤ 4000) (ho : h.op = 7) (hn : NdW B nA i h ks) (hks : ks.length = m) (hts : ts.length = m) (hn4 : m ≤ 4000) (hsz : (ts.map fun t => byt t + 3).sum ≤ 1000000) (hne : ∀ t ∈ ts, t ≠ []) (hk : ∀ (j k : Nat) (t : Tx), ks[j]? = some k → ts[j]? = some t → PxE B gA fA nA gn gc fn fc N nc k 1 t) (hs : h.s.length ≤ 24) :
    PxE B gA fA nA gn gc fn fc N nc i lv (h.s :: [40] :: (spT ts ++ [[41]])) := by
  intro W hW
  have e0 : wl false (h.s :: [40] :: (spT ts ++ [[41]])) = (((h.s ++ [32, 40, 32]) ++ lsT ts) ++ [41]) := by
    rw [spT_text ts hne]
  rw [e0]
  have hb0 := lsT_len ts
  have hadd1 := fun W : World => run_string_add_sum (P := Tryz.prog) W (str (h.s)) (str ([32, 40, 32])) (by rw [str_size, str_size]; simp; omega)
  have hadd2 := fun W : World => run_string_add_sum (P := Tryz.prog) W (str ((h.s) ++ [32, 40, 32])) (str (lsT ts)) (by rw [str_size, str_size]; simp; omega)
  have hadd3 := fun W : World => run_string_add_sum (P := Tryz.prog) W (str (((h.s) ++ [32, 40, 32]) ++ lsT ts)) (str ([41])) (by rw [str_size, str_size]; simp; omega)
  simp only [str_append] at hadd1 hadd2 hadd3
  have HW := Lib.hid hW
  obtain ⟨g, o, A, kc, rfl, hg, h1, h2, h3, h4⟩ := hn.below hW
  have HL : Hid (∀ Wx, Below W.heap.size W Wx → Calls Tryz.prog 106 #[.agg #[.slice gA gn gc, .slice fA fn fc, .slice (some ⟨g, o, none⟩) N nc], .slice A m kc] Wx fun e w' => e = .returned (.string (str (lsT ts))) ∧ Below Wx.heap.size Wx w') :=
    Lib.hid fun Wx hx => plist_any ks ts m hks hts hsz A kc (by omega) h2 Wx (hW.trans (hx.mono hW.size)) ((h3.below hx).more hx.size) hk hn4
  have y0 := h4 0 _ rfl; have y1 := h4 1 _ rfl; have y2 := h4 2 _ rfl; have y3 := h4 3 _ rfl; have y4 := h4 4 _ rfl; have y5 := h4 5 _ rfl; have y6 := h4 6 _ rfl; have y7 := h4 7 _ rfl
  rw [ho] at y0
  obtain ⟨op, p, n, s, to_, ty⟩ := h
  simp only at y0 y1 y2 y3 y4 y5 y6 y7 hadd1 hadd2 hadd3 ⊢
  generalize lsT ts = T0 at *
  generalize s ++ [32, 40, 32] = u1 at *
  generalize u1 ++ T0 = u2 at *
  generalize u2 ++ [41] = u3 at *
  clear hn h4 h3 hW e0 ho hs hk hb0 hsz hne hts
  simp only [List.length_cons, List.length_nil, Nat.zero_add, Nat.add_zero, Nat.reduceAdd] at y0
  rw [hks] at y5 h1
  clear hks
  go_enter Tryz.func62, Tryz.ntmps62
  go_upto_region 2 with (fail)
  have b1 : Blk ((W.alloc (.cells #[.slice gA gn gc, .slice fA fn fc, .slice (some ⟨g, o, none⟩) N nc] tPg)).alloc (.cells #[.int .i64 7, .int .i64 p, .int .i64 n, .string (str s), .int .i64 to_, .slice A m kc, .int .i64 ty, .int .i64 0] tN)) W.heap.size tPg #[.slice gA gn gc, .slice fA fn fc, .slice (some ⟨g, o, none⟩) N nc] := (Blk.new W tPg _).alloc _
  have b2 := Blk.new (W.alloc (.cells #[.slice gA gn gc, .slice fA fn fc, .slice (some ⟨g, o, none⟩) N nc] tPg)) tN #[.int .i64 7, .int .i64 p, .int .i64 n, .string (str s), .int .i64 to_, .slice A m kc, .int .i64 ty, .int .i64 0]
  have e2 : (W.alloc (.cells #[.slice gA gn gc, .slice fA fn fc, .slice (some ⟨g, o, none⟩) N nc] tPg)).heap.size = W.heap.size + 1 := by simp
  rw [e2] at b2
  have hb : Below W.heap.size W ((W.alloc (.cells #[.slice gA gn gc, .slice fA fn fc, .slice (some ⟨g, o, none⟩) N nc] tPg)).alloc (.cells #[.int .i64 7, .int .i64 p, .int .i64 n, .string (str s), .int .i64 to_, .slice A m kc, .int .i64 ty, .int .i64 0] tN)) := ((Below.refl _ _).alloc (Nat.le_refl _) _).alloc (by simp) _
  clear e2
  generalize ((W.alloc (.cells #[.slice gA gn gc, .slice fA fn fc, .slice (some ⟨g, o, none⟩) N nc] tPg)).alloc (.cells #[.int .i64 7, .int .i64 p, .int .i64 n, .string (str s), .int .i64 to_, .slice A m kc, .int .i64 ty, .int .i64 0] tN)) = W2 at *
  have p0 : W2.cell? ⟨W.heap.size, 0, none⟩ = some (.slice gA gn gc) := b1.cell 0
  have p1 : W2.cell? ⟨W.heap.size, 1, none⟩ = some (.slice fA fn fc) := b1.cell 1
  have p2 : W2.cell? ⟨W.heap.size, 2, none⟩ = some (.slice (some ⟨g, o, none⟩) N nc) := b1.cell 2
  have p3 : W2.cell? ⟨W.heap.size + 1, 0, none⟩ = some (.int .i64 7) := b2.cell 0
  have p4 : W2.cell? ⟨W.heap.size + 1, 3, none⟩ = some (.string (str s)) := b2.cell 3
  have p5 : W2.cell? ⟨W.heap.size + 1, 4, none⟩ = some (.int .i64 to_) := b2.cell 4
  have p6 : W2.cell? ⟨W.heap.size + 1, 5, none⟩ = some (.slice A m kc) := b2.cell 5
  have pl1 := b1.lt
  have pl2 := b2.lt
  have HS : Hid (∀ Wx, Below W2.heap.size W2 Wx → Wx.cell? ⟨W.heap.size, 0, none⟩ = some (.slice gA gn gc) ∧ Wx.cell? ⟨W.heap.size, 1, none⟩ = some (.slice fA fn fc) ∧ Wx.cell? ⟨W.heap.size, 2, none⟩ = some (.slice (some ⟨g, o, none⟩) N nc) ∧ Wx.cell? ⟨W.heap.size + 1, 0, none⟩ = some (.int .i64 7) ∧ Wx.cell? ⟨W.heap.size + 1, 3, none⟩ = some (.string (str s)) ∧ Wx.cell? ⟨W.heap.size + 1, 4, none⟩ = some (.int .i64 to_) ∧ Wx.cell? ⟨W.heap.size + 1, 5, none⟩ = some (.slice A m kc) ∧ W.heap.size < Wx.heap.size ∧ W.heap.size + 1 < Wx.heap.size) := Lib.hid fun Wx h => by
    have hz := h.size
    exact ⟨(h.cell (p := ⟨W.heap.size, 0, none⟩) pl1).trans p0, (h.cell (p := ⟨W.heap.size, 1, none⟩) pl1).trans p1, (h.cell (p := ⟨W.heap.size, 2, none⟩) pl1).trans p2, (h.cell (p := ⟨W.heap.size + 1, 0, none⟩) pl2).trans p3, (h.cell (p := ⟨W.heap.size + 1, 3, none⟩) pl2).trans p4, (h.cell (p := ⟨W.heap.size + 1, 4, none⟩) pl2).trans p5, (h.cell (p := ⟨W.heap.size + 1, 5, none⟩) pl2).trans p6, by omega, by omega⟩
  have HB := Lib.hid (HW.out.trans (hb.mono HW.out.size))
  have HBW := Lib.hid hb
  have J0 : Below W2.heap.size W2 W2 := Below.refl _ _
  clear hb b1 b2 y0 y1 y2 y3 y4 y5 y6 y7 hg
  go_upto_region 12 with (fail)
  go_region_held3 (fun Wx => Wx.cell? ⟨W.heap.size, 0, none⟩ = some (.slice gA gn gc) ∧ Wx.cell? ⟨W.heap.size, 1, none⟩ = some (.slice fA fn fc) ∧ Wx.cell? ⟨W.heap.size, 2, none⟩ = some (.slice (some ⟨g, o, none⟩) N nc) ∧ Wx.cell? ⟨W.heap.size + 1, 0, none⟩ = some (.int .i64 7) ∧ Wx.cell? ⟨W.heap.size + 1, 3, none⟩ = some (.string (str s)) ∧ Wx.cell? ⟨W.heap.size + 1, 4, none⟩ = some (.int .i64 to_) ∧ Wx.cell? ⟨W.heap.size + 1, 5, none⟩ = some (.slice A m kc) ∧ W.heap.size < Wx.heap.size ∧ W.heap.size + 1 < Wx.heap.size)
    (first | exact ⟨p0, p1, p2, p3, p4, p5, p6, pl1, pl2⟩ | exact HS.out _ J1)
    (first
      | (go_at_call 106; (with_reducible refine Calls.mono (HL.out _ ?hw) ?_); (case hw => first | exact HBW.out.trans (J0.mono HBW.out.size) | exact HBW.out.trans (J0.drew.mono HBW.out.size)); rintro e v1 ⟨rfl, b1⟩; have J1 : Below W2.heap.size W2 v1 := by first | exact J0.trans (b1.mono J0.size) | exact J0.drew.trans (b1.mono J0.size)))
  all_goals
    have H1 := Lib.hid (HBW.out.trans (J1.mono HBW.out.size))
    clear J0 J1
    go_wp2_with fail
    go_ret
    exact ⟨rfl, H1.out⟩
end
end Go.Proofs.YtlbjjpfhkgagiaaGreatDoor
/-! Pvi -/
namespace Go.Proofs.YtlbjjpfhkgagiaaGreatDoor
open Go.RowKit
set_option linter.unusedVariables false
set_option linter.unusedSimpArgs false

/-- A block's text up to its end. -/
def bkT (ts : List Tx) : List UInt8 := [123, 32] ++ ts.flatMap fun t => wl false t ++ [32]
theorem bkT_snoc (l : List Tx) (t : Tx) : bkT (l ++ [t]) = bkT l ++ wl false t ++ [32] := by simp [bkT]
theorem bkT_len (l : List Tx) : (bkT l).length ≤ (l.map fun t => byt t + 3).sum + 2 := by
  induction l with
  | nil => exact Nat.le_refl _
  | cons t l ih =>
    have := wl_byt t false
    simp only [bkT, List.flatMap_cons, List.length_append, List.map_cons, List.sum_cons, List.length_cons, List.length_nil] at *
    omega
theorem bk_text (ts : List Tx) (h : ∀ t ∈ ts, t ≠ []) : wl false ([123] :: (ts.flatMap id ++ [[125]])) = bkT ts ++ [125] := by
  have key : ∀ ts : List Tx, (∀ t ∈ ts, t ≠ []) → wl true (ts.flatMap id ++ [[125]]) = 32 :: ((ts.flatMap fun t => wl false t ++ [32]) ++ [125]) := by
    intro ts
    induction ts with
    | nil => intro _; simp [wl]
    | cons t r ih =>
      intro h
      have h1 := ih fun x hx => h x (by simp [hx])
      have h2 := h t (by simp)
      rw [List.flatMap_cons, List.append_assoc]
      show wl true (t ++ _) = _
      rw [wl_append, wl_true h2, show bgn true t = true from rfl, h1]
      simp
  show [123] ++ wl true _ = _
  rw [key ts h]
  simp [bkT]
section
variable {B : World} {gA fA nA : Option Addr} {gn gc fn fc N nc : Nat}
set_option maxHeartbeats 600000 in
set_option maxRecDepth 100000 in
theorem pblock_any {i m : Nat} {h : Hd} {ks : List Nat} {ts : List Tx} (hi : i < N) (hN : N ≤ 4000) (ho : h.op = 11) (hn : NdW B nA i h ks) (hks : ks.length = m) (hts : ts.length = m) (hm4 : m ≤ 4000) (hsz : (ts.map fun t => byt t + 3).sum ≤ 1000000) (hne : ∀ t ∈ ts, t ≠ [])
    (hk : ∀ (j k : Nat) (t : Tx), ks[j]? = some k → ts[j]? = some t → PxS B gA fA nA gn gc fn fc N nc k t) : PxS B gA fA nA gn gc fn fc N nc i ([123] :: (ts.flatMap id ++ [[125]])) := by
  intro W hW
  rw [bk_text ts hne]
  have hl0 := bkT_len ts
  have hadd9 := fun W : World => run_string_add_sum (P := Tryz.prog) W (str (bkT ts)) (str [125]) (by rw [str_size, str_size]; simp; omega)
  simp only [str_append] at hadd9
  generalize hz9 : bkT ts ++ [125] = u9 at *
  have HK := Lib.hid hk
  have HW := Lib.hid hW
  obtain ⟨g, o, A, kc, rfl, hg, h1, h2, h3, h4⟩ := hn.below hW
  have y0 := h4 0 _ rfl; have y1 := h4 1 _ rfl; have y2 := h4 2 _ rfl; have y3 := h4 3 _ rfl; have y4 := h4 4 _ rfl; have y5 := h4 5 _ rfl; have y6 := h4 6 _ rfl; have y7 := h4 7 _ rfl
  rw [ho] at y0
  obtain ⟨op, p, n, s, to_, ty⟩ := h
  simp only at y0 y1 y2 y3 y4 y5 y6 y7
  simp only [Nat.add_zero] at y0
  rw [hks] at y5 h1
  have HR := Lib.hid (And.intro h3 (And.intro hks (And.intro hts hsz)))
  clear hn h4 h3 hW ho hk hks hts hsz hne hl0 hz9
  go_enter Tryz.func35, Tryz.ntmps35
  go_upto_region 2 with (fail)
  have b1 : Blk ((W.alloc (.cells #[.slice gA gn gc, .slice fA fn fc, .slice (some ⟨g, o, none⟩) N nc] tPg)).alloc (.cells #[.int .i64 11, .int .i64 p, .int .i64 n, .string (str s), .int .i64 to_, .slice A m kc, .int .i64 ty, .int .i64 0] tN)) W.heap.size tPg #[.slice gA gn gc, .slice fA fn fc, .slice (some ⟨g, o, none⟩) N nc] := (Blk.new W tPg _).alloc _
  have b2 := Blk.new (W.alloc (.cells #[.slice gA gn gc, .slice fA fn fc, .slice (some ⟨g, o, none⟩) N nc] tPg)) tN #[.int .i64 11, .int .i64 p, .int .i64 n, .string (str s), .int .i64 to_, .slice A m kc, .int .i64 ty, .int .i64 0]
  have e2 : (W.alloc (.cells #[.slice gA gn gc, .slice fA fn fc, .slice (some ⟨g, o, none⟩) N nc] tPg)).heap.size = W.heap.size + 1 := by simp
  rw [e2] at b2
  have hb : Below W.heap.size W ((W.alloc (.cells #[.slice gA gn gc, .slice fA fn fc, .slice (some ⟨g, o, none⟩) N nc] tPg)).alloc (.cells #[.int .i64 11, .int .i64 p, .int .i64 n, .string (str s), .int .i64 to_, .slice A m kc, .int .i64 ty, .int .i64 0] tN)) := ((Below.refl _ _).alloc (Nat.le_refl _) _).alloc (by simp) _
  clear e2
  generalize (W.alloc (.cells #[.slice gA gn gc, .slice fA fn fc, .slice (some ⟨g, o, none⟩) N nc] tPg)).alloc (.cells #[.int .i64 11, .int .i64 p, .int .i64 n, .string (str s), .int .i64 to_, .slice A m kc, .int .i64 ty, .int .i64 0] tN) = W2 at *
  have B1 := Lib.hid b1
  have B2 := Lib.hid b2
  have HB := Lib.hid hb
  have p0 : W2.cell? ⟨W.heap.size + 1, 0, none⟩ = some (.int .i64 11) := b2.cell 0
  have p5 : W2.cell? ⟨W.heap.size + 1, 5, none⟩ = some (.slice A m kc) := b2.cell 5
  have pl := b2.lt
  clear b1 b2 hb y0 y1 y2 y3 y4 y5 y6 y7 hg
  go_wp2_with fail
  clear p0 p5 pl
  go_loopw [6, 7] (fun v5 v wr => ∃ k : Nat, k ≤ m ∧ v = .int .i64 k ∧ v5 = .string (str (bkT (ts.take k))) ∧ Below W.heap.size W wr ∧ Blk wr W.heap.size tPg #[.slice gA gn gc, .slice fA fn fc, .slice (some ⟨g, o, none⟩) N nc] ∧ Blk wr (W.heap.size + 1) tN #[.int .i64 11, .int .i64 p, .int .i64 n, .string (str s), .int .i64 to_, .slice A m kc, .int .i64 ty, .int .i64 0]) (fun _ v _ => m - (intOf v).toNat)
  case atStart => exact ⟨0, by omega, rfl, rfl, HB.out, B1.out, B2.out⟩
  case round =>
    obtain ⟨k, hk, rfl, rfl, hbw, hbp, hbn⟩ := hrel
    have HBW := Lib.hid hbw
    have HBP := Lib.hid hbp
    have HBN := Lib.hid hbn
    have p0 : wr.cell? ⟨W.heap.size, 0, none⟩ = some (.slice gA gn gc) := hbp.cell 0
    have p1 : wr.cell? ⟨W.heap.size, 1, none⟩ = some (.slice fA fn fc) := hbp.cell 1
    have p2 : wr.cell? ⟨W.heap.size, 2, none⟩ = some (.slice (some ⟨g, o, none⟩) N nc) := hbp.cell 2
    have p5 : wr.cell? ⟨W.heap.size + 1, 5, none⟩ = some (.slice A m kc) := hbn.cell 5
    have pl1 := hbp.lt
    have pl2 := hbn.lt
    by_cases hlt : k < m
    · have hkl : k < ks.length := by rw [HR.out.2.1]; exact hlt
      have htl : k < ts.length := by rw [HR.out.2.2.1]; exact hlt
      obtain ⟨kg, ko, rfl, hkg, hkc⟩ : ∃ g o, A = some ⟨g, o, none⟩ ∧ g < wr.heap.size ∧ wr.cell? ⟨g, o + k, none⟩ = some (.int .i64 (ks[k] : Nat)) := by
        rcases HR.out.1 with h9 | ⟨g, o, e, hg, hc⟩
        · rw [h9] at hkl; simp at hkl
        · exact ⟨g, o, e, by have := hbw.size; omega, (hbw.cell (p := ⟨g, o + k, none⟩) hg).trans (hc k _ (List.getElem?_eq_getElem hkl))⟩
      have hx := HK.out k _ _ (List.getElem?_eq_getElem hkl) (List.getElem?_eq_getElem htl)
      unfold PxS at hx
      have HX := Lib.hid hx
      have hts := List.take_succ_eq_append_getElem htl
      have hlen := take_sum ts k
      have hall := HR.out.2.2.2
      have hl1 := bkT_len (ts.take k)
      have hl2 := wl_byt ts[k] false
      have hl3 : byt ts[k] + 3 ≤ (ts.map fun t => byt t + 3).sum := le_sum (List.mem_map.2 ⟨_, List.getElem_mem htl, rfl⟩)
      have hsn := bkT_snoc (ts.take k) ts[k]
      rw [← hts] at hsn
      have hadd2 := fun W : World => run_string_add_sum (P := Tryz.prog) W (str (bkT (ts.take k))) (str (wl false ts[k])) (by rw [str_size, str_size]; omega)
      have hadd3 := fun W : World => run_string_add_sum (P := Tryz.prog) W (str (bkT (ts.take k) ++ wl false ts[k])) (str [32]) (by rw [str_size, str_size]; simp only [List.length_append, List.length_cons, List.length_nil]; omega)
      simp only [str_append] at hadd2 hadd3
      generalize ks[k] = kid at *
      generalize wl false ts[k] = T at *
      have hP : Hid (∀ Wx, Below wr.heap.size wr Wx → Wx.cell? ⟨W.heap.size, 0, none⟩ = some (.slice gA gn gc) ∧ Wx.cell? ⟨W.heap.size, 1, none⟩ = some (.slice fA fn fc) ∧ Wx.cell? ⟨W.heap.size, 2, none⟩ = some (.slice (some ⟨g, o, none⟩) N nc) ∧ Wx.cell? ⟨W.heap.size + 1, 5, none⟩ = some (.slice (some ⟨kg, ko, none⟩) m kc) ∧ Wx.cell? ⟨kg, ko + k, none⟩ = some (.int .i64 (kid : Nat)) ∧ W.heap.size < Wx.heap.size ∧ W.heap.size + 1 < Wx.heap.size ∧ kg < Wx.heap.size) := Lib.hid fun Wx h => by
        have hz := h.size
        exact ⟨(h.cell (p := ⟨W.heap.size, 0, none⟩) pl1).trans p0, (h.cell (p := ⟨W.heap.size, 1, none⟩) pl1).trans p1, (h.cell (p := ⟨W.heap.size, 2, none⟩) pl1).trans p2, (h.cell (p := ⟨W.heap.size + 1, 5, none⟩) pl2).trans p5, (h.cell (p := ⟨kg, ko + k, none⟩) hkg).trans hkc, by omega, by omega, by omega⟩
      have J0 : Below wr.heap.size wr wr := Below.refl _ _
      generalize bkT (ts.take k) = a at *
      generalize a ++ T = u2 at *
      generalize u2 ++ [32] = u3 at *
      have HSN := Lib.hid hsn
      clear hsn hl1 hl2 hl3 hall hlen hts htl hkl hx hbw hbp hbn hadd9
      go_upto_region 8 with (fail)
      go_region_held3 (fun Wx => Wx.cell? ⟨W.heap.size, 0, none⟩ = some (.slice gA gn gc) ∧ Wx.cell? ⟨W.heap.size, 1, none⟩ = some (.slice fA fn fc) ∧ Wx.cell? ⟨W.heap.size, 2, none⟩ = some (.slice (some ⟨g, o, none⟩) N nc) ∧ Wx.cell? ⟨W.heap.size + 1, 5, none⟩ = some (.slice (some ⟨kg, ko, none⟩) m kc) ∧ Wx.cell? ⟨kg, ko + k, none⟩ = some (.int .i64 (kid : Nat)) ∧ W.heap.size < Wx.heap.size ∧ W.heap.size + 1 < Wx.heap.size ∧ kg < Wx.heap.size)
        (first | exact ⟨p0, p1, p2, p5, hkc, pl1, pl2, hkg⟩ | exact hP.out _ J1)
        (first
          | (go_at_call 35; (with_reducible refine Calls.mono (HX.out _ ?hw) ?_); (case hw => first | exact HW.out.trans (HBW.out.mono HW.out.size) | exact HW.out.trans (HBW.out.drew.mono HW.out.size)); rintro e v1 ⟨rfl, b1⟩; have J1 : Below wr.heap.size wr v1 := by first | exact J0.trans (b1.mono J0.size) | exact J0.drew.trans (b1.mono J0.size)))
      all_goals
        have HJ := Lib.hid J1
        clear J0 J1
        go_wp2_with fail
        go_roundw
        case rel => exact ⟨k + 1, by omega, by go_num, by rw [HSN.out], HBW.out.trans (HJ.out.mono HBW.out.size), (HJ.out.block _ HBP.out.lt).trans HBP.out, (HJ.out.block _ HBN.out.lt).trans HBN.out⟩
        case measure => simp [intOf]; omega
    · obtain rfl : k = m := by omega
      have e : ts.take k = ts := List.take_of_length_le (by rw [HR.out.2.2.1]; exact Nat.le_refl _)
      rw [e]
      clear e hbw hbp hbn
      generalize bkT ts = a at *
      go_wp2_with fail
      go_ret
      exact ⟨rfl, HBW.out⟩
end
end Go.Proofs.YtlbjjpfhkgagiaaGreatDoor
/-! Pvj -/
namespace Go.Proofs.YtlbjjpfhkgagiaaGreatDoor
open Go.RowKit
set_option linter.unusedVariables false
set_option linter.unusedSimpArgs false

section
variable (B : World) (gA fA nA : Option Addr) (gn gc fn fc N nc : Nat)
/-- The printer's answer where an item stands, at a place. -/
def Px0 : It → Nat → Hd → Fo → Prop
  | .e d lv, i, h, k => PxE B gA fA nA gn gc fn fc N nc i (lv : Nat) (encT lv h (nodeT h k.tk)) ∧ (h.op = 5 → 1 ≤ lvl h.s)
  | .s d cl, i, h, k => PxS B gA fA nA gn gc fn fc N nc i (nodeT h k.tk)
  | .c d, i, h, k => PxE B gA fA nA gn gc fn fc N nc i 1 (nodeT h k.tk)
def PxN (it : It) (i : Nat) (h : Hd) (k : Fo) : Prop := Px0 B gA fA nA gn gc fn fc N nc it i h k ∧ nodeT h k.tk ≠ [] ∧ byt (nodeT h k.tk) ≤ 900000
/-- The same of each tree of a list, from a place on. -/
def PxL : List It → Option It → Fo → Nat → Prop
  | p, _, .nil, _ => p = []
  | it :: p, st, .cons h k r, c => PxN B gA fA nA gn gc fn fc N nc it (c + k.size) h k ∧ PxL p st r (c + k.size + 1)
  | [], some it, .cons h k r, c => PxN B gA fA nA gn gc fn fc N nc it (c + k.size) h k ∧ PxL [] (some it) r (c + k.size + 1)
  | [], none, .cons _ _ _, _ => False
variable {B gA fA nA gn gc fn fc N nc}
theorem PxL.nil_inv {k : Fo} {c : Nat} (h : PxL B gA fA nA gn gc fn fc N nc [] none k c) : k = .nil := by
  cases k with
  | nil => rfl
  | cons _ _ _ => exact h.elim
theorem PxL.one_inv {it : It} {k : Fo} {c : Nat} (h : PxL B gA fA nA gn gc fn fc N nc [it] none k c) : ∃ h1 k1, k = .one h1 k1 ∧ PxN B gA fA nA gn gc fn fc N nc it (c + k1.size) h1 k1 := by
  cases k with
  | nil => cases h
  | cons h1 k1 r =>
    obtain ⟨a, b⟩ := h
    obtain rfl := PxL.nil_inv b
    exact ⟨h1, k1, rfl, a⟩
theorem PxL.two_inv {it it2 : It} {k : Fo} {c : Nat} (h : PxL B gA fA nA gn gc fn fc N nc [it, it2] none k c) : ∃ h1 k1 h2 k2, k = .cons h1 k1 (.one h2 k2) ∧ PxN B gA fA nA gn gc fn fc N nc it (c + k1.size) h1 k1 ∧ PxN B gA fA nA gn gc fn fc N nc it2 (c + k1.size + 1 + k2.size) h2 k2 := by
  cases k with
  | nil => cases h
  | cons h1 k1 r =>
    obtain ⟨a, b⟩ := h
    obtain ⟨h2, k2, rfl, e⟩ := PxL.one_inv b
    exact ⟨h1, k1, h2, k2, rfl, a, e⟩
theorem encT_ne {lv : Nat} {h : Hd} {t : Tx} (ht : t ≠ []) : encT lv h t ≠ [] := by
  unfold encT
  split
  · simp
  · exact ht
theorem encT_byt (lv : Nat) (h : Hd) (t : Tx) : byt (encT lv h t) ≤ byt t + 4 := by
  unfold encT
  split
  · simp only [byt_cons, byt_append, byt_nil, List.length_cons, List.length_nil]; omega
  · omega
theorem enc_1 {h : Hd} {t : Tx} (hl : h.op = 5 → 1 ≤ lvl h.s) : encT 1 h t = t := by
  unfold encT
  rw [if_neg]
  rintro ⟨h5, hl2⟩
  have := hl h5
  omega
/-- A kid where level 1 must stand. -/
theorem PxN.e1 {d i : Nat} {h : Hd} {k : Fo} (h1 : PxN B gA fA nA gn gc fn fc N nc (.e d 1) i h k) : PxE B gA fA nA gn gc fn fc N nc i 1 (nodeT h k.tk) := by
  obtain ⟨⟨a, b⟩, -, -⟩ := h1
  rw [enc_1 b] at a
  exact a
theorem idx_p {i lv d : Nat} {h h1 : Hd} {k1 : Fo} {c : Nat} (hi : i < N) (hN : N ≤ 4000) (ho : h.op = 3) (hs : h.s.length ≤ 24) (hn : NdW B nA i h [c + k1.size]) (hk : PxN B gA fA nA gn gc fn fc N nc (.e d 1) (c + k1.size) h1 k1) : PxE B gA fA nA gn gc fn fc N nc i (lv : Nat) (encT lv h (nodeT h (Fo.one h1 k1).tk)) := by
  have hT : nodeT h (Fo.one h1 k1).tk = [h.s] ++ [[91]] ++ nodeT h1 k1.tk ++ [[93]] := by simp [nodeT, patL, ho, partT, Fo.one, Fo.tk, kid_n]
  rw [encT, if_neg (by omega), hT]
  exact pidx_any hi hN ho hn hs hk.2.1 (by have := hk.2.2; omega) hk.e1
theorem un_p {i lv d : Nat} {h h1 : Hd} {k1 : Fo} {c : Nat} (hi : i < N) (hN : N ≤ 4000) (ho : h.op = 4) (hs : h.s.length ≤ 24) (hn : NdW B nA i h [c + k1.size]) (hk : PxN B gA fA nA gn gc fn fc N nc (.e d 11) (c + k1.size) h1 k1) : PxE B gA fA nA gn gc fn fc N nc i (lv : Nat) (encT lv h (nodeT h (Fo.one h1 k1).tk)) := by
  have hT : nodeT h (Fo.one h1 k1).tk = [h.s] ++ encT 11 h1 (nodeT h1 k1.tk) := by simp [nodeT, patL, ho, partT, Fo.one, Fo.tk, kid_11]
  rw [encT, if_neg (by omega), hT]
  exact pun_any hi hN ho hn hs (encT_ne hk.2.1) (by have := hk.2.2; have := encT_byt 11 h1 (nodeT h1 k1.tk); omega) hk.1.1
theorem cast_p {i lv d : Nat} {h h1 : Hd} {k1 : Fo} {c : Nat} (hi : i < N) (hN : N ≤ 4000) (ho : h.op = 6) (hs : h.s.length ≤ 24) (hto : h.to = 1 ∨ h.to = 2 ∨ h.to = 3) (hn : NdW B nA i h [c + k1.size]) (hk : PxN B gA fA nA gn gc fn fc N nc (.e d 11) (c + k1.size) h1 k1) : PxE B gA fA nA gn gc fn fc N nc i (lv : Nat) (encT lv h (nodeT h (Fo.one h1 k1).tk)) := by
  have hT : nodeT h (Fo.one h1 k1).tk = [[40]] ++ [typeW h.to] ++ [[41]] ++ encT 11 h1 (nodeT h1 k1.tk) := by simp [nodeT, patL, ho, partT, Fo.one, Fo.tk, kid_11]
  rw [encT, if_neg (by omega), hT]
  exact pcast_any hi hN ho hn hs (by omega) (encT_ne hk.2.1) (by have := hk.2.2; have := encT_byt 11 h1 (nodeT h1 k1.tk); omega) hk.1.1
end
end Go.Proofs.YtlbjjpfhkgagiaaGreatDoor
/-! Pvk -/
namespace Go.Proofs.YtlbjjpfhkgagiaaGreatDoor
open Go.RowKit
set_option linter.unusedVariables false
set_option linter.unusedSimpArgs false

section
variable {B : World} {gA fA nA : Option Addr} {gn gc fn fc N nc : Nat}
theorem bin_p {i lv d d2 : Nat} {h h1 h2 : Hd} {k1 k2 : Fo} {c : Nat} (hi : i < N) (hN : N ≤ 4000) (ho : h.op = 5) (hs : h.s.length ≤ 24) (hn : NdW B nA i h [c + k1.size, c + k1.size + 1 + k2.size]) (hk1 : PxN B gA fA nA gn gc fn fc N nc (.e d (lvl h.s)) (c + k1.size) h1 k1) (hk2 : PxN B gA fA nA gn gc fn fc N nc (.e d2 (lvl h.s + 1)) (c + k1.size + 1 + k2.size) h2 k2) :
    PxE B gA fA nA gn gc fn fc N nc i (lv : Nat) (encT lv h (nodeT h (Fo.cons h1 k1 (.one h2 k2)).tk)) ∧ nodeT h (Fo.cons h1 k1 (.one h2 k2)).tk ≠ [] := by
  have hT : nodeT h (Fo.cons h1 k1 (.one h2 k2)).tk = encT (lvl h.s) h1 (nodeT h1 k1.tk) ++ h.s :: encT (lvl h.s + 1) h2 (nodeT h2 k2.tk) := by simp [nodeT, patL, ho, partT, Fo.one, Fo.tk, kid_0, kid_1]
  have b1 := encT_byt (lvl h.s) h1 (nodeT h1 k1.tk)
  have b2 := encT_byt (lvl h.s + 1) h2 (nodeT h2 k2.tk)
  have c1 := hk1.2.2
  have c2 := hk2.2.2
  have hk2' : PxE B gA fA nA gn gc fn fc N nc (c + k1.size + 1 + k2.size) (((lvl h.s : Nat) : Int) + 1) (encT (lvl h.s + 1) h2 (nodeT h2 k2.tk)) := hk2.1.1
  refine ⟨?_, by rw [hT]; simp⟩
  by_cases hlt : lvl h.s < lv
  · rw [encT, if_pos ⟨ho, hlt⟩, hT, show [40] :: ((encT (lvl h.s) h1 (nodeT h1 k1.tk) ++ h.s :: encT (lvl h.s + 1) h2 (nodeT h2 k2.tk)) ++ [[41]]) = [40] :: (encT (lvl h.s) h1 (nodeT h1 k1.tk) ++ h.s :: (encT (lvl h.s + 1) h2 (nodeT h2 k2.tk) ++ [[41]])) by simp]
    exact pbin1_any hi hN ho hn hs (encT_ne hk1.2.1) (by omega) hk1.1.1 (encT_ne hk2.2.1) (by omega) hk2' (by omega)
  · rw [encT, if_neg (fun h' => hlt h'.2), hT]
    exact pbin0_any hi hN ho hn hs (encT_ne hk1.2.1) (by omega) hk1.1.1 (encT_ne hk2.2.1) (by omega) hk2' (by omega)
theorem sepT_spT (l : List (Hd × Tx)) : sepT [44] l = spT (l.map (·.2)) := by
  cases l with
  | nil => rfl
  | cons a l => simp only [sepT, List.map_cons, spT, List.flatMap_map]
theorem sum_bytL (l : List (Hd × Tx)) : ((l.map (·.2)).map fun t => byt t + 3).sum ≤ bytL l := by
  induction l with
  | nil => exact Nat.le_refl _
  | cons a l ih => simp only [List.map_cons, List.sum_cons, bytL_cons]; omega
theorem PxL.all_e {d : Nat} : ∀ (k : Fo) (c : Nat), PxL B gA fA nA gn gc fn fc N nc [] (some (.e d 1)) k c → (∀ t ∈ k.tk.map (·.2), t ≠ []) ∧ ∀ (j x : Nat) (t : Tx), (k.roots c)[j]? = some x → (k.tk.map (·.2))[j]? = some t → PxE B gA fA nA gn gc fn fc N nc x 1 t := by
  intro k
  induction k with
  | nil => intro c _; exact ⟨fun t ht => (by cases ht), fun j x t h => (by simp [Fo.roots] at h)⟩
  | cons h1 k1 r _ ih =>
    intro c h
    obtain ⟨a, b⟩ := ih _ h.2
    refine ⟨fun t ht => ?_, fun j x t hx ht => ?_⟩
    · simp only [Fo.tk, List.map_cons, List.mem_cons] at ht
      rcases ht with rfl | ht
      · exact h.1.2.1
      · exact a t ht
    · cases j with
      | zero =>
        simp only [Fo.roots, Fo.tk, List.map_cons, List.getElem?_cons_zero, Option.some.injEq] at hx ht
        subst hx; subst ht
        exact h.1.e1
      | succ j =>
        simp only [Fo.roots, Fo.tk, List.map_cons, List.getElem?_cons_succ] at hx ht
        exact b j x t hx ht
theorem PxL.all_s {d : Nat} {cl : Bool} : ∀ (k : Fo) (c : Nat), PxL B gA fA nA gn gc fn fc N nc [] (some (.s d cl)) k c → (∀ t ∈ k.tk.map (·.2), t ≠ []) ∧ ∀ (j x : Nat) (t : Tx), (k.roots c)[j]? = some x → (k.tk.map (·.2))[j]? = some t → PxS B gA fA nA gn gc fn fc N nc x t := by
  intro k
  induction k with
  | nil => intro c _; exact ⟨fun t ht => (by cases ht), fun j x t h => (by simp [Fo.roots] at h)⟩
  | cons h1 k1 r _ ih =>
    intro c h
    obtain ⟨a, b⟩ := ih _ h.2
    refine ⟨fun t ht => ?_, fun j x t hx ht => ?_⟩
    · simp only [Fo.tk, List.map_cons, List.mem_cons] at ht
      rcases ht with rfl | ht
      · exact h.1.2.1
      · exact a t ht
    · cases j with
      | zero =>
        simp only [Fo.roots, Fo.tk, List.map_cons, List.getElem?_cons_zero, Option.some.injEq] at hx ht
        subst hx; subst ht
        exact h.1.1
      | succ j =>
        simp only [Fo.roots, Fo.tk, List.map_cons, List.getElem?_cons_succ] at hx ht
        exact b j x t hx ht
theorem call_p {i d : Nat} {lv : Int} {h : Hd} {k : Fo} {c : Nat} (hi : i < N) (hN : N ≤ 4000) (ho : h.op = 7) (hs : h.s.length ≤ 24) (hn : NdW B nA i h (k.roots c)) (hk : PxL B gA fA nA gn gc fn fc N nc [] (some (.e d 1)) k c) (hok : k.ok) (hsz : k.size ≤ 4000) :
    PxE B gA fA nA gn gc fn fc N nc i lv (nodeT h k.tk) ∧ nodeT h k.tk ≠ [] := by
  have hT : nodeT h k.tk = h.s :: [40] :: (spT (k.tk.map (·.2)) ++ [[41]]) := by rw [← sepT_spT]; simp [nodeT, patL, ho, partT]
  obtain ⟨a, b⟩ := PxL.all_e k c hk
  have h1 := Fo.byt k hok
  have h2 := sum_bytL k.tk
  have h3 := Fo.len_le k
  refine ⟨?_, by rw [hT]; simp⟩
  rw [hT]
  exact pcall_any (m := k.len) hi hN ho hn (by rw [Fo.roots_length]) (by rw [List.length_map, Fo.tk_length]) (by omega) (by omega) a b hs
theorem block_p {i d : Nat} {cl : Bool} {h : Hd} {k : Fo} {c : Nat} (hi : i < N) (hN : N ≤ 4000) (ho : h.op = 11) (hn : NdW B nA i h (k.roots c)) (hk : PxL B gA fA nA gn gc fn fc N nc [] (some (.s d cl)) k c) (hok : k.ok) (hsz : k.size ≤ 4000) :
    PxS B gA fA nA gn gc fn fc N nc i (nodeT h k.tk) ∧ nodeT h k.tk ≠ [] := by
  have hT : nodeT h k.tk = [123] :: ((k.tk.map (·.2)).flatMap id ++ [[125]]) := by simp [nodeT, patL, ho, partT, List.flatMap_map]
  obtain ⟨a, b⟩ := PxL.all_s k c hk
  have h1 := Fo.byt k hok
  have h2 := sum_bytL k.tk
  have h3 := Fo.len_le k
  refine ⟨?_, by rw [hT]; simp⟩
  rw [hT]
  exact pblock_any (m := k.len) hi hN ho hn (by rw [Fo.roots_length]) (by rw [List.length_map, Fo.tk_length]) (by omega) (by omega) a b
end
end Go.Proofs.YtlbjjpfhkgagiaaGreatDoor
/-! Pvl -/
namespace Go.Proofs.YtlbjjpfhkgagiaaGreatDoor
open Go.RowKit
set_option linter.unusedVariables false
set_option linter.unusedSimpArgs false

theorem sc_nat (x : List UInt8) : ∃ m : Nat, (sc x).1.n = (m : Int) := by
  unfold sc scName scNum scSign
  repeat' split
  all_goals exact ⟨_, rfl⟩
theorem TkG.num {t : Tok} (h : TkG t) (hk : t.k = 2) : 0 ≤ t.n ∧ t.n ≤ 9223372036854775807 := by
  obtain ⟨-, -, g3, -⟩ := h.g (by omega)
  obtain ⟨m, hm⟩ := sc_nat (txt t)
  have e : (tkx (txt t)).n = (sc (txt t)).1.n := rfl
  exact ⟨by omega, h.v.hi⟩
section
variable {B : World} {gA fA nA : Option Addr} {gn gc fn fc N nc : Nat}
set_option maxHeartbeats 1000000 in
theorem pcore {it : It} {h : Hd} {k : Fo} {c : Nat} (h1 : okI TkG it h k.len) (hok : NOk h k.len) (hkok : k.ok) (hi : c + k.size < N) (hN : N ≤ 4000) (hn : NdW B nA (c + k.size) h (k.roots c)) (h2 : PxL B gA fA nA gn gc fn fc N nc (kI it h k.len).1 (kI it h k.len).2 k c) : PxN B gA fA nA gn gc fn fc N nc it (c + k.size) h k := by
  have hb : byt (nodeT h k.tk) ≤ 900000 := by
    have h3 := nodeT_byt (l := k.tk) (h := h) (by rw [Fo.tk_length]; exact hok)
    have h4 := Fo.byt k hkok
    omega
  suffices hp : Px0 B gA fA nA gn gc fn fc N nc it (c + k.size) h k ∧ nodeT h k.tk ≠ [] from ⟨hp.1, hp.2, hb⟩
  have hs := hok.sl
  clear hb
  cases it with
  | e d lv =>
    simp only [kI] at h2
    show (PxE B gA fA nA gn gc fn fc N nc (c + k.size) (lv : Nat) (encT lv h (nodeT h k.tk)) ∧ (h.op = 5 → 1 ≤ lvl h.s)) ∧ _
    rcases h1 with ⟨ho, hd, ⟨t, ht, htk, htn, hty⟩, hs', hto⟩ | ⟨ho, hd, hs', hn', hto, hty⟩ | ⟨ho, hd, hs', hn', hto, hty⟩ | ⟨ho, hd, hs', hn', hto, hty⟩ | ⟨ho, hd, hl, hn', hto, hty⟩ | ⟨ho, hd, hs', hn', hto, hty⟩ | ⟨ho, hd, hs', hn', hto, hty⟩ | ⟨ho, hd, hs', hn', hto, hty⟩
    · simp [kE, ho] at h2
      obtain rfl := PxL.nil_inv h2
      have hT : nodeT h Fo.nil.tk = [digL h] := by simp [nodeT, patL, ho, partT]
      have hnum := ht.num htk
      refine ⟨⟨?_, by omega⟩, by rw [hT]; simp⟩
      rw [encT, if_neg (by omega), hT]
      exact pnum_any hi hN ho hn (by omega) (by omega) (by split at hty <;> omega)
    · simp [kE, ho] at h2
      obtain rfl := PxL.nil_inv h2
      have hT : nodeT h Fo.nil.tk = [h.s] := by simp [nodeT, patL, ho, partT]
      refine ⟨⟨?_, by omega⟩, by rw [hT]; simp⟩
      rw [encT, if_neg (by omega), hT]
      exact pname_any hi hN ho hn
    · simp [kE, ho] at h2
      obtain ⟨h1, k1, rfl, hk⟩ := PxL.one_inv h2
      exact ⟨⟨idx_p hi hN ho hs hn hk, by omega⟩, by simp [nodeT, patL, ho, partT, Fo.one, Fo.tk]⟩
    · simp [kE, ho] at h2
      obtain ⟨h1, k1, rfl, hk⟩ := PxL.one_inv h2
      exact ⟨⟨un_p hi hN ho hs hn hk, by omega⟩, by simp [nodeT, patL, ho, partT, Fo.one, Fo.tk]⟩
    · have h3 : PxL B gA fA nA gn gc fn fc N nc [.e (dpt d lv h) (lvl h.s), .e (dpt d lv h) (lvl h.s + 1)] none k c := by
        simp [kE, ho] at h2
        unfold dpt
        by_cases hl2 : lvl h.s < lv
        · rw [if_pos hl2] at h2; rw [if_pos ⟨ho, hl2⟩]; exact h2
        · rw [if_neg hl2] at h2; rw [if_neg (fun h' => hl2 h'.2)]; exact h2
      obtain ⟨h1, k1, g2, k2, rfl, hA, hB⟩ := PxL.two_inv h3
      obtain ⟨a, b⟩ := bin_p (lv := lv) hi hN ho hs hn hA hB
      exact ⟨⟨a, fun _ => hl⟩, b⟩
    · simp [kE, ho] at h2
      obtain ⟨h1, k1, rfl, hk⟩ := PxL.one_inv h2
      exact ⟨⟨cast_p hi hN ho hs hto hn hk, by omega⟩, by simp [nodeT, patL, ho, partT, Fo.one, Fo.tk]⟩
    · simp [kE, ho] at h2
      obtain ⟨a, b⟩ := call_p (lv := (lv : Nat)) hi hN ho hs hn h2 hkok (by omega)
      refine ⟨⟨?_, by omega⟩, b⟩
      rw [encT, if_neg (by omega)]
      exact a
    · simp [kE, ho] at h2
      obtain rfl := PxL.nil_inv h2
      have hT : nodeT h Fo.nil.tk = [wIn, [40], [41]] := by simp [nodeT, patL, ho, partT, wIn]
      refine ⟨⟨?_, by omega⟩, by rw [hT]; simp⟩
      rw [encT, if_neg (by omega), hT]
      exact pin_any hi hN ho hn
  | s d cl =>
    simp only [kI] at h2
    show PxS B gA fA nA gn gc fn fc N nc (c + k.size) (nodeT h k.tk) ∧ _
    obtain ⟨hd, hn', hty, h1⟩ := h1
    have R : ∀ {x : Tx} {a b : List UInt8} {l : Tx}, x = a :: l → PxS B gA fA nA gn gc fn fc N nc (c + k.size) (a :: l) → PxS B gA fA nA gn gc fn fc N nc (c + k.size) x ∧ x ≠ [] := fun e p => by rw [e]; exact ⟨p, by simp⟩
    rcases h1 with ⟨ho, hs', hto⟩ | ⟨ho, hs', hto⟩ | ⟨ho, hs', hto⟩ | ⟨ho, hs', hto⟩ | ⟨ho, hs', hto, hlen⟩ | ⟨ho, hs', hto⟩ | ⟨ho, hs', hto⟩ | ⟨ho, hs', hto⟩ | ⟨ho, hs', hto, hlen⟩ | ⟨ho, hs', hto⟩ | ⟨ho, hs', hto⟩
    · simp [kS, ho] at h2
      exact block_p hi hN ho hn h2 hkok (by omega)
    · simp [kS, ho] at h2
      obtain ⟨h1, k1, rfl, hk⟩ := PxL.one_inv h2
      have hT : nodeT h (Fo.one h1 k1).tk = typeW h.to :: h.s :: [61] :: (nodeT h1 k1.tk ++ [[59]]) := by simp [nodeT, patL, ho, partT, Fo.one, Fo.tk, kid_n]
      rw [hT]
      exact ⟨plocal_any hi hN ho hn hs (by omega) hk.2.1 (by have := hk.2.2; omega) hk.e1, by simp⟩
    · simp [kS, ho] at h2
      obtain ⟨h1, k1, rfl, hk⟩ := PxL.one_inv h2
      have hT : nodeT h (Fo.one h1 k1).tk = h.s :: [61] :: (nodeT h1 k1.tk ++ [[59]]) := by simp [nodeT, patL, ho, partT, Fo.one, Fo.tk, kid_n]
      rw [hT]
      exact ⟨passign_any hi hN ho hn hs hk.2.1 (by have := hk.2.2; omega) hk.e1, by simp⟩
    · simp [kS, ho] at h2
      obtain ⟨h1, k1, g2, k2, rfl, hA, hB⟩ := PxL.two_inv h2
      have hT : nodeT h (Fo.cons h1 k1 (.one g2 k2)).tk = h.s :: [91] :: (nodeT h1 k1.tk ++ [93] :: [61] :: (nodeT g2 k2.tk ++ [[59]])) := by simp [nodeT, patL, ho, partT, Fo.one, Fo.tk, kid_n]
      rw [hT]
      exact ⟨pstore_any hi hN ho hn hs hA.2.1 (by have := hA.2.2; omega) hA.e1 hB.2.1 (by have := hB.2.2; omega) hB.e1, by simp⟩
    · rcases hlen with hlen | ⟨hlen, rfl⟩
      · simp [kS, ho, hlen] at h2
        cases k with
        | nil => cases h2
        | cons h1 k1 r =>
          obtain ⟨hA, h2⟩ := h2
          obtain ⟨g2, k2, g3, k3, rfl, hB, hC⟩ := PxL.two_inv h2
          have hT : nodeT h (Fo.cons h1 k1 (.cons g2 k2 (.one g3 k3))).tk = wIf :: [40] :: (nodeT h1 k1.tk ++ [41] :: (nodeT g2 k2.tk ++ wElse :: nodeT g3 k3.tk)) := by simp [nodeT, patL, ho, partT, Fo.one, Fo.tk, kid_n, wIf, wElse]
          rw [hT]
          exact ⟨pif3_any hi hN ho hn hs hA.2.1 (by have := hA.2.2; omega) hA.e1 hB.2.1 (by have := hB.2.2; omega) hB.1 hC.2.1 (by have := hC.2.2; omega) hC.1, by simp⟩
      · simp [kS, ho, hlen] at h2
        obtain ⟨h1, k1, g2, k2, rfl, hA, hB⟩ := PxL.two_inv h2
        have hT : nodeT h (Fo.cons h1 k1 (.one g2 k2)).tk = wIf :: [40] :: (nodeT h1 k1.tk ++ [41] :: nodeT g2 k2.tk) := by simp [nodeT, patL, ho, partT, Fo.one, Fo.tk, kid_n, wIf]
        rw [hT]
        exact ⟨pif2_any hi hN ho hn hs hA.2.1 (by have := hA.2.2; omega) hA.e1 hB.2.1 (by have := hB.2.2; omega) hB.1, by simp⟩
    · simp [kS, ho] at h2
      obtain ⟨h1, k1, g2, k2, rfl, hA, hB⟩ := PxL.two_inv h2
      have hT : nodeT h (Fo.cons h1 k1 (.one g2 k2)).tk = wWhile :: [40] :: (nodeT h1 k1.tk ++ [41] :: nodeT g2 k2.tk) := by simp [nodeT, patL, ho, partT, Fo.one, Fo.tk, kid_n, wWhile]
      rw [hT]
      exact ⟨pwhile_any hi hN ho hn hs hA.2.1 (by have := hA.2.2; omega) hA.e1 hB.2.1 (by have := hB.2.2; omega) hB.1, by simp⟩
    · simp [kS, ho] at h2
      obtain rfl := PxL.nil_inv h2
      have hT : nodeT h Fo.nil.tk = [wGoto, h.s, [59]] := by simp [nodeT, patL, ho, partT, wGoto]
      rw [hT]
      exact ⟨pgoto_any hi hN ho hn hs, by simp⟩
    · simp [kS, ho] at h2
      obtain ⟨h1, k1, rfl, hk⟩ := PxL.one_inv h2
      have hT : nodeT h (Fo.one h1 k1).tk = h.s :: [58] :: nodeT h1 k1.tk := by simp [nodeT, patL, ho, partT, Fo.one, Fo.tk, kid_n]
      rw [hT]
      exact ⟨plabel_any hi hN ho hn hs hk.2.1 (by have := hk.2.2; omega) hk.1, by simp⟩
    · by_cases h0 : k.len = 0
      · simp [kS, ho, h0] at h2
        obtain rfl := PxL.nil_inv h2
        have hT : nodeT h Fo.nil.tk = [wReturn, [59]] := by simp [nodeT, patL, ho, partT, wReturn, Fo.tk]
        rw [hT]
        exact ⟨pret0_any hi hN ho hn, by simp⟩
      · simp [kS, ho, h0] at h2
        obtain ⟨h1, k1, rfl, hk⟩ := PxL.one_inv h2
        have hT : nodeT h (Fo.one h1 k1).tk = wReturn :: (nodeT h1 k1.tk ++ [[59]]) := by simp [nodeT, patL, ho, partT, Fo.one, Fo.tk, kid_n, wReturn]
        rw [hT]
        exact ⟨pret_any hi hN ho hn hs hk.2.1 (by have := hk.2.2; omega) hk.e1, by simp⟩
    · simp [kS, ho] at h2
      obtain ⟨h1, k1, rfl, hk⟩ := PxL.one_inv h2
      have hT : nodeT h (Fo.one h1 k1).tk = wOut :: [40] :: (nodeT h1 k1.tk ++ [41] :: [[59]]) := by simp [nodeT, patL, ho, partT, Fo.one, Fo.tk, kid_n, wOut]
      rw [hT]
      exact ⟨pout_any hi hN ho hn hs hk.2.1 (by have := hk.2.2; omega) hk.e1, by simp⟩
    · simp [kS, ho] at h2
      obtain ⟨h1, k1, rfl, hk⟩ := PxL.one_inv h2
      have hT : nodeT h (Fo.one h1 k1).tk = nodeT h1 k1.tk ++ [[59]] := by simp [nodeT, patL, ho, partT, Fo.one, Fo.tk, kid_n]
      rw [hT]
      exact ⟨psexpr_any hi hN ho hn hs hk.2.1 (by have := hk.2.2; omega) hk.1, by simp⟩
  | c d =>
    obtain ⟨ho, hs', hn', hto, hty⟩ := h1
    simp only [kI] at h2
    exact call_p hi hN ho hs hn h2 hkok (by omega)
end
end Go.Proofs.YtlbjjpfhkgagiaaGreatDoor
/-! Pvm -/
namespace Go.Proofs.YtlbjjpfhkgagiaaGreatDoor
open Go.RowKit
set_option linter.unusedVariables false
set_option linter.unusedSimpArgs false

section
variable {B : World} {gA fA nA : Option Addr} {gn gc fn fc N nc : Nat}
theorem Gr.px (hN : N ≤ 4000) {x : Fo} : ∀ {p : List It} {st : Option It} (c : Nat), Gr TkG p st x → (∀ (i : Nat) (n : Nd), (x.flat c)[i]? = some n → NdW B nA (c + i) n.h n.kids) → c + x.size ≤ N → PxL B gA fA nA gn gc fn fc N nc p st x c := by
  induction x with
  | nil => intro p st c h _ _; simp only [Gr] at h; exact h
  | cons h k r ih1 ih2 =>
    intro p st c hg hw hc
    have hl := Fo.flat_length k c
    have hf : (Fo.cons h k r).flat c = k.flat c ++ ⟨h, k.roots c⟩ :: r.flat (c + k.size + 1) := rfl
    have hsz : (Fo.cons h k r).size = k.size + 1 + r.size := rfl
    have hwk : ∀ (i : Nat) (n : Nd), (k.flat c)[i]? = some n → NdW B nA (c + i) n.h n.kids := fun i n hi => by
      have hlt := (List.getElem?_eq_some_iff.1 hi).1
      exact hw i n (by rw [hf, List.getElem?_append_left hlt]; exact hi)
    have hwn : NdW B nA (c + k.size) h (k.roots c) := hw k.size ⟨h, k.roots c⟩ (by rw [hf, List.getElem?_append_right (by omega), hl, Nat.sub_self]; rfl)
    have hwr : ∀ (i : Nat) (n : Nd), (r.flat (c + k.size + 1))[i]? = some n → NdW B nA (c + k.size + 1 + i) n.h n.kids := fun i n hi => by
      have := hw (k.size + 1 + i) n (by rw [hf, List.getElem?_append_right (by omega), hl, show k.size + 1 + i - k.size = i + 1 by omega, List.getElem?_cons_succ]; exact hi)
      rw [show c + k.size + 1 + i = c + (k.size + 1 + i) by omega]
      exact this
    have key : ∀ {it : It} {p : List It} {st : Option It}, okI TkG it h k.len → Gr TkG (kI it h k.len).1 (kI it h k.len).2 k → Gr TkG p st r → PxN B gA fA nA gn gc fn fc N nc it (c + k.size) h k ∧ PxL B gA fA nA gn gc fn fc N nc p st r (c + k.size + 1) := fun g1 g2 g3 =>
      ⟨pcore g1 (It.nok (fun t h => TkG.v h) g1 g2) (Gr.ok (fun t h => TkG.v h) g2) (by omega) hN hwn (ih1 c g2 hwk (by omega)), ih2 (c + k.size + 1) g3 hwr (by omega)⟩
    cases p with
    | cons it p => simp only [Gr] at hg; exact key hg.1 hg.2.1 hg.2.2
    | nil =>
      cases st with
      | none => simp [Gr] at hg
      | some it => simp only [Gr] at hg; exact key hg.1 hg.2.1 hg.2.2
end
end Go.Proofs.YtlbjjpfhkgagiaaGreatDoor
/-! Pvn -/
namespace Go.Proofs.YtlbjjpfhkgagiaaGreatDoor
open Go.RowKit
set_option linter.unusedVariables false
set_option linter.unusedSimpArgs false

/-- The functions' lines, by the tokens of their blocks. -/
def fzL (l : List (Fn' × Tx)) : List UInt8 := l.flatMap fun x => wl false (fnT x.1 x.2) ++ [10]
theorem fzL_snoc (l : List (Fn' × Tx)) (x : Fn' × Tx) : fzL (l ++ [x]) = fzL l ++ (wl false (fnT x.1 x.2) ++ [10]) := by simp [fzL]
section
variable {B : World} {gA fA nA : Option Addr} {gn gc fn fc N nc : Nat}
theorem Bls.px (hN : N ≤ 4000) (x : Fo) : ∀ (c : Nat) (fs : List Fn'), Bls TkG x → fs.map (·.b) = x.roots c → (∀ (i : Nat) (n : Nd), (x.flat c)[i]? = some n → NdW B nA (c + i) n.h n.kids) → c + x.size ≤ N →
    ∃ l : List (Fn' × Tx), l.map (·.1) = fs ∧ fzL l = fnLs fs x ∧ ∀ y ∈ l, PxS B gA fA nA gn gc fn fc N nc y.1.b y.2 ∧ y.2 ≠ [] ∧ byt y.2 ≤ 900000 := by
  induction x with
  | nil =>
    intro c fs _ h1 _ _
    cases fs with
    | nil => exact ⟨[], rfl, rfl, fun y hy => by cases hy⟩
    | cons f fs => simp [Fo.roots] at h1
  | cons h k r _ ih =>
    intro c fs hb h1 hw hc
    cases fs with
    | nil => simp [Fo.roots] at h1
    | cons f fs =>
      have hl := Fo.flat_length k c
      have hf : (Fo.cons h k r).flat c = k.flat c ++ ⟨h, k.roots c⟩ :: r.flat (c + k.size + 1) := rfl
      have hsz : (Fo.cons h k r).size = k.size + 1 + r.size := rfl
      have hwk : ∀ (i : Nat) (n : Nd), (k.flat c)[i]? = some n → NdW B nA (c + i) n.h n.kids := fun i n hi => by
        have hlt := (List.getElem?_eq_some_iff.1 hi).1
        exact hw i n (by rw [hf, List.getElem?_append_left hlt]; exact hi)
      have hwn : NdW B nA (c + k.size) h (k.roots c) := hw k.size ⟨h, k.roots c⟩ (by rw [hf, List.getElem?_append_right (by omega), hl, Nat.sub_self]; rfl)
      have hwr : ∀ (i : Nat) (n : Nd), (r.flat (c + k.size + 1))[i]? = some n → NdW B nA (c + k.size + 1 + i) n.h n.kids := fun i n hi => by
        have := hw (k.size + 1 + i) n (by rw [hf, List.getElem?_append_right (by omega), hl, show k.size + 1 + i - k.size = i + 1 by omega, List.getElem?_cons_succ]; exact hi)
        rw [show c + k.size + 1 + i = c + (k.size + 1 + i) by omega]
        exact this
      simp only [List.map_cons, Fo.roots, List.cons.injEq] at h1
      obtain ⟨l, e1, e2, e3⟩ := ih (c + k.size + 1) fs hb.2.2.2 h1.2 hwr (by omega)
      have hp : PxN B gA fA nA gn gc fn fc N nc (.s 1 false) (c + k.size) h k :=
        pcore hb.2.1 (It.nok (fun t h => TkG.v h) hb.2.1 hb.2.2.1) (Gr.ok (fun t h => TkG.v h) hb.2.2.1) (by omega) hN hwn (Gr.px hN c hb.2.2.1 hwk (by omega))
      refine ⟨(f, nodeT h k.tk) :: l, by simp [e1], ?_, ?_⟩
      · simp only [fzL, List.flatMap_cons, fnLs] at e2 ⊢
        rw [e2]
      · intro y hy
        rcases List.mem_cons.1 hy with rfl | hy
        · exact ⟨by rw [h1.1]; exact hp.1, hp.2.1, hp.2.2⟩
        · exact e3 y hy
end
/-! a global's line; a function's -/
theorem glT_w (g : Gl) : wl false (glT g) ++ [10] = ((typeW g.ty ++ [32]) ++ g.s) ++ ((if g.n = 0 then [] else [32, 91, 32] ++ Lib.itoa g.n ++ [32, 93]) ++ [32, 59, 10]) := by
  unfold glT
  split <;> simp [wl]
/-- A function's parameters, as far as they stand. -/
def pmL : List Pm → List UInt8
  | [] => []
  | p :: l => (typeW p.ty ++ [32] ++ p.s ++ [32]) ++ l.flatMap fun p => [44, 32] ++ (typeW p.ty ++ [32] ++ p.s ++ [32])
theorem pmL_snoc (l : List Pm) (p : Pm) : pmL (l ++ [p]) = pmL l ++ ((if l = [] then [] else [44, 32]) ++ (typeW p.ty ++ [32] ++ p.s ++ [32])) := by
  cases l with
  | nil => simp [pmL]
  | cons q l => simp [pmL]
theorem fnT_w (f : Fn') (t : Tx) (ht : t ≠ []) : wl false (fnT f t) ++ [10] = ((typeW f.ty ++ [32]) ++ f.s ++ [32, 40, 32]) ++ (pmL f.ps ++ ([41, 32] ++ wl false t ++ [10])) := by
  have key : ∀ l : List Pm, wl true ((l.flatMap fun p => [[44], typeW p.ty, p.s]) ++ ([[41]] ++ t)) = 32 :: ((l.flatMap fun p => [44, 32] ++ (typeW p.ty ++ [32] ++ p.s ++ [32])) ++ ([41, 32] ++ wl false t)) := by
    intro l
    induction l with
    | nil => simp [wl, wl_true ht]
    | cons p l ih =>
      rw [List.flatMap_cons, List.append_assoc]
      show [32] ++ [44] ++ ([32] ++ typeW p.ty ++ ([32] ++ p.s ++ wl true ((l.flatMap fun p => [[44], typeW p.ty, p.s]) ++ ([[41]] ++ t)))) = _
      rw [ih]
      simp
  unfold fnT
  have e : ∀ l : Tx, wl false ([typeW f.ty, f.s, [40]] ++ l) = typeW f.ty ++ [32] ++ f.s ++ [32, 40] ++ wl true l := fun l => by simp [wl]
  rw [List.append_assoc, List.append_assoc, e]
  cases hp : f.ps with
  | nil =>
    have := key []
    simp only [List.flatMap_nil, List.nil_append] at this
    simp only [pmT, pmL, List.nil_append]
    rw [this]
    simp
  | cons p l =>
    have := key l
    have e2 : wl true (pmT (p :: l) ++ ([[41]] ++ t)) = [32] ++ typeW p.ty ++ ([32] ++ p.s ++ wl true ((l.flatMap fun p => [[44], typeW p.ty, p.s]) ++ ([[41]] ++ t))) := by
      simp [pmT, wl]
    rw [e2, this]
    simp [pmL]
end Go.Proofs.YtlbjjpfhkgagiaaGreatDoor
/-! Pvo -/
namespace Go.Proofs.YtlbjjpfhkgagiaaGreatDoor
open Go.RowKit
set_option linter.unusedVariables false
set_option linter.unusedSimpArgs false

theorem flat_take_le {α : Type} (f : α → List UInt8) (l : List α) (k : Nat) : ((l.take k).flatMap f).length ≤ (l.flatMap f).length := by
  conv => rhs; rw [← List.take_append_drop k l]
  rw [List.flatMap_append, List.length_append]
  omega
theorem pmL_take_le (l : List Pm) (k : Nat) : (pmL (l.take k)).length ≤ (pmL l).length := by
  cases l with
  | nil => simp
  | cons p l =>
    cases k with
    | zero => simp [pmL]
    | succ k =>
      have := flat_take_le (fun p : Pm => [44, 32] ++ (typeW p.ty ++ [32] ++ p.s ++ [32])) l k
      simp only [List.take_succ_cons, pmL, List.length_append] at this ⊢
      omega
structure PmOk (p : Pm) : Prop where
  ty : p.ty = 0 ∨ p.ty = 1 ∨ p.ty = 2 ∨ p.ty = 3
  sl : p.s.length ≤ 24
/-- A function with what is printed of its block. -/
structure FnX where
  f : Fn'
  v : Value
  t : Tx
def fnx (l : List FnX) : List UInt8 := fzL (l.map fun x => (x.f, x.t))
theorem fnx_snoc (l : List FnX) (x : FnX) : fnx (l ++ [x]) = fnx l ++ (wl false (fnT x.f x.t) ++ [10]) := by simp [fnx, fzL]
theorem fnx_take_le (l : List FnX) (k : Nat) : (fnx (l.take k)).length ≤ (fnx l).length := by
  have := flat_take_le (fun x : Fn' × Tx => wl false (fnT x.1 x.2) ++ [10]) (l.map fun x => (x.f, x.t)) k
  rw [← List.map_take] at this
  exact this
section
variable {gA fA nA : Option Addr} {gn gc fn fc N nc : Nat}
set_option maxHeartbeats 2000000 in
set_option maxRecDepth 100000 in
theorem pprint_any (w : World) (gs : List Gl) (ys : List FnX) (hG : GlI w w.heap.size (.slice gA gn gc) gs) (hF : FnI w w.heap.size (.slice fA fn fc) (ys.map fun y => (y.f, y.v))) (hP : ∀ y ∈ ys, PmI w w.heap.size y.v y.f.ps)
    (hg : ∀ g ∈ gs, GlOk g) (hy : ∀ y ∈ ys, PxS w gA fA nA gn gc fn fc N nc y.f.b y.t ∧ y.t ≠ [] ∧ byt y.t ≤ 900000 ∧ (y.f.ty = 0 ∨ y.f.ty = 1 ∨ y.f.ty = 2 ∨ y.f.ty = 3) ∧ y.f.s.length ≤ 24 ∧ (∀ p ∈ y.f.ps, PmOk p) ∧ y.f.ps.length ≤ 1400000)
    (hgl : gs.length ≤ 1400000) (hyl : ys.length ≤ 1400000) (htot : (glL gs).length + (fnx ys).length ≤ 900000000) :
    Calls Tryz.prog 12 #[.agg #[.slice gA gn gc, .slice fA fn fc, .slice nA N nc]] w fun e w' => e = .returned (.string (str (glL gs ++ fnx ys))) ∧ Below w.heap.size w w' := by
  have hgn : gn = gs.length := by obtain ⟨A, c, h1, -⟩ := hG; simp only [Value.slice.injEq] at h1; exact h1.2.1
  have hfn : fn = ys.length := by obtain ⟨A, c, h1, -⟩ := hF; simp only [Value.slice.injEq, List.length_map] at h1; exact h1.2.1
  have HGN := Lib.hid hgn
  have HFN := Lib.hid hfn
  have HGV : Hid (GlI w w.heap.size (.slice gA gn gc) gs) := Lib.hid hG
  have HFV := Lib.hid hF
  have HPV := Lib.hid hP
  have HGO := Lib.hid hg
  have HYO := Lib.hid hy
  have HTOT := Lib.hid htot
  have hgn4 : gn ≤ 1400000 := by omega
  have hfn4 : fn ≤ 1400000 := by omega
  clear hG hF hP hg hy htot hgn hfn hgl hyl
  go_enter Tryz.func12, Tryz.ntmps12
  go_upto_region 3 with (fail)
  have b1 := Blk.new w tPg #[.slice gA gn gc, .slice fA fn fc, .slice nA N nc]
  have hb : Below w.heap.size w (w.alloc (.cells #[.slice gA gn gc, .slice fA fn fc, .slice nA N nc] tPg)) := (Below.refl _ _).alloc (Nat.le_refl _) _
  generalize w.alloc (.cells #[.slice gA gn gc, .slice fA fn fc, .slice nA N nc] tPg) = W1 at *
  have B1 := Lib.hid b1
  have HB := Lib.hid hb
  clear b1 hb
  go_loopw [3, 4] (fun v3 v wr => ∃ k : Nat, ∃ z : List UInt8, k ≤ gn ∧ v = .int .i64 k ∧ v3 = .string (str z) ∧ Hid (z = glL (gs.take k)) ∧ Below w.heap.size w wr ∧ Blk wr w.heap.size tPg #[.slice gA gn gc, .slice fA fn fc, .slice nA N nc]) (fun _ v _ => gn - (intOf v).toNat)
  case atStart => exact ⟨0, [], by omega, rfl, rfl, Lib.hid rfl, HB.out, B1.out⟩
  case round =>
    obtain ⟨k, z, hk, rfl, rfl, HZ, hbw, hbp⟩ := hrel
    have HBW := Lib.hid hbw
    have HBP := Lib.hid hbp
    have p0 : wr.cell? ⟨w.heap.size, 0, none⟩ = some (.slice gA gn gc) := hbp.cell 0
    have pl1 := hbp.lt
    by_cases hlt : k < gn
    · have hkl : k < gs.length := by rw [← HGN.out]; exact hlt
      obtain ⟨go, oo, rfl, hgb, hgc⟩ : ∃ g o, gA = some ⟨g, o, none⟩ ∧ g < wr.heap.size ∧ ∀ j v, (glA gs[k])[j]? = some v → wr.cell? ⟨g, o + k * 4 + j, none⟩ = some v := by
        obtain ⟨A, c, h1, h2⟩ := HGV.out
        simp only [Value.slice.injEq] at h1
        obtain ⟨rfl, -, -⟩ := h1
        rcases h2 with h9 | ⟨g, o, e, hg, hc⟩
        · rw [h9] at hkl; simp at hkl
        · refine ⟨g, o, e, by have := hbw.size; omega, fun j v hv => (hbw.cell (p := ⟨g, o + k * 4 + j, none⟩) hg).trans ?_⟩
          have hj : j < 4 := (Array.getElem?_eq_some_iff.1 hv).1
          rw [hc k _ (List.getElem?_eq_getElem hkl) j hj, hv]
      have hok := HGO.out _ (List.getElem_mem hkl)
      have hts := List.take_succ_eq_append_getElem hkl
      have hsn := glL_snoc (gs.take k) gs[k]
      rw [← hts, ← HZ.out, glT_w] at hsn
      have hzl : z.length ≤ 900000000 := by
        rw [HZ.out]
        have := flat_take_le (fun g => wl false (glT g) ++ [10]) gs k
        have := HTOT.out
        unfold glL at *
        omega
      have htw := (typeW_len gs[k].ty).2
      have hsl := hok.sl
      have hn0 := hok.n
      have y0 := hgc 0 (.string (str gs[k].s)) rfl; have y1 := hgc 1 (.int .i64 gs[k].ty) rfl; have y2 := hgc 2 (.int .i64 gs[k].n) rfl; have y3 := hgc 3 (.int .i64 gs[k].p) rfl
      have hgc' := hgc
      clear hgc
      generalize gs[k] = xx at *
      obtain ⟨gs0, gty, gnn, gp⟩ := xx
      simp only [Nat.add_zero] at y0
      simp only at y0 y1 y2 y3
      simp only at hsn htw hsl hn0
      have HTY : Hid (∀ Wx, Calls Tryz.prog 33 #[.int .i64 gty] Wx fun e w' => e = .returned (.string (str (typeW gty))) ∧ Below Wx.heap.size Wx w') := Lib.hid fun Wx => ptyped_any gty (by have := hok.ty; simp only at this; omega) Wx
      obtain ⟨nn, hnn⟩ : ∃ nn : Nat, gnn = nn := ⟨gnn.toNat, by omega⟩
      subst hnn
      have hit : Lib.itoa (nn : Int) = Lib.decDigits nn := by rw [Lib.itoa, if_neg (by omega), Int.toNat_natCast]
      rw [hit] at hsn
      have hdl : (Lib.decDigits nn).length ≤ 21 := dec_len20 (by omega)
      have HDG : Hid (∀ Wx, Calls Tryz.prog 34 #[.int .i64 nn] Wx fun e w' => e = .returned (.string (str (Lib.decDigits nn))) ∧ Below Wx.heap.size Wx w') := Lib.hid fun Wx => pdigits_any nn (by omega) Wx
      clear hit
      have hadd1 := fun W : World => run_string_add_sum (P := Tryz.prog) W (str z) (str (typeW gty)) (by rw [str_size, str_size]; omega)
      have hadd2 := fun W : World => run_string_add_sum (P := Tryz.prog) W (str (z ++ typeW gty)) (str [32]) (by rw [str_size, str_size]; (try simp); omega)
      have hadd3 := fun W : World => run_string_add_sum (P := Tryz.prog) W (str ((z ++ typeW gty) ++ [32])) (str gs0) (by rw [str_size, str_size]; (try simp); omega)
      have hadd4 := fun W : World => run_string_add_sum (P := Tryz.prog) W (str (((z ++ typeW gty) ++ [32]) ++ gs0)) (str [32, 91, 32]) (by rw [str_size, str_size]; (try simp); omega)
      have hadd5 := fun W : World => run_string_add_sum (P := Tryz.prog) W (str ((((z ++ typeW gty) ++ [32]) ++ gs0) ++ [32, 91, 32])) (str (Lib.decDigits nn)) (by rw [str_size, str_size]; (try simp); omega)
      have hadd6 := fun W : World => run_string_add_sum (P := Tryz.prog) W (str (((((z ++ typeW gty) ++ [32]) ++ gs0) ++ [32, 91, 32]) ++ Lib.decDigits nn)) (str [32, 93]) (by rw [str_size, str_size]; (try simp); omega)
      have hadd7 := fun W : World => run_string_add_sum (P := Tryz.prog) W (str (((z ++ typeW gty) ++ [32]) ++ gs0)) (str [32, 59, 10]) (by rw [str_size, str_size]; (try simp); omega)
      have hadd8 := fun W : World => run_string_add_sum (P := Tryz.prog) W (str ((((((z ++ typeW gty) ++ [32]) ++ gs0) ++ [32, 91, 32]) ++ Lib.decDigits nn) ++ [32, 93])) (str [32, 59, 10]) (by rw [str_size, str_size]; (try simp); omega)
      simp only [str_append] at hadd1 hadd2 hadd3 hadd4 hadd5 hadd6 hadd7 hadd8
      have HSN : Hid (glL (gs.take (k + 1)) = if (nn : Int) = 0 then (((z ++ typeW gty) ++ [32]) ++ gs0) ++ [32, 59, 10] else ((((((z ++ typeW gty) ++ [32]) ++ gs0) ++ [32, 91, 32]) ++ Lib.decDigits nn) ++ [32, 93]) ++ [32, 59, 10]) := by
        refine Lib.hid ?_
        rw [hsn]
        split <;> simp
      clear hsn hts hok htw hsl hzl hdl hkl hgc'
      generalize Lib.decDigits nn = D at *
      generalize typeW gty = T at *
      generalize z ++ T = u1 at *
      generalize u1 ++ [32] = u2 at *
      generalize u2 ++ gs0 = u3 at *
      generalize u3 ++ [32, 91, 32] = u4 at *
      generalize u4 ++ D = u5 at *
      generalize u5 ++ [32, 93] = u6 at *
      generalize u3 ++ [32, 59, 10] = u7 at *
      generalize u6 ++ [32, 59, 10] = u8 at *
      go_upto_region 6 with (fail)
      have b2 := Blk.new wr tG #[.string (str gs0), .int .i64 gty, .int .i64 nn, .int .i64 gp]
      have hb : Below wr.heap.size wr (wr.alloc (.cells #[.string (str gs0), .int .i64 gty, .int .i64 nn, .int .i64 gp] tG)) := (Below.refl _ _).alloc (Nat.le_refl _) _
      generalize wr.alloc (.cells #[.string (str gs0), .int .i64 gty, .int .i64 nn, .int .i64 gp] tG) = W2 at *
      have p0 : W2.cell? ⟨wr.heap.size, 0, none⟩ = some (.string (str gs0)) := b2.cell 0
      have p1 : W2.cell? ⟨wr.heap.size, 1, none⟩ = some (.int .i64 gty) := b2.cell 1
      have p2 : W2.cell? ⟨wr.heap.size, 2, none⟩ = some (.int .i64 nn) := b2.cell 2
      have pl := b2.lt
      have HS : Hid (∀ Wx, Below W2.heap.size W2 Wx → Wx.cell? ⟨wr.heap.size, 0, none⟩ = some (.string (str gs0)) ∧ Wx.cell? ⟨wr.heap.size, 1, none⟩ = some (.int .i64 gty) ∧ Wx.cell? ⟨wr.heap.size, 2, none⟩ = some (.int .i64 nn) ∧ wr.heap.size < Wx.heap.size) := Lib.hid fun Wx h => by
        have hz := h.size
        exact ⟨(h.cell (p := ⟨wr.heap.size, 0, none⟩) pl).trans p0, (h.cell (p := ⟨wr.heap.size, 1, none⟩) pl).trans p1, (h.cell (p := ⟨wr.heap.size, 2, none⟩) pl).trans p2, by omega⟩
      have HB2 := Lib.hid hb
      have J0 : Below W2.heap.size W2 W2 := Below.refl _ _
      clear hb b2 y0 y1 y2 y3 hbw hbp pl1
      go_wp2_with fail
      go_region_held3 (fun Wx => Wx.cell? ⟨wr.heap.size, 0, none⟩ = some (.string (str gs0)) ∧ Wx.cell? ⟨wr.heap.size, 1, none⟩ = some (.int .i64 gty) ∧ Wx.cell? ⟨wr.heap.size, 2, none⟩ = some (.int .i64 nn) ∧ wr.heap.size < Wx.heap.size)
        (first | exact ⟨p0, p1, p2, pl⟩ | exact HS.out _ J1)
        (first
          | (go_at_call 33; (with_reducible refine Calls.mono (HTY.out _) ?_); rintro e v1 ⟨rfl, b1⟩; have J1 : Below W2.heap.size W2 v1 := by first | exact J0.trans (b1.mono J0.size) | exact J0.drew.trans (b1.mono J0.size)))
      all_goals
        obtain ⟨p0, p1, p2, pl⟩ := HS.out _ J1
        have HJ := Lib.hid J1
        clear J0 J1
        by_cases hnz : nn = 0
        · have hd : decide ((0 : Int) < (nn : Int)) = false := by simp; omega
          have hd2 : decide (0 < nn) = false := by simp; omega
          have HN := Lib.hid hnz
          clear hnz
          go_wp2_with fail
          go_roundw
          case rel =>
            have hbl := HBW.out.trans ((HB2.out.trans (HJ.out.mono HB2.out.size)).mono HBW.out.size)
            refine ⟨k + 1, _, by omega, by go_num, rfl, Lib.hid ?_, hbl, ?_⟩
            · rw [HSN.out, if_pos (by have := HN.out; omega)]
            · exact ((HB2.out.trans (HJ.out.mono HB2.out.size)).block _ HBP.out.lt).trans HBP.out
          case measure => simp [intOf]; omega
        · have hd : decide ((0 : Int) < (nn : Int)) = true := by simp; omega
          have hd2 : decide (0 < nn) = true := by simp; omega
          have HN := Lib.hid hnz
          clear hnz
          go_wp2_with fail
          refine (HDG.out _).mono ?_
          rintro e w3 ⟨rfl, hb3⟩
          have HB3 := Lib.hid hb3
          clear hb3
          go_wp2_with fail
          go_roundw
          case rel =>
            have hj := (HB2.out.trans (HJ.out.mono HB2.out.size))
            have hj2 := hj.trans (HB3.out.mono hj.size)
            refine ⟨k + 1, _, by omega, by go_num, rfl, Lib.hid ?_, HBW.out.trans (hj2.mono HBW.out.size), ?_⟩
            · rw [HSN.out, if_neg (by have := HN.out; omega)]
            · exact (hj2.block _ HBP.out.lt).trans HBP.out
          case measure => simp [intOf]; omega
    · obtain rfl : gn = k := by omega
      have hz0 : z = glL gs := by rw [HZ.out, List.take_of_length_le (by rw [← HGN.out]; exact Nat.le_refl _)]
      have HZ0 := Lib.hid hz0
      clear hz0 HZ hbw hbp
      go_wp2_with fail
      go_loopw [3, 6] (fun v3 v wr => ∃ k : Nat, ∃ z : List UInt8, k ≤ fn ∧ v = .int .i64 k ∧ v3 = .string (str z) ∧ Hid (z = glL gs ++ fnx (ys.take k)) ∧ Below w.heap.size w wr ∧ Blk wr w.heap.size tPg #[.slice gA gn gc, .slice fA fn fc, .slice nA N nc]) (fun _ v _ => fn - (intOf v).toNat)
      case atStart => exact ⟨0, z, by omega, rfl, rfl, Lib.hid (by rw [HZ0.out]; simp [fnx, fzL]), HBW.out, HBP.out⟩
      case round =>
        clear HBW HBP HZ0 p0 pl1
        obtain ⟨w1, hw1⟩ : ∃ w1, w1 = wr := ⟨_, rfl⟩
        subst hw1
        obtain ⟨k, z, hk, rfl, rfl, HZ, hbw, hbp⟩ := hrel
        have HBW := Lib.hid hbw
        have HBP := Lib.hid hbp
        have p0 : w1.cell? ⟨w.heap.size, 0, none⟩ = some (.slice gA gn gc) := hbp.cell 0
        have p1 : w1.cell? ⟨w.heap.size, 1, none⟩ = some (.slice fA fn fc) := hbp.cell 1
        have p2 : w1.cell? ⟨w.heap.size, 2, none⟩ = some (.slice nA N nc) := hbp.cell 2
        have pl1 := hbp.lt
        by_cases hlt : k < fn
        · have hkl : k < ys.length := by rw [← HFN.out]; exact hlt
          obtain ⟨go, oo, rfl, hgb, hgc⟩ : ∃ g o, fA = some ⟨g, o, none⟩ ∧ g < w1.heap.size ∧ ∀ j v, (fnA ys[k].f ys[k].v ys[k].f.b)[j]? = some v → w1.cell? ⟨g, o + k * 6 + j, none⟩ = some v := by
            obtain ⟨A, c, h1, h2⟩ := HFV.out
            simp only [Value.slice.injEq] at h1
            obtain ⟨rfl, -, -⟩ := h1
            rcases h2 with h9 | ⟨g, o, e, hg, hc⟩
            · rw [List.map_eq_nil_iff] at h9; rw [h9] at hkl; simp at hkl
            · refine ⟨g, o, e, by have := hbw.size; omega, fun j v hv => (hbw.cell (p := ⟨g, o + k * 6 + j, none⟩) hg).trans ?_⟩
              have hj : j < 6 := (Array.getElem?_eq_some_iff.1 hv).1
              rw [hc k (ys[k].f, ys[k].v) (by rw [List.getElem?_map, List.getElem?_eq_getElem hkl]; rfl) j hj, hv]
          obtain ⟨hpx, hne, hbt, hty, hsl, hpk, hpl⟩ := HYO.out _ (List.getElem_mem hkl)
          have hpm := HPV.out _ (List.getElem_mem hkl)
          have hts := List.take_succ_eq_append_getElem hkl
          have hsn := fnx_snoc (ys.take k) ys[k]
          rw [← hts, fnT_w _ _ hne] at hsn
          have hzl : z.length ≤ 900000000 := by
            rw [HZ.out, List.length_append]
            have := fnx_take_le ys k
            have := HTOT.out
            omega
          have hall : z.length + (pmL ys[k].f.ps).length ≤ 900000500 := by
            have h1 := fnx_take_le ys (k + 1)
            rw [hsn] at h1
            have := HTOT.out
            rw [HZ.out]
            simp only [List.length_append] at h1 ⊢
            omega
          have HSN : Hid (glL gs ++ fnx (ys.take (k + 1)) = z ++ (((typeW ys[k].f.ty ++ [32]) ++ ys[k].f.s ++ [32, 40, 32]) ++ (pmL ys[k].f.ps ++ ([41, 32] ++ wl false ys[k].t ++ [10])))) := Lib.hid (by rw [hsn, HZ.out]; simp only [List.append_assoc])
          have htw := (typeW_len ys[k].f.ty).2
          have hwt := wl_byt ys[k].t false
          have y0 := hgc 0 (.string (str ys[k].f.s)) rfl; have y1 := hgc 1 (.int .i64 ys[k].f.ty) rfl; have y2 := hgc 2 ys[k].v rfl; have y3 := hgc 3 (.int .i64 ys[k].f.b) rfl; have y4 := hgc 4 (.int .i64 ys[k].f.p) rfl; have y5 := hgc 5 (.slice none 0 0) rfl
          have hgc' := hgc
          clear hgc hsn
          unfold PxS at hpx
          generalize ys[k] = xx at *
          obtain ⟨⟨fs0, fty, fps, fb, fp⟩, fv, ft⟩ := xx
          simp only [Nat.add_zero] at y0
          simp only at y0 y1 y2 y3 y4 y5 htw hsl hpx hne hbt hty hpk hpl hpm hall hwt HSN
          obtain ⟨pA, pc, rfl, hpc⟩ := hpm
          have HPC := Lib.hid hpc
          have HPK := Lib.hid hpk
          have HPX := Lib.hid hpx
          have HTY : Hid (∀ Wx, Calls Tryz.prog 33 #[.int .i64 fty] Wx fun e w' => e = .returned (.string (str (typeW fty))) ∧ Below Wx.heap.size Wx w') := Lib.hid fun Wx => ptyped_any fty hty Wx
          have hadd1 := fun W : World => run_string_add_sum (P := Tryz.prog) W (str z) (str (typeW fty)) (by rw [str_size, str_size]; omega)
          have hadd2 := fun W : World => run_string_add_sum (P := Tryz.prog) W (str (z ++ typeW fty)) (str [32]) (by rw [str_size, str_size]; (try simp); omega)
          have hadd3 := fun W : World => run_string_add_sum (P := Tryz.prog) W (str ((z ++ typeW fty) ++ [32])) (str fs0) (by rw [str_size, str_size]; (try simp); omega)
          have hadd4 := fun W : World => run_string_add_sum (P := Tryz.prog) W (str (((z ++ typeW fty) ++ [32]) ++ fs0)) (str [32, 40, 32]) (by rw [str_size, str_size]; (try simp); omega)
          simp only [str_append] at hadd1 hadd2 hadd3 hadd4
          have HV : Hid (z ++ (((typeW fty ++ [32]) ++ fs0 ++ [32, 40, 32]) ++ (pmL fps ++ ([41, 32] ++ wl false ft ++ [10]))) = (((((z ++ typeW fty) ++ [32]) ++ fs0) ++ [32, 40, 32]) ++ pmL fps) ++ [41, 32] ++ wl false ft ++ [10]) := Lib.hid (by simp)
          have hvl : ((((z ++ typeW fty) ++ [32]) ++ fs0) ++ [32, 40, 32]).length + (pmL fps).length ≤ 900000700 := by simp only [List.length_append, List.length_cons, List.length_nil]; omega
          rw [HV.out] at HSN
          clear HV hgc' hts hkl hpc hpk hpx hty hne hall hzl htw hsl
          generalize typeW fty = T at *
          generalize z ++ T = u1 at *
          generalize u1 ++ [32] = u2 at *
          generalize u2 ++ fs0 = u3 at *
          generalize u3 ++ [32, 40, 32] = V at *
          have HVL := Lib.hid hvl
          clear hvl
          go_upto_region 14 with (fail)
          have b2 := Blk.new w1 tFn #[.string (str fs0), .int .i64 fty, .slice pA fps.length pc, .int .i64 fb, .int .i64 fp, .slice none 0 0]
          have hb : Below w1.heap.size w1 (w1.alloc (.cells #[.string (str fs0), .int .i64 fty, .slice pA fps.length pc, .int .i64 fb, .int .i64 fp, .slice none 0 0] tFn)) := (Below.refl _ _).alloc (Nat.le_refl _) _
          generalize w1.alloc (.cells #[.string (str fs0), .int .i64 fty, .slice pA fps.length pc, .int .i64 fb, .int .i64 fp, .slice none 0 0] tFn) = W2 at *
          have q0 : W2.cell? ⟨w1.heap.size, 0, none⟩ = some (.string (str fs0)) := b2.cell 0
          have q1 : W2.cell? ⟨w1.heap.size, 1, none⟩ = some (.int .i64 fty) := b2.cell 1
          have ql := b2.lt
          have HS : Hid (∀ Wx, Below W2.heap.size W2 Wx → Wx.cell? ⟨w1.heap.size, 0, none⟩ = some (.string (str fs0)) ∧ Wx.cell? ⟨w1.heap.size, 1, none⟩ = some (.int .i64 fty) ∧ w1.heap.size < Wx.heap.size) := Lib.hid fun Wx h => by
            have hz := h.size
            exact ⟨(h.cell (p := ⟨w1.heap.size, 0, none⟩) ql).trans q0, (h.cell (p := ⟨w1.heap.size, 1, none⟩) ql).trans q1, by omega⟩
          have HB2 := Lib.hid hb
          have B2 := Lib.hid b2
          have J0 : Below W2.heap.size W2 W2 := Below.refl _ _
          clear hb b2 y0 y1 y2 y3 y4 y5 hbw hbp pl1 p0 p1 p2 hgb
          go_region_held3 (fun Wx => Wx.cell? ⟨w1.heap.size, 0, none⟩ = some (.string (str fs0)) ∧ Wx.cell? ⟨w1.heap.size, 1, none⟩ = some (.int .i64 fty) ∧ w1.heap.size < Wx.heap.size)
            (first | exact ⟨q0, q1, ql⟩ | exact HS.out _ J1)
            (first
              | (go_at_call 33; (with_reducible refine Calls.mono (HTY.out _) ?_); rintro e v1 ⟨rfl, b1⟩; have J1 : Below W2.heap.size W2 v1 := by first | exact J0.trans (b1.mono J0.size) | exact J0.drew.trans (b1.mono J0.size)))
          all_goals
            have HJ := Lib.hid J1
            clear J0 J1 q0 q1 ql HS
            have HSZ := Lib.hid (HB2.out.size)
            obtain ⟨q, hq⟩ : ∃ q, w1.heap.size = q := ⟨_, rfl⟩
            have HQ := Lib.hid hq
            rw [hq] at B2
            simp only [hq]
            clear hq
            go_wp2_with fail
            go_loopw [3, 8] (fun v3 v wx => ∃ j : Nat, ∃ y : List UInt8, j ≤ fps.length ∧ v = .int .i64 j ∧ v3 = .string (str y) ∧ Hid (y = V ++ pmL (fps.take j)) ∧ Below W2.heap.size W2 wx) (fun _ v _ => fps.length - (intOf v).toNat)
            case atStart => exact ⟨0, V, by omega, rfl, rfl, Lib.hid (by simp [pmL]), HJ.out⟩
            case round =>
              obtain ⟨j, y, hj, rfl, rfl, HY, hbx⟩ := hrel
              have HBX := Lib.hid hbx
              have hbf : Blk wr q tFn #[.string (str fs0), .int .i64 fty, .slice pA fps.length pc, .int .i64 fb, .int .i64 fp, .slice none 0 0] := (hbx.block _ B2.out.lt).trans B2.out
              have c2 : wr.cell? ⟨q, 2, none⟩ = some (.slice pA fps.length pc) := hbf.cell 2
              have c3 : wr.cell? ⟨q, 3, none⟩ = some (.int .i64 fb) := hbf.cell 3
              have cl := hbf.lt
              have hlow := HBW.out.trans ((HB2.out.trans (hbx.mono HB2.out.size)).mono HBW.out.size)
              have HLOW := Lib.hid hlow
              by_cases hlt2 : j < fps.length
              · obtain ⟨pg, po, rfl, hpg, hpc1, hpc2⟩ : ∃ g o, pA = some ⟨g, o, none⟩ ∧ g < wr.heap.size ∧ wr.cell? ⟨g, o + j * 2, none⟩ = some (.string (str fps[j].s)) ∧ wr.cell? ⟨g, o + j * 2 + 1, none⟩ = some (.int .i64 fps[j].ty) := by
                  rcases HPC.out with h9 | ⟨g, o, e, hg, hc⟩
                  · rw [h9] at hlt2; simp at hlt2
                  · obtain ⟨h1, h2⟩ := hc j _ (List.getElem?_eq_getElem hlt2)
                    exact ⟨g, o, e, by have := hlow.size; omega, (hlow.cell (p := ⟨g, o + j * 2, none⟩) hg).trans h1, (hlow.cell (p := ⟨g, o + j * 2 + 1, none⟩) hg).trans h2⟩
                have hpok := HPK.out _ (List.getElem_mem hlt2)
                have hts := List.take_succ_eq_append_getElem hlt2
                have hsn := pmL_snoc (fps.take j) fps[j]
                rw [← hts] at hsn
                have hyl : y.length ≤ 900000700 := by
                  rw [HY.out, List.length_append]
                  have := pmL_take_le fps j
                  have := HVL.out
                  omega
                have htw := (typeW_len fps[j].ty).2
                have hsl := hpok.sl
                have HTY : Hid (∀ Wx, Calls Tryz.prog 33 #[.int .i64 fps[j].ty] Wx fun e w' => e = .returned (.string (str (typeW fps[j].ty))) ∧ Below Wx.heap.size Wx w') := Lib.hid fun Wx => ptyped_any _ hpok.ty Wx
                have HSN3 := Lib.hid hsn
                clear hsn hts hpok
                generalize fps[j] = pp at *
                obtain ⟨ps0, pty⟩ := pp
                simp only at hpc1 hpc2 htw hsl HTY HSN3
                have hlt3 : (j : Int) < fps.length := by omega
                have hP : Hid (∀ Wx, Below wr.heap.size wr Wx → Wx.cell? ⟨q, 2, none⟩ = some (.slice (some ⟨pg, po, none⟩) fps.length pc) ∧ Wx.cell? ⟨pg, po + j * 2, none⟩ = some (.string (str ps0)) ∧ Wx.cell? ⟨pg, po + j * 2 + 1, none⟩ = some (.int .i64 pty) ∧ q < Wx.heap.size ∧ pg < Wx.heap.size) := Lib.hid fun Wx h => by
                  have hz := h.size
                  exact ⟨(h.cell (p := ⟨q, 2, none⟩) cl).trans c2, (h.cell (p := ⟨pg, po + j * 2, none⟩) hpg).trans hpc1, (h.cell (p := ⟨pg, po + j * 2 + 1, none⟩) hpg).trans hpc2, by omega, by omega⟩
                have J0 : Below wr.heap.size wr wr := Below.refl _ _
                by_cases h0 : j = 0
                · have hadd1 := fun W : World => run_string_add_sum (P := Tryz.prog) W (str y) (str (typeW pty)) (by rw [str_size, str_size]; (try simp); omega)
                  have hadd2 := fun W : World => run_string_add_sum (P := Tryz.prog) W (str (y ++ typeW pty)) (str [32]) (by rw [str_size, str_size]; (try simp); omega)
                  have hadd3 := fun W : World => run_string_add_sum (P := Tryz.prog) W (str ((y ++ typeW pty) ++ [32])) (str ps0) (by rw [str_size, str_size]; (try simp); omega)
                  have hadd4 := fun W : World => run_string_add_sum (P := Tryz.prog) W (str (((y ++ typeW pty) ++ [32]) ++ ps0)) (str [32]) (by rw [str_size, str_size]; (try simp); omega)
                  simp only [str_append] at hadd1 hadd2 hadd3 hadd4
                  have HNX : Hid ((((y ++ typeW pty) ++ [32]) ++ ps0) ++ [32] = V ++ pmL (fps.take (j + 1))) := Lib.hid (by rw [HSN3.out, HY.out, if_pos (by rw [h0]; rfl)]; simp)
                  have hd : decide ((0 : Int) < (j : Int)) = false := by simp; omega
                  have hd2 : decide (0 < j) = false := by simp; omega
                  clear htw hsl hyl hbx hbf hlow h0
                  generalize typeW pty = T at *
                  generalize y ++ T = v1 at *
                  generalize v1 ++ [32] = v2 at *
                  generalize v2 ++ ps0 = v3 at *
                  generalize v3 ++ [32] = v4 at *
                  go_upto_region 20 with (fail)
                  go_region_held3 (fun Wx => Wx.cell? ⟨q, 2, none⟩ = some (.slice (some ⟨pg, po, none⟩) fps.length pc) ∧ Wx.cell? ⟨pg, po + j * 2, none⟩ = some (.string (str ps0)) ∧ Wx.cell? ⟨pg, po + j * 2 + 1, none⟩ = some (.int .i64 pty) ∧ q < Wx.heap.size ∧ pg < Wx.heap.size)
                    (first | exact ⟨c2, hpc1, hpc2, cl, hpg⟩ | exact hP.out _ J1)
                    (first
                      | (go_at_call 33; (with_reducible refine Calls.mono (HTY.out _) ?_); rintro e x1 ⟨rfl, b1⟩; have J1 : Below wr.heap.size wr x1 := by first | exact J0.trans (b1.mono J0.size) | exact J0.drew.trans (b1.mono J0.size)))
                  all_goals
                    have HJ3 := Lib.hid J1
                    clear J0 J1
                    go_wp2_with fail
                    go_roundw
                    case rel => exact ⟨j + 1, _, by omega, by go_num, rfl, Lib.hid HNX.out, HBX.out.trans (HJ3.out.mono HBX.out.size)⟩
                    case measure => simp [intOf]; omega
                · have hadd0 := fun W : World => run_string_add_sum (P := Tryz.prog) W (str y) (str [44, 32]) (by rw [str_size, str_size]; (try simp); omega)
                  have hadd1 := fun W : World => run_string_add_sum (P := Tryz.prog) W (str (y ++ [44, 32])) (str (typeW pty)) (by rw [str_size, str_size]; (try simp); omega)
                  have hadd2 := fun W : World => run_string_add_sum (P := Tryz.prog) W (str ((y ++ [44, 32]) ++ typeW pty)) (str [32]) (by rw [str_size, str_size]; (try simp); omega)
                  have hadd3 := fun W : World => run_string_add_sum (P := Tryz.prog) W (str (((y ++ [44, 32]) ++ typeW pty) ++ [32])) (str ps0) (by rw [str_size, str_size]; (try simp); omega)
                  have hadd4 := fun W : World => run_string_add_sum (P := Tryz.prog) W (str ((((y ++ [44, 32]) ++ typeW pty) ++ [32]) ++ ps0)) (str [32]) (by rw [str_size, str_size]; (try simp); omega)
                  simp only [str_append] at hadd0 hadd1 hadd2 hadd3 hadd4
                  have HNX : Hid (((((y ++ [44, 32]) ++ typeW pty) ++ [32]) ++ ps0) ++ [32] = V ++ pmL (fps.take (j + 1))) := Lib.hid (by rw [HSN3.out, HY.out, if_neg (fun e => h0 (by have := congrArg List.length e; rw [List.length_take, List.length_nil] at this; omega))]; simp)
                  have hd : decide ((0 : Int) < (j : Int)) = true := by simp; omega
                  have hd2 : decide (0 < j) = true := by simp; omega
                  clear htw hsl hyl hbx hbf hlow h0
                  generalize typeW pty = T at *
                  generalize y ++ [44, 32] = y0 at *
                  generalize y0 ++ T = v1 at *
                  generalize v1 ++ [32] = v2 at *
                  generalize v2 ++ ps0 = v3 at *
                  generalize v3 ++ [32] = v4 at *
                  go_upto_region 20 with (fail)
                  go_region_held3 (fun Wx => Wx.cell? ⟨q, 2, none⟩ = some (.slice (some ⟨pg, po, none⟩) fps.length pc) ∧ Wx.cell? ⟨pg, po + j * 2, none⟩ = some (.string (str ps0)) ∧ Wx.cell? ⟨pg, po + j * 2 + 1, none⟩ = some (.int .i64 pty) ∧ q < Wx.heap.size ∧ pg < Wx.heap.size)
                    (first | exact ⟨c2, hpc1, hpc2, cl, hpg⟩ | exact hP.out _ J1)
                    (first
                      | (go_at_call 33; (with_reducible refine Calls.mono (HTY.out _) ?_); rintro e x1 ⟨rfl, b1⟩; have J1 : Below wr.heap.size wr x1 := by first | exact J0.trans (b1.mono J0.size) | exact J0.drew.trans (b1.mono J0.size)))
                  all_goals
                    have HJ3 := Lib.hid J1
                    clear J0 J1
                    go_wp2_with fail
                    go_roundw
                    case rel => exact ⟨j + 1, _, by omega, by go_num, rfl, Lib.hid HNX.out, HBX.out.trans (HJ3.out.mono HBX.out.size)⟩
                    case measure => simp [intOf]; omega
              · obtain rfl : fps.length = j := by omega
                have hz0 : y = V ++ pmL fps := by rw [HY.out, List.take_of_length_le (Nat.le_refl _)]
                have HPX2 : Hid (∀ Wx, Below wr.heap.size wr Wx → Calls Tryz.prog 35 #[.agg #[.slice gA gn gc, .slice (some ⟨go, oo, none⟩) fn fc, .slice nA N nc], .int .i64 fb] Wx fun e w' => e = .returned (.string (str (wl false ft))) ∧ Below Wx.heap.size Wx w') := Lib.hid fun Wx hW => HPX.out Wx (HLOW.out.trans (hW.mono HLOW.out.size))
                have hyl : y.length ≤ 900000700 := by rw [hz0, List.length_append]; exact HVL.out
                have hadd1 := fun W : World => run_string_add_sum (P := Tryz.prog) W (str y) (str [41, 32]) (by rw [str_size, str_size]; (try simp); omega)
                have hadd2 := fun W : World => run_string_add_sum (P := Tryz.prog) W (str (y ++ [41, 32])) (str (wl false ft)) (by rw [str_size, str_size]; (try simp); omega)
                have hadd3 := fun W : World => run_string_add_sum (P := Tryz.prog) W (str ((y ++ [41, 32]) ++ wl false ft)) (str [10]) (by rw [str_size, str_size]; (try simp); omega)
                simp only [str_append] at hadd1 hadd2 hadd3
                rw [← hz0] at HSN
                have hbp : Blk wr w.heap.size tPg #[.slice gA gn gc, .slice (some ⟨go, oo, none⟩) fn fc, .slice nA N nc] := ((HB2.out.trans (hbx.mono HB2.out.size)).block _ HBP.out.lt).trans HBP.out
                have p0 : wr.cell? ⟨w.heap.size, 0, none⟩ = some (.slice gA gn gc) := hbp.cell 0
                have p1 : wr.cell? ⟨w.heap.size, 1, none⟩ = some (.slice (some ⟨go, oo, none⟩) fn fc) := hbp.cell 1
                have p2 : wr.cell? ⟨w.heap.size, 2, none⟩ = some (.slice nA N nc) := hbp.cell 2
                have pl := hbp.lt
                have HBP2 := Lib.hid hbp
                clear hz0 hbx hlow hyl hbt hwt HY hbp
                generalize wl false ft = T at *
                generalize y ++ [41, 32] = v1 at *
                generalize v1 ++ T = v2 at *
                generalize v2 ++ [10] = v3 at *
                have hP : Hid (∀ Wx, Below wr.heap.size wr Wx → Wx.cell? ⟨w.heap.size, 0, none⟩ = some (.slice gA gn gc) ∧ Wx.cell? ⟨w.heap.size, 1, none⟩ = some (.slice (some ⟨go, oo, none⟩) fn fc) ∧ Wx.cell? ⟨w.heap.size, 2, none⟩ = some (.slice nA N nc) ∧ Wx.cell? ⟨q, 3, none⟩ = some (.int .i64 fb) ∧ w.heap.size < Wx.heap.size ∧ q < Wx.heap.size) := Lib.hid fun Wx h => by
                  have hz := h.size
                  exact ⟨(h.cell (p := ⟨w.heap.size, 0, none⟩) pl).trans p0, (h.cell (p := ⟨w.heap.size, 1, none⟩) pl).trans p1, (h.cell (p := ⟨w.heap.size, 2, none⟩) pl).trans p2, (h.cell (p := ⟨q, 3, none⟩) cl).trans c3, by omega, by omega⟩
                go_wp2_with fail
                refine (HPX2.out _ (Below.refl _ _)).mono ?_
                rintro e x1 ⟨rfl, b1⟩
                have HJ3 := Lib.hid b1
                clear b1
                go_wp2_with fail
                go_roundw
                case rel => exact ⟨k + 1, _, by omega, by go_num, rfl, Lib.hid HSN.out.symm, HLOW.out.trans (HJ3.out.mono HLOW.out.size), (HJ3.out.block _ HBP2.out.lt).trans HBP2.out⟩
                case measure => simp [intOf]; omega
        · obtain rfl : fn = k := by omega
          have hz0 : z = glL gs ++ fnx ys := by rw [HZ.out, List.take_of_length_le (by rw [← HFN.out]; exact Nat.le_refl _)]
          have HZ0 := Lib.hid hz0
          clear hz0 HZ
          go_wp2_with fail
          go_ret
          exact ⟨by rw [← HZ0.out]; rfl, HBW.out⟩
end
end Go.Proofs.YtlbjjpfhkgagiaaGreatDoor
/-! Pvp -/
namespace Go.Proofs.YtlbjjpfhkgagiaaGreatDoor
open Go.RowKit
set_option linter.unusedVariables false
set_option linter.unusedSimpArgs false

theorem join_fx : ∀ (fl : List (Fn' × Value)) (l : List (Fn' × Tx)), l.map (·.1) = fl.map (·.1) → ∃ ys : List FnX, (ys.map fun y => (y.f, y.v)) = fl ∧ (ys.map fun y => (y.f, y.t)) = l := by
  intro fl
  induction fl with
  | nil => intro l h; cases l with
    | nil => exact ⟨[], rfl, rfl⟩
    | cons _ _ => simp at h
  | cons a fl ih =>
    intro l h
    cases l with
    | nil => simp at h
    | cons b l =>
      simp only [List.map_cons, List.cons.injEq] at h
      obtain ⟨ys, e1, e2⟩ := ih l h.2
      exact ⟨⟨a.1, a.2, b.2⟩ :: ys, by simp [e1], by simp [e2, ← h.1]⟩
theorem pprint_m {l : List UInt8} {pg : Pg} (hr : readL l = some pg) {B : Nat} {w : World} {gv fv nv : Value} {fl : List (Fn' × Value)} {ns : List NV} (h : PgM B w pg gv fv nv fl ns) :
    Calls Tryz.prog 12 #[.agg #[gv, fv, nv]] w fun e w' => e = .returned (.string (str (progT pg))) ∧ Below w.heap.size w w' := by
  obtain ⟨s, hok⟩ := read_good hr
  obtain ⟨s2, hok2, hl⟩ := read_ok hr
  have hbd : Bnd pg := hok2.bnd (by omega)
  obtain ⟨l', -, -, hgo, -, -, -, -, htot⟩ := prints_of (V := TkV) (fun t h => h) hok2 (by omega) h.fe
  obtain ⟨hG, hF, hP, hN⟩ := h.views
  obtain ⟨b1, b2, b3, b4⟩ := h.bnds hbd
  obtain ⟨gA, gc, rfl, -⟩ := id hG
  obtain ⟨fA, fc, rfl, -⟩ := id hF
  obtain ⟨nA, nc, rfl, -⟩ := id hN.sl
  have hsz : pg.t.size ≤ 4000 := by rw [← hok.c]; exact hok.le
  have hnl : ns.length = pg.t.size := by have := congrArg List.length h.nl; rw [List.length_map, Fo.flat_length] at this; exact this
  obtain ⟨lx, e1, e2, e3⟩ := Bls.px (B := w) (gA := gA) (fA := fA) (nA := nA) (gn := pg.g.length) (gc := gc) (fn := fl.length) (fc := fc) (N := ns.length) (nc := nc) (by omega) pg.t 0 pg.f hok.bl hok.rt
    (fun i n hi => by rw [Nat.zero_add]; exact Nds.ndw hN (by rw [h.nl]; exact hi)) (by omega)
  obtain ⟨ys, f1, f2⟩ := join_fx fl lx (by rw [e1, h.fe])
  have hT : progT pg = glL pg.g ++ fnx ys := by rw [progT, ← e2, ← f2]; rfl
  rw [hT] at htot ⊢
  have hin : ∀ y ∈ ys, (y.f, y.v) ∈ fl ∧ (y.f, y.t) ∈ lx ∧ y.f ∈ pg.f := fun y hy => by
    have h1 : (y.f, y.v) ∈ fl := by rw [← f1]; exact List.mem_map.2 ⟨y, hy, rfl⟩
    exact ⟨h1, by rw [← f2]; exact List.mem_map.2 ⟨y, hy, rfl⟩, by rw [← h.fe]; exact List.mem_map.2 ⟨_, h1, rfl⟩⟩
  have hyl : ys.length = fl.length := by have := congrArg List.length f1; rw [List.length_map] at this; exact this
  refine pprint_any w pg.g ys hG (by rw [f1]; exact hF) (fun y hy => hP _ (hin y hy).1) hgo (fun y hy => ?_) b1 (by omega) (by rw [List.length_append] at htot; exact htot)
  obtain ⟨h1, h2, h3⟩ := hin y hy
  obtain ⟨p1, p2, p3⟩ := e3 _ h2
  have hv := hok.fn _ h3
  have hv2 := hok2.fn _ h3
  exact ⟨p1, p2, p3, by have := hv.ty; omega, (Nm.sl (fun t h => h) hv2.nm).1, fun p hp => ⟨by have := (hv.ps p hp).1; omega, (Nm.sl (fun t h => h) (hv2.ps p hp).2).1⟩, b3 _ h1⟩
theorem copy_m {pg : Pg} {B : Nat} {w : World} {gv fv nv : Value} {fl : List (Fn' × Value)} {ns : List NV} (h : PgM B w pg gv fv nv fl ns) (hb : Bnd pg) :
    Calls Tryz.prog 10 #[.agg #[gv, fv, nv]] w fun e w' => ∃ gv' fv' nv' ml ms, e = .returned (.agg #[gv', fv', nv']) ∧ PgM w.heap.size w' pg gv' fv' nv' ml ms ∧ Below w.heap.size w w' := by
  obtain ⟨hG, hF, hP, hN⟩ := h.views
  obtain ⟨b1, b2, b3, b4⟩ := h.bnds hb
  exact copyPr_any pg fl ns gv fv nv w hG hF hP hN h.fe h.nl b1 b2 b3 b4
/-- Lex and Parse of a text, one behind the other, as the law has them: tokens, the first error, and what Parse answers. -/
theorem toks_ok (l : List UInt8) (hl : l.length ≤ 1048576) : (lexL l).1.length ≤ 2000000 ∧ (∀ t ∈ (lexL l).1, t.s.length ≤ 140737488355328) ∧ (∀ no p, parseL (lexL l).1 = .er no p → no ≠ 0) ∧ parseL (lexL l).1 ≠ .out := by
  refine ⟨?_, ?_, parse_e _, parse_ends _⟩
  · by_cases h : (lexL l).2.1 = 0
    · have := lex_toks h; omega
    · rw [(lex_err hl h).1]; simp
  · by_cases h : (lexL l).2.1 = 0
    · intro t ht; have := ((lex_toks h).2.2 t ht).sl; omega
    · rw [(lex_err hl h).1]; intro t ht; cases ht
set_option maxHeartbeats 4000000 in
set_option maxRecDepth 100000 in
theorem parsePrints_walk (s : ByteArray) (w : World) (hs : s.size ≤ maxLen) (hE : EnvW w.heap.size w) :
    Calls Tryz.prog 3 #[.string s] w fun e w' => e = .returned (.bool true) ∧ Below w.heap.size w w' := by
  unfold maxLen at hs
  by_cases hbig : 8192 < s.size
  · have HW := Lib.hid (works_any w hE)
    clear hE
    go_enter Tryz.func3, Tryz.ntmps3
    go_wp2_with fail
    refine HW.out.mono ?_
    rintro e w' ⟨rfl, hb⟩
    have HB := Lib.hid hb
    clear hb HW
    go_wp2_with fail
    go_ret
    exact ⟨rfl, HB.out⟩
  · have hL := lex_any s (by unfold maxLen; omega) w hE.en
    obtain ⟨t1, t2, t3, t4⟩ := toks_ok s.data.toList (by rw [← Lib.size_eq]; omega)
    obtain ⟨R, hR⟩ : ∃ R, readL s.data.toList = R := ⟨_, rfl⟩
    have hR2 := hR
    unfold readL at hR2
    obtain ⟨⟨toks, no, at_⟩, hx⟩ : ∃ x, lexL s.data.toList = x := ⟨_, rfl⟩
    rw [hx] at hL t1 t2 t3 t4 hR2
    simp only at t1 t2 t3 t4 hR2
    have HR := Lib.hid hR
    have HR2 := Lib.hid hR2
    have HE := Lib.hid hE
    have HT := Lib.hid (And.intro t3 t4)
    have HT2 := Lib.hid t2
    clear hE hR hR2 hx t3 t4 t2
    go_enter Tryz.func3, Tryz.ntmps3
    go_wp2_with fail
    refine hL.mono ?_
    rintro e w1 hp
    clear hL
    obtain ⟨A, c, rfl, hr, hlc, hcm, hA0, hb⟩ := lexp_use hp
    simp only at hr hlc ⊢
    have HB1 := Lib.hid hb
    have HR1 := Lib.hid hr
    have HLC := Lib.hid (And.intro hlc (And.intro hcm (And.intro hA0 t1)))
    clear hp hb hr hlc hcm hA0 t1
    go_upto_region 4 with (fail)
    have d2 := Blk.new w1 tD #[.int .i64 no, .int .i64 at_]
    have hr2 : RdT (w1.alloc (.cells #[.int .i64 no, .int .i64 at_] tD)) (w1.alloc (.cells #[.int .i64 no, .int .i64 at_] tD)).heap.size A toks := (HR1.out.below ((Below.refl _ _).alloc (Nat.le_refl _) _)).more (by simp)
    have hb2 := HB1.out.alloc HB1.out.size (.cells #[.int .i64 no, .int .i64 at_] tD)
    generalize w1.alloc (.cells #[.int .i64 no, .int .i64 at_] tD) = W2 at *
    have HB2 := Lib.hid hb2
    have hE2 := (HE.out.below HB2.out).more HB2.out.size
    have HE2 := Lib.hid hE2
    have HPA := Lib.hid (parse_any toks toks.length c rfl HLC.out.2.2.2 HLC.out.1 HLC.out.2.1 A HLC.out.2.2.1 W2 hr2 HT2.out hE2.ty)
    have D2 := Lib.hid d2
    clear hr2 hE2 d2 hb2 HR1 HLC HT2
    go_wp2_with fail
    refine HPA.out.mono ?_
    rintro e w3 hp3
    clear HPA
    obtain ⟨A0, n0, c0, A1, n1, c1, A2, n2, c2, n, p, rfl, hkey⟩ : ∃ A0 n0 c0 A1 n1 c1 A2 n2 c2 n p, e = .returned (.tuple #[.agg #[.slice A0 n0 c0, .slice A1 n1 c1, .slice A2 n2 c2], .agg #[.int .i64 n, .int .i64 p]]) ∧
        ((no ≠ 0 ∨ n ≠ 0) ∨ (no = 0 ∧ n = 0 ∧ ∃ pg fl ns, R = some pg ∧ PgM W2.heap.size w3 pg (.slice A0 n0 c0) (.slice A1 n1 c1) (.slice A2 n2 c2) fl ns)) := by
      obtain ⟨-, hp⟩ := hp3
      have hR2 := HR2.out
      cases hP : parseL toks with
      | out => exact absurd hP HT.out.2
      | er n p =>
        rw [hP] at hp
        exact ⟨none, 0, 0, none, 0, 0, none, 0, 0, n, p, hp, .inl (.inr (HT.out.1 n p hP))⟩
      | ok pg st =>
        rw [hP] at hp
        obtain ⟨gv, fv, nv, fl, ns, rfl, hM⟩ := hp
        obtain ⟨⟨A0, n0, c0, rfl⟩, ⟨A1, n1, c1, rfl⟩, A2, n2, c2, rfl⟩ := hM.sl
        refine ⟨A0, n0, c0, A1, n1, c1, A2, n2, c2, 0, 0, rfl, ?_⟩
        by_cases h0 : no = 0
        · refine .inr ⟨h0, rfl, pg, fl, ns, ?_, hM⟩
          rw [← hR2, if_neg (by simpa using h0), hP]
        · exact .inl (.inl h0)
    have hb3 := hp3.1
    have HB3 := Lib.hid (HB2.out.trans (hb3.mono HB2.out.size))
    have hd3 := (hb3.block _ D2.out.lt).trans D2.out
    have HK := Lib.hid hkey
    have D3 : Hid (Blk w3 w1.heap.size tD #[.int .i64 no, .int .i64 at_]) := Lib.hid hd3
    clear hp3 hb3 hd3 hkey D2 HB2 HE2 HR2 HT
    go_upto_region 5 with (fail)
    have bA : Blk ((w3.alloc (.cells #[.slice A0 n0 c0, .slice A1 n1 c1, .slice A2 n2 c2] tPg)).alloc (.cells #[.int .i64 n, .int .i64 p] tD)) w3.heap.size tPg #[.slice A0 n0 c0, .slice A1 n1 c1, .slice A2 n2 c2] := (Blk.new w3 tPg _).alloc _
    have bD := Blk.new (w3.alloc (.cells #[.slice A0 n0 c0, .slice A1 n1 c1, .slice A2 n2 c2] tPg)) tD #[.int .i64 n, .int .i64 p]
    have eD : (w3.alloc (.cells #[.slice A0 n0 c0, .slice A1 n1 c1, .slice A2 n2 c2] tPg)).heap.size = w3.heap.size + 1 := by simp
    rw [eD] at bD
    have b3 := (D3.out.alloc (.cells #[.slice A0 n0 c0, .slice A1 n1 c1, .slice A2 n2 c2] tPg)).alloc (.cells #[.int .i64 n, .int .i64 p] tD)
    have hbl : Below w3.heap.size w3 ((w3.alloc (.cells #[.slice A0 n0 c0, .slice A1 n1 c1, .slice A2 n2 c2] tPg)).alloc (.cells #[.int .i64 n, .int .i64 p] tD)) := ((Below.refl _ _).alloc (Nat.le_refl _) _).alloc (by simp) _
    clear eD
    generalize (w3.alloc (.cells #[.slice A0 n0 c0, .slice A1 n1 c1, .slice A2 n2 c2] tPg)).alloc (.cells #[.int .i64 n, .int .i64 p] tD) = W4 at *
    have a0 : W4.cell? ⟨w3.heap.size, 0, none⟩ = some (.slice A0 n0 c0) := bA.cell 0
    have a1 : W4.cell? ⟨w3.heap.size, 1, none⟩ = some (.slice A1 n1 c1) := bA.cell 1
    have a2 : W4.cell? ⟨w3.heap.size, 2, none⟩ = some (.slice A2 n2 c2) := bA.cell 2
    have al := bA.lt
    have d0 : W4.cell? ⟨w1.heap.size, 0, none⟩ = some (.int .i64 no) := b3.cell 0
    have dl := b3.lt
    have e0 : W4.cell? ⟨w3.heap.size + 1, 0, none⟩ = some (.int .i64 n) := bD.cell 0
    have el := bD.lt
    have HB4 := Lib.hid (HB3.out.trans (hbl.mono HB3.out.size))
    have HBL := Lib.hid hbl
    have BA := Lib.hid bA
    have HE4 := Lib.hid ((HE.out.below HB4.out).more HB4.out.size)
    clear bA bD b3 hbl
    rcases HK.out with hbad | ⟨rfl, rfl, pg, fl, ns, hRs, hM⟩
    · have HWK := Lib.hid (works_any W4 HE4.out)
      have HBAD := Lib.hid hbad
      by_cases h0 : no = 0
      · have hn : n ≠ 0 := by
          rcases hbad with h | h
          · exact absurd h0 h
          · exact h
        have e1 : (no != 0) = false := by simpa using h0
        have e2 : (n != 0) = true := by simpa using hn
        clear hbad h0 hn HK
        go_wp2_with fail
        refine HWK.out.mono ?_
        rintro e w5 ⟨rfl, hb5⟩
        have HB5 := Lib.hid (HB4.out.trans (hb5.mono HB4.out.size))
        clear hb5
        go_wp2_with fail
        go_ret
        exact ⟨rfl, HB5.out⟩
      · have e1 : (no != 0) = true := by simpa using h0
        clear hbad h0 HK
        go_wp2_with fail
        refine HWK.out.mono ?_
        rintro e w5 ⟨rfl, hb5⟩
        have HB5 := Lib.hid (HB4.out.trans (hb5.mono HB4.out.size))
        clear hb5
        go_wp2_with fail
        go_ret
        exact ⟨rfl, HB5.out⟩
    · have hP : readL s.data.toList = some pg := by rw [HR.out, hRs]
      obtain ⟨so, hok, hl⟩ := read_ok hP
      have hbd : Bnd pg := hok.bnd (by omega)
      have hM4 := hM.on HBL.out
      have HCP := Lib.hid (copy_m hM4 hbd)
      have HM4 := Lib.hid hM4
      have HPP := Lib.hid (And.intro hP hbd)
      clear HK hRs hM hM4 hP hok hl hbd HR
      go_wp2_with fail
      refine HCP.out.mono ?_
      rintro e w5 ⟨gu, fu, nu, ml, ms, rfl, hM5, hb5⟩
      obtain ⟨⟨A3, n3, c3, rfl⟩, ⟨A4, n4, c4, rfl⟩, A5, n5, c5, rfl⟩ := hM5.sl
      have HMp := Lib.hid (HM4.out.on hb5)
      have HMx := Lib.hid hM5
      have HB5 := Lib.hid (HB4.out.trans (hb5.mono HB4.out.size))
      have BA5 : Hid (Blk w5 w3.heap.size tPg #[.slice A0 n0 c0, .slice A1 n1 c1, .slice A2 n2 c2]) := Lib.hid ((hb5.block _ BA.out.lt).trans BA.out)
      clear hb5 hM5 HM4 HCP a0 a1 a2 al d0 dl e0 el
      go_upto_region 8 with (fail)
      have bX := Blk.new w5 tPg #[.slice A3 n3 c3, .slice A4 n4 c4, .slice A5 n5 c5]
      have hk : Below w5.heap.size w5 (w5.alloc (.cells #[.slice A3 n3 c3, .slice A4 n4 c4, .slice A5 n5 c5] tPg)) := (Below.refl _ _).alloc (Nat.le_refl _) _
      generalize w5.alloc (.cells #[.slice A3 n3 c3, .slice A4 n4 c4, .slice A5 n5 c5] tPg) = W6 at *
      have HB6 := Lib.hid (HB5.out.trans (hk.mono HB5.out.size))
      have HMp6 := Lib.hid (HMp.out.on hk)
      have HMx6 := Lib.hid (HMx.out.on hk)
      have bP : Blk W6 w3.heap.size tPg #[.slice A0 n0 c0, .slice A1 n1 c1, .slice A2 n2 c2] := (hk.block _ BA5.out.lt).trans BA5.out
      have HE6 := Lib.hid ((HE.out.below HB6.out).more HB6.out.size)
      have HC : Hid ((∀ W, Below W6.heap.size W6 W → Calls Tryz.prog 11 #[.agg #[(.slice A3 n3 c3), (.slice A4 n4 c4), (.slice A5 n5 c5)]] W fun e w' => e = .returned (.string (str (progT pg))) ∧ Below W.heap.size W w') ∧
          (∀ W, Below W6.heap.size W6 W → Calls Tryz.prog 12 #[.agg #[(.slice A0 n0 c0), (.slice A1 n1 c1), (.slice A2 n2 c2)]] W fun e w' => e = .returned (.string (str (progT pg))) ∧ Below W.heap.size W w') ∧
          (∀ W, Below W6.heap.size W6 W → Calls Tryz.prog 13 #[.agg #[(.slice A3 n3 c3), (.slice A4 n4 c4), (.slice A5 n5 c5)], .agg #[(.slice A0 n0 c0), (.slice A1 n1 c1), (.slice A2 n2 c2)]] W fun e w' => e = .returned (.bool true) ∧ Below W.heap.size W w') ∧
          (∀ W, Below W6.heap.size W6 W → Calls Tryz.prog 7 #[] W fun e w' => e = .returned (.bool true) ∧ Below W.heap.size W w')) :=
        Lib.hid ⟨fun W hW => print_m HPP.out.1 HMx6.out HE6.out W hW, fun W hW => pprint_m HPP.out.1 (HMp6.out.on hW), fun W hW => same_m (HMx6.out.on hW) (HMp6.out.on hW) HPP.out.2, fun W hW => works_any W ((HE6.out.below hW).more hW.size)⟩
      have C0 := Lib.hid (And.intro bP bX)
      have pa0 : W6.cell? ⟨w3.heap.size, 0, none⟩ = some (.slice A0 n0 c0) := C0.out.1.cell 0
      have pa1 : W6.cell? ⟨w3.heap.size, 1, none⟩ = some (.slice A1 n1 c1) := C0.out.1.cell 1
      have pa2 : W6.cell? ⟨w3.heap.size, 2, none⟩ = some (.slice A2 n2 c2) := C0.out.1.cell 2
      have pal := C0.out.1.lt
      have pb0 : W6.cell? ⟨w5.heap.size, 0, none⟩ = some (.slice A3 n3 c3) := C0.out.2.cell 0
      have pb1 : W6.cell? ⟨w5.heap.size, 1, none⟩ = some (.slice A4 n4 c4) := C0.out.2.cell 1
      have pb2 : W6.cell? ⟨w5.heap.size, 2, none⟩ = some (.slice A5 n5 c5) := C0.out.2.cell 2
      have pbl := C0.out.2.lt
      have HS : Hid (∀ Wx, Below W6.heap.size W6 Wx → Wx.cell? ⟨w3.heap.size, 0, none⟩ = some (.slice A0 n0 c0) ∧ Wx.cell? ⟨w3.heap.size, 1, none⟩ = some (.slice A1 n1 c1) ∧ Wx.cell? ⟨w3.heap.size, 2, none⟩ = some (.slice A2 n2 c2) ∧ w3.heap.size < Wx.heap.size ∧ Wx.cell? ⟨w5.heap.size, 0, none⟩ = some (.slice A3 n3 c3) ∧ Wx.cell? ⟨w5.heap.size, 1, none⟩ = some (.slice A4 n4 c4) ∧ Wx.cell? ⟨w5.heap.size, 2, none⟩ = some (.slice A5 n5 c5) ∧ w5.heap.size < Wx.heap.size) := Lib.hid fun Wx h => by
        have hz := h.size
        exact ⟨(h.cell (p := ⟨w3.heap.size, 0, none⟩) pal).trans pa0, (h.cell (p := ⟨w3.heap.size, 1, none⟩) pal).trans pa1, (h.cell (p := ⟨w3.heap.size, 2, none⟩) pal).trans pa2, by omega, (h.cell (p := ⟨w5.heap.size, 0, none⟩) pbl).trans pb0, (h.cell (p := ⟨w5.heap.size, 1, none⟩) pbl).trans pb1, (h.cell (p := ⟨w5.heap.size, 2, none⟩) pbl).trans pb2, by omega⟩
      have J : Below W6.heap.size W6 W6 := Below.refl _ _
      generalize progT pg = T at *
      clear hk bP bX HMp HMx HMp6 HMx6 HE6 BA5 HB5 C0 BA HE4 HBL HB3 D3
      go_region_held3 (fun W => W.cell? ⟨w3.heap.size, 0, none⟩ = some (.slice A0 n0 c0) ∧ W.cell? ⟨w3.heap.size, 1, none⟩ = some (.slice A1 n1 c1) ∧ W.cell? ⟨w3.heap.size, 2, none⟩ = some (.slice A2 n2 c2) ∧ w3.heap.size < W.heap.size ∧ W.cell? ⟨w5.heap.size, 0, none⟩ = some (.slice A3 n3 c3) ∧ W.cell? ⟨w5.heap.size, 1, none⟩ = some (.slice A4 n4 c4) ∧ W.cell? ⟨w5.heap.size, 2, none⟩ = some (.slice A5 n5 c5) ∧ w5.heap.size < W.heap.size)
        (first | exact ⟨pa0, pa1, pa2, pal, pb0, pb1, pb2, pbl⟩ | exact HS.out _ J)
        (first
          | (go_at_call 11; (with_reducible refine Calls.mono (HC.out.1 _ ?hw) ?_); (case hw => first | exact J | exact J.drew); rintro e v1 ⟨rfl, b1⟩; have J : Below W6.heap.size W6 v1 := by first | exact J.trans (b1.mono J.size) | exact J.drew.trans (b1.mono J.drew.size))
          | (go_at_call 12; (with_reducible refine Calls.mono (HC.out.2.1 _ ?hw) ?_); (case hw => first | exact J | exact J.drew); rintro e v2 ⟨rfl, b2⟩; have J : Below W6.heap.size W6 v2 := by first | exact J.trans (b2.mono J.size) | exact J.drew.trans (b2.mono J.drew.size))
          | (go_at_call 13; (with_reducible refine Calls.mono (HC.out.2.2.1 _ ?hw) ?_); (case hw => first | exact J | exact J.drew); rintro e v3 ⟨rfl, b3⟩; have J : Below W6.heap.size W6 v3 := by first | exact J.trans (b3.mono J.size) | exact J.drew.trans (b3.mono J.drew.size))
          | (go_at_call 7; (with_reducible refine Calls.mono (HC.out.2.2.2 _ ?hw) ?_); (case hw => first | exact J | exact J.drew); rintro e v4 ⟨rfl, b4⟩; have J : Below W6.heap.size W6 v4 := by first | exact J.trans (b4.mono J.size) | exact J.drew.trans (b4.mono J.drew.size)))
      all_goals
        have HJ := Lib.hid (HB6.out.trans (J.mono HB6.out.size))
        clear J
        go_wp2_with fail
        first
          | exact ⟨rfl, HJ.out⟩
          | (go_ret; exact ⟨rfl, HJ.out⟩)
end Go.Proofs.YtlbjjpfhkgagiaaGreatDoor
