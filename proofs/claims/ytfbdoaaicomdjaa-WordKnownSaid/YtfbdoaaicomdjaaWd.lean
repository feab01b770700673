/-
  The statements' own helpers of layer word: 'works', 'kind', 'bin', 'near'; and contracts that hand a world on ('Below w0.heap.size w0 w').
-/
import Derived.Test.YtfbdoaaicomdjaaWc
namespace Go.Proofs.Ytfbdoaaicomdjaa
open Go.RowKit Go.WideMaps Go.Maps

theorem keep {w0 w w' : World} (h : Below w0.heap.size w0 w) (k : Below w.heap.size w w') : Below w0.heap.size w0 w' := h.trans (k.mono h.size)

theorem kw (w0 w : World) (hk : Below w0.heap.size w0 w) (t x : Int) (ht : (Lit.int .i64 t).wf = true) :
    Calls Try.prog 14 #[.int .i64 t, .int .i64 x] w fun e w' => e = .returned (.int .i64 (wr t x)) ∧ Below w0.heap.size w0 w' :=
  (wrap_any t x w ht).mono fun _ _ h => ⟨h.1, keep hk h.2⟩

theorem kwidth (w0 w : World) (hk : Below w0.heap.size w0 w) (t : Int) (ht : (Lit.int .i64 t).wf = true) :
    Calls Try.prog 12 #[.int .i64 t] w fun e w' => e = .returned (.int .i64 (wd t)) ∧ Below w0.heap.size w0 w' :=
  (width_any t w ht).mono fun _ _ h => ⟨h.1, keep hk h.2⟩

/-- 'Bin', its two answers known. -/
theorem kbin (w0 w : World) (hk : Below w0.heap.size w0 w) (t a b x y : Int) (op : ByteArray) (l : List UInt8) (hl : op.toList = l) (hx : bn t l a b = (x, y)) (ha : (Lit.int .i64 a).wf = true) (hb : (Lit.int .i64 b).wf = true) :
    Calls Try.prog 10 #[.int .i64 t, .string op, .int .i64 a, .int .i64 b] w fun e w' => e = .returned (.tuple #[.int .i64 x, .int .i64 y]) ∧ Below w0.heap.size w0 w' :=
  (bin_any t a b op w ha hb).mono fun _ _ h => ⟨by rw [h.1, hl, hx], keep hk h.2⟩

/-- The statements' 'bin': an operation that does not trap, its answer known. -/
theorem klb (w0 w : World) (hk : Below w0.heap.size w0 w) (t a b x : Int) (op : ByteArray) (l : List UInt8) (hl : op.toList = l) (hx : bn t l a b = (x, 0)) (ha : (Lit.int .i64 a).wf = true) (hb : (Lit.int .i64 b).wf = true) :
    Calls Try.prog 18 #[.int .i64 t, .string op, .int .i64 a, .int .i64 b] w fun e w' => e = .returned (.int .i64 x) ∧ Below w0.heap.size w0 w' := by
  have HL := Lib.hid hl
  have HX := Lib.hid hx
  clear hl hx
  go_enter Try.func18, Try.ntmps18
  go_wp2_with fail
  refine (kbin w0 _ hk t a b x 0 op l HL.out HX.out ha hb).mono ?_
  rintro e w1 ⟨rfl, hb1⟩
  go_wp2_with fail
  go_ret
  exact ⟨rfl, hb1⟩

theorem kkind (long : Bool) (w : World) :
    Calls Try.prog 17 #[.bool long] w fun e w' => e = .returned (.int .i64 (if long then 2 else 1)) ∧ w = w' := by
  cases long
  · go_enter Try.func17, Try.ntmps17
    go_wp2
    go_ret
    exact ⟨rfl, rfl⟩
  · go_enter Try.func17, Try.ntmps17
    go_wp2
    go_ret
    exact ⟨rfl, rfl⟩

set_option maxHeartbeats 400000 in
theorem kworks (w0 w : World) (hk : Below w0.heap.size w0 w) :
    Calls Try.prog 16 #[] w fun e w' => e = .returned (.bool true) ∧ Below w0.heap.size w0 w' := by
  have e : wr 3 200 = -56 := by simp [wr]
  have E := Lib.hid e
  clear e
  go_enter Try.func16, Try.ntmps16
  go_wp2_with fail
  refine (kbin w0 _ hk 1 2147483647 1 (-2147483648) 0 _ [43] (by simp) (by decide +kernel) (by decide) (by decide)).mono ?_
  rintro e w1 ⟨rfl, hb1⟩
  clear hk
  go_wp2_with fail
  refine (kbin w0 _ hb1 1 (-7) 2 (-3) 0 _ [47] (by simp) (by decide +kernel) (by decide) (by decide)).mono ?_
  rintro e w2 ⟨rfl, hb2⟩
  clear hb1
  go_wp2_with fail
  refine (kbin w0 _ hb2 1 7 0 0 1 _ [47] (by simp) (by decide +kernel) (by decide) (by decide)).mono ?_
  rintro e w3 ⟨rfl, hb3⟩
  clear hb2
  go_wp2_with fail
  refine (kbin w0 _ hb3 1 (-2147483648) (-1) 0 2 _ [47] (by simp) (by decide +kernel) (by decide) (by decide)).mono ?_
  rintro e w4 ⟨rfl, hb4⟩
  clear hb3
  go_wp2_with fail
  refine (kbin w0 _ hb4 1 (-5) 1 (-3) 0 _ [62, 62] (by simp) (by decide +kernel) (by decide) (by decide)).mono ?_
  rintro e w5 ⟨rfl, hb5⟩
  clear hb4
  go_wp2_with fail
  refine (kw w0 _ hb5 3 200 (by decide)).mono ?_
  rintro e w6 ⟨rfl, hb6⟩
  clear hb5
  rw [E.out]
  go_wp2_with fail
  go_ret
  exact ⟨rfl, hb6⟩
end Go.Proofs.Ytfbdoaaicomdjaa
