/-
  Layer ir: walks of returned, next, Writes, read, operate.
-/
import Derived.Test.YtgcjfbgfoiekmaaIvm
namespace Go.Proofs.Ytgcjfbgfoiekmaa
open Go Go.RowKit Go.Maps
set_option linter.unusedVariables false
set_option linter.unusedSimpArgs false

theorem returned_any {X : Mc} {w : World} {rb : Nat} {r : List Int} {ov : Value} (h : RgV X w rb r ov) (a : Int) (ha : 0 ≤ a → inR r a = true) :
    Calls Try.prog 34 #[rgs rb r.length, .int .i64 a] w fun e w' => e = .returned (.int .i64 (retd r a)) ∧ Below w.heap.size w w' := by
  by_cases h0 : a < 0
  · have e : retd r a = 0 := by unfold retd; rw [if_pos h0]
    rw [e]
    clear ha e
    unfold rgs
    go_enter Try.func34, Try.ntmps34
    go_wp2
    go_ret
    exact ⟨rfl, Below.refl _ _⟩
  · obtain ⟨k, rfl, hlt⟩ := inR_nat (ha (by omega))
    have e : retd r (k : Int) = at0 r k := by unfold retd; rw [if_neg h0]
    rw [e]
    obtain ⟨c, hc, -⟩ := h.cell hlt
    have hl := h.blk.lt
    generalize at0 r (k : Int) = v at *
    generalize r.length = n at *
    clear ha e h
    unfold rgs
    go_enter Try.func34, Try.ntmps34
    go_wp2
    go_ret
    exact ⟨rfl, Below.refl _ _⟩

set_option maxHeartbeats 400000 in
theorem next_any {X : Mc} {w : World} {rb : Nat} {r : List Int} {ov : Value} (h : RgV X w rb r ov) (b : Eb) (ha : b.k = 2 → inR r b.a = true) :
    Calls Try.prog 35 #[rgs rb r.length, .agg (ebA b)] w fun e w' => e = .returned (.int .i64 (nxt r b)) ∧ Below w.heap.size w w' := by
  have hb1 : Below w.heap.size w (w.alloc (.cells (ebA b) tEn)) := (Below.refl _ _).alloc (Nat.le_refl _) _
  have HB1 := Lib.hid hb1
  have HQ := Lib.hid (Blk.new w tEn (ebA b))
  have HR := Lib.hid (h.km (.of hb1))
  obtain ⟨res, hres⟩ : ∃ r', nxt r b = r' := ⟨_, rfl⟩
  have HRES := Lib.hid hres
  rw [hres]
  clear h hb1 hres
  unfold ebA at HB1 HQ HR ⊢
  obtain ⟨k, a, to, el⟩ := b
  simp only at HB1 HQ HR ha ⊢
  unfold rgs
  go_enter Try.func35, Try.ntmps35
  go_upto_region 1 with (fail)
  generalize w.alloc (.cells #[.int .i64 k, .int .i64 a, .int .i64 to, .int .i64 el] tEn) = W1 at *
  have q0 : W1.cell? ⟨w.heap.size, 0, none⟩ = some (.int .i64 k) := HQ.out.cell 0
  have q1 : W1.cell? ⟨w.heap.size, 1, none⟩ = some (.int .i64 a) := HQ.out.cell 1
  have q2 : W1.cell? ⟨w.heap.size, 2, none⟩ = some (.int .i64 to) := HQ.out.cell 2
  have q3 : W1.cell? ⟨w.heap.size, 3, none⟩ = some (.int .i64 el) := HQ.out.cell 3
  have ql := HQ.out.lt
  by_cases h2 : k = 2
  · subst h2
    obtain ⟨j, rfl, hlt⟩ := inR_nat (ha rfl)
    obtain ⟨c, hc, -⟩ := HR.out.cell hlt
    have rl := HR.out.blk.lt
    have hn : nxt r ⟨2, j, to, el⟩ = if at0 r j = 0 then el else to := by unfold nxt; simp
    rw [hn] at HRES
    clear hn HR HQ ha
    generalize at0 r (j : Int) = v at *
    generalize r.length = n at *
    by_cases hv : v = 0
    · subst hv
      have e := HRES.out
      rw [if_pos rfl] at e
      subst e
      clear HRES
      go_wp2
      go_ret
      exact ⟨rfl, HB1.out⟩
    · have e := HRES.out
      rw [if_neg hv] at e
      subst e
      clear HRES
      have d1 : (v == 0) = false := by simpa using hv
      clear hv
      go_wp2
      go_ret
      exact ⟨rfl, HB1.out⟩
  · have d1 : (k == 2) = false := by simpa using h2
    have e := HRES.out
    unfold nxt at e
    rw [if_neg (fun h => h2 h.1)] at e
    subst e
    clear HRES HR HQ ha h2
    go_wp2
    go_ret
    exact ⟨rfl, HB1.out⟩

set_option maxHeartbeats 1000000 in
theorem writes_any (i : Ins) (av : Value) (w : World) (hf : 1 ≤ i.op ∧ i.op ≤ 11) :
    Calls Try.prog 45 #[.agg (insA i av)] w fun e w' => e = .returned (.int .i64 (wrs i)) ∧ Below w.heap.size w w' := by
  have hb1 : Below w.heap.size w (w.alloc (.cells (insA i av) tIn)) := (Below.refl _ _).alloc (Nat.le_refl _) _
  have HB1 := Lib.hid hb1
  have HQ := Lib.hid (Blk.new w tIn (insA i av))
  obtain ⟨op, ty, dst, a, b, n, s, args⟩ := i
  unfold insA at HB1 HQ ⊢
  simp only at hf HB1 HQ ⊢
  have hop : op = 1 ∨ op = 2 ∨ op = 3 ∨ op = 4 ∨ op = 5 ∨ op = 6 ∨ op = 7 ∨ op = 8 ∨ op = 9 ∨ op = 10 ∨ op = 11 := by omega
  clear hf hb1
  obtain ⟨res, hres⟩ : ∃ r, wrs ⟨op, ty, dst, a, b, n, s, args⟩ = r := ⟨_, rfl⟩
  rw [hres]
  have HRES := Lib.hid hres
  have HOP := Lib.hid hop
  clear hres hop
  go_enter Try.func45, Try.ntmps45
  go_upto_region 1 with (fail)
  generalize w.alloc (.cells #[.int .i64 op, .int .i64 ty, .int .i64 dst, .int .i64 a, .int .i64 b, .int .i64 n, .string (str s), av] tIn) = W1 at *
  have q0 : W1.cell? ⟨w.heap.size, 0, none⟩ = some (.int .i64 op) := HQ.out.cell 0
  have q2 : W1.cell? ⟨w.heap.size, 2, none⟩ = some (.int .i64 dst) := HQ.out.cell 2
  have ql := HQ.out.lt
  clear HQ
  have hres := HRES.out
  rcases HOP.out with rfl | rfl | rfl | rfl | rfl | rfl | rfl | rfl | rfl | rfl | rfl
  all_goals
    simp [wrs] at hres
    subst hres
    clear HRES HOP
    go_wp2
    all_goals
      go_ret
      first
        | exact ⟨rfl, HB1.out⟩
        | exact ⟨by rw [show max dst (-1) = -1 by omega]; rfl, HB1.out⟩
        | exact ⟨by rw [show max dst (-1) = dst by omega]; rfl, HB1.out⟩
end Go.Proofs.Ytgcjfbgfoiekmaa
