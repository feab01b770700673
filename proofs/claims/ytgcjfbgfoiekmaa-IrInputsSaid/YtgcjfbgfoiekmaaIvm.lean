/-
  Layer ir: walks of the machine's small functions.
-/
import Derived.Test.YtgcjfbgfoiekmaaIvl
namespace Go.Proofs.Ytgcjfbgfoiekmaa
open Go Go.RowKit Go.Maps
set_option linter.unusedVariables false
set_option linter.unusedSimpArgs false

/-! numbers in their bounds -/
theorem iw_of {x : Int} (h : -9223372036854775808 ≤ x ∧ x ≤ 9223372036854775807) : iw x := iw_iff.2 h
theorem iw_32 {x : Int} (h : -2147483648 ≤ x ∧ x ≤ 2147483647) : iw x := iw_iff.2 (by omega)
theorem wr_iw (t v : Int) : iw (wr t v) := by
  refine iw_of ?_
  have h1 := w32_bd v
  have h2 := w64_bd v
  unfold wr
  split
  · omega
  split
  · omega
  split <;> omega
theorem tr_bd (c : Bool) : -2147483648 ≤ tr c ∧ tr c ≤ 2147483647 := by cases c <;> decide
def Lo (M : Int) (x : Int × Int) : Prop := -M ≤ x.1 ∧ x.1 ≤ M - 1
theorem lo_ite {M : Int} {c : Prop} [Decidable c] {a b : Int × Int} (h : c → Lo M a) (k : ¬ c → Lo M b) : Lo M (if c then a else b) := by
  split
  · exact h ‹_›
  · exact k ‹_›
theorem bn32_lo (l : List UInt8) (a b : Int) (ha : -2147483648 ≤ a ∧ a ≤ 2147483647) (hb : -2147483648 ≤ b ∧ b ≤ 2147483647) : Lo 2147483648 (bn32 l a b) := by
  have W : ∀ x y, Lo 2147483648 (wrap32 x, y) := fun x y => w32_bd x
  have B : ∀ o x y, Lo 2147483648 (bits o .i32 x y, 0) := fun o x y => bits32_bd o x y
  have T : ∀ c, Lo 2147483648 (tr c, 0) := fun c => tr_bd c
  have Z : ∀ y, Lo 2147483648 (0, y) := fun y => by unfold Lo; simp
  unfold bn32
  refine lo_ite (fun _ => W _ _) fun _ => lo_ite (fun _ => W _ _) fun _ => lo_ite (fun _ => W _ _) fun _ => lo_ite (fun _ => lo_ite (fun _ => Z _) fun h1 => lo_ite (fun _ => Z _) fun h2 => ?_) fun _ => lo_ite (fun _ => lo_ite (fun _ => Z _) fun h1 => ?_) fun _ => lo_ite (fun _ => B _ _ _) fun _ => lo_ite (fun _ => B _ _ _) fun _ => lo_ite (fun _ => B _ _ _) fun _ => lo_ite (fun _ => W _ _) fun _ => lo_ite (fun _ => ?_) fun _ => lo_ite (fun _ => T _) fun _ => lo_ite (fun _ => T _) fun _ => lo_ite (fun _ => T _) fun _ => lo_ite (fun _ => T _) fun _ => lo_ite (fun _ => T _) fun _ => lo_ite (fun _ => T _) fun _ => Z _
  · exact tdiv_bd 2147483648 a b (by omega) (by omega) h1 h2 (by omega)
  · exact tmod_bd a b 2147483648 h1 (by omega) (by omega)
  · exact shr_bd 2147483648 a (b % 32).toNat (by omega) (by omega) (by omega)
theorem bn64_lo (l : List UInt8) (a b : Int) (ha : -9223372036854775808 ≤ a ∧ a ≤ 9223372036854775807) (hb : -9223372036854775808 ≤ b ∧ b ≤ 9223372036854775807) : Lo 9223372036854775808 (bn64 l a b) := by
  have W : ∀ x y, Lo 9223372036854775808 (wrap64 x, y) := fun x y => w64_bd x
  have B : ∀ o x y, Lo 9223372036854775808 (bits o .i64 x y, 0) := fun o x y => bits64_bd o x y
  have T : ∀ c, Lo 9223372036854775808 (tr c, 0) := fun c => by have := tr_bd c; unfold Lo; simp only; omega
  have Z : ∀ y, Lo 9223372036854775808 (0, y) := fun y => by unfold Lo; simp
  unfold bn64
  refine lo_ite (fun _ => W _ _) fun _ => lo_ite (fun _ => W _ _) fun _ => lo_ite (fun _ => W _ _) fun _ => lo_ite (fun _ => lo_ite (fun _ => Z _) fun h1 => lo_ite (fun _ => Z _) fun h2 => ?_) fun _ => lo_ite (fun _ => lo_ite (fun _ => Z _) fun h1 => ?_) fun _ => lo_ite (fun _ => B _ _ _) fun _ => lo_ite (fun _ => B _ _ _) fun _ => lo_ite (fun _ => B _ _ _) fun _ => lo_ite (fun _ => W _ _) fun _ => lo_ite (fun _ => ?_) fun _ => lo_ite (fun _ => T _) fun _ => lo_ite (fun _ => T _) fun _ => lo_ite (fun _ => T _) fun _ => lo_ite (fun _ => T _) fun _ => lo_ite (fun _ => T _) fun _ => lo_ite (fun _ => T _) fun _ => Z _
  · exact tdiv_bd 9223372036854775808 a b (by omega) (by omega) h1 h2 (by omega)
  · exact tmod_bd a b 9223372036854775808 h1 (by omega) (by omega)
  · exact shr_bd 9223372036854775808 a (b % 64).toNat (by omega) (by omega) (by omega)
theorem bn_iw (t : Int) (l : List UInt8) (a b : Int) (ha : iw a) (hb : iw b) : iw (bn t l a b).1 := by
  unfold bn
  by_cases h1 : t = 1
  · rw [if_pos h1]
    have := bn32_lo l _ _ (w32_bd a) (w32_bd b)
    unfold Lo at this
    exact iw_of (by omega)
  · rw [if_neg h1]
    by_cases h2 : t = 2
    · rw [if_pos h2]
      have := bn64_lo l _ _ (iw_iff.1 ha) (iw_iff.1 hb)
      unfold Lo at this
      exact iw_of (by omega)
    · rw [if_neg h2]
      exact iw_of (by simp)

def mcp (X : Mc) : Value := .pointer (some ⟨X.b, 0, none⟩)
/-- The machine's course. -/
def crp (X : Mc) : Value := .pointer (some ⟨X.b, 2, none⟩)
/-- The registers of a call. -/
structure RgV (X : Mc) (w : World) (rb : Nat) (r : List Int) (ov : Value) : Prop where
  blk : Blk w rb tI1 (r.map (Value.int .i64)).toArray
  wf : ∀ x ∈ r, iw x
  base : X.base ≤ rb
  ne : rb ≠ X.b ∧ rb ≠ X.sb ∧ rb ≠ X.mb
  nov : some rb ≠ ov.ownBlock
def rgs (rb n : Nat) : Value := .slice (some ⟨rb, 0, none⟩) n n
section
variable {X : Mc} {w w' : World} {rb : Nat} {r : List Int} {ov ov' : Value}
theorem RgV.km (h : RgV X w rb r ov) (hk : Km X w ov w' ov') : RgV X w' rb r ov' := by
  have hl := h.blk.lt
  refine ⟨(hk.block rb hl h.ne.1 h.ne.2.1 h.ne.2.2 h.nov).trans h.blk, h.wf, h.base, h.ne, ?_⟩
  rcases hk.own with e | ⟨g, e, hg⟩
  · rw [e]; exact h.nov
  · rw [e]; intro e2; simp only [Option.some.injEq] at e2; omega
theorem RgV.cell (h : RgV X w rb r ov) {k : Nat} (hk : k < r.length) : w.cell? ⟨rb, k, none⟩ = some (.int .i64 (at0 r k)) ∧ (k : Int) < r.length ∧ iw (at0 r k) := by
  refine ⟨?_, by omega, ?_⟩
  · rw [at0_lt hk]
    have := h.blk.cell k
    simpa [List.getElem?_eq_getElem hk] using this
  · rw [at0_lt hk]; exact h.wf _ (List.getElem_mem hk)
theorem RgV.isI (h : RgV X w rb r ov) (hl : r.length ≤ 4096) : IsI w w.heap.size (rgs rb r.length) r :=
  ⟨_, r.length, rfl, Nat.le_refl _, by unfold maxLen; omega, fun h => by (cases h), .inr ⟨rb, 0, rfl, h.blk.lt, fun i y hi => by
    obtain ⟨hil, rfl⟩ := List.getElem?_eq_some_iff.1 hi
    have := (h.cell hil).1
    rw [at0_lt hil] at this
    exact ⟨by simpa using this, h.wf _ (List.getElem_mem hil)⟩⟩⟩
end

set_option maxHeartbeats 400000 in
theorem step_any {X : Mc} {k : Int} {w : World} {s : Mst} {ov : Value} (h : McV X k w s ov) (hk : 0 ≤ k) :
    Calls Try.prog 32 #[crp X] w (RnP X (k + 1) w ov (fun _ => .tuple #[]) (stepM s)) := by
  obtain ⟨A, c, hb, -, -, -⟩ := h.iv
  have c4 : w.cell? ⟨X.b, 4, none⟩ = some (.int .i64 s.st) := hb.cell 4
  have f4 := hb.frozen 4
  have hl := hb.lt
  have hst := iw_iff.1 h.st
  by_cases h0 : s.st ≤ 0
  · have e : stepM s = .er 3 0 s := by unfold stepM; rw [if_pos h0]
    rw [e]
    have h1 : McV X 0 w s ov := { h with mp := (by obtain ⟨n, D, a, b, c⟩ := h.mp; exact ⟨n, D, a, b, by omega⟩), bnd := (by have := h.bnd; omega) }
    have H1 := Lib.hid h1
    obtain ⟨st, hs⟩ : ∃ st, s.st = st := ⟨_, rfl⟩
    rw [hs] at c4 h0
    clear h h1 hb e hst hs f4
    unfold crp
    go_enter Try.func32, Try.ntmps32
    go_wp2
    exact pan_end rfl ⟨rfl, _, H1.out, .refl _ _ _⟩
  · have e : stepM s = .ok [] { s with st := s.st - 1 } := by unfold stepM; rw [if_neg h0]
    rw [e]
    have h1 := h.set (j := 4) (x := .int .i64 (s.st - 1)) (s' := { s with st := s.st - 1 }) (k' := k + 1) (fun iv => rfl) rfl rfl rfl rfl (by simp only; omega) (iw_of (by simp only; omega)) h.ca
    have H1 := Lib.hid h1
    obtain ⟨st, hs⟩ : ∃ st, s.st = st := ⟨_, rfl⟩
    rw [hs] at c4 h0 H1 hst ⊢
    have hd : st ≤ 9223372036854775807 := hst.2
    have hd0 : 0 < st := by omega
    clear h h1 hb e hst hs h0
    unfold crp
    go_enter Try.func32, Try.ntmps32
    go_wp2
    go_end0
    exact ⟨rfl, _, H1.out.1, H1.out.2⟩
set_option maxHeartbeats 400000 in
/-- A call is opened, and closed. -/
theorem open_er {X : Mc} {k : Int} {w : World} {s : Mst} {ov : Value} (h : McV X k w s ov) (h32 : 32 ≤ s.calls) :
    Calls Try.prog 30 #[crp X] w fun e w' => e = PanE 2 4 ∧ w = w' := by
  obtain ⟨A, c, hb, -, -, -⟩ := h.iv
  have c5 : w.cell? ⟨X.b, 5, none⟩ = some (.int .i64 s.calls) := hb.cell 5
  have hl := hb.lt
  have d1 : decide (32 ≤ s.calls) = true := by simpa using h32
  generalize s.calls = ca at *
  clear h hb h32
  unfold crp
  go_enter Try.func30, Try.ntmps30
  go_wp2_with fail
  refine (trap_any 4 _).mono ?_
  rintro e w1 ⟨rfl, rfl⟩
  unfold PanE
  go_wp2_with fail
  exact pan_end rfl ⟨rfl, rfl⟩
set_option maxHeartbeats 400000 in
theorem open_ok {X : Mc} {k : Int} {w : World} {s : Mst} {ov : Value} (h : McV X k w s ov) (h32 : ¬ 32 ≤ s.calls) :
    Calls Try.prog 30 #[crp X] w fun e w' => e = .returned (.tuple #[]) ∧ w' = w.setCell ⟨X.b, 5, none⟩ (.int .i64 (s.calls + 1)) := by
  obtain ⟨A, c, hb, -, -, -⟩ := h.iv
  have c5 : w.cell? ⟨X.b, 5, none⟩ = some (.int .i64 s.calls) := hb.cell 5
  have f5 := hb.frozen 5
  have hl := hb.lt
  have d1 : decide (32 ≤ s.calls) = false := by simpa using h32
  have hc0 := h.ca
  have hc1 : s.calls < 32 := by omega
  generalize s.calls = ca at *
  clear h hb h32
  unfold crp
  go_enter Try.func30, Try.ntmps30
  go_wp2_with fail
  go_end0
  exact ⟨rfl, rfl⟩
set_option maxHeartbeats 400000 in
theorem close_ok {X : Mc} {k : Int} {w : World} {s : Mst} {ov : Value} (h : McV X k w s ov) :
    Calls Try.prog 33 #[crp X] w fun e w' => e = .returned (.tuple #[]) ∧ w' = w.setCell ⟨X.b, 5, none⟩ (.int .i64 (s.calls - 1)) := by
  obtain ⟨A, c, hb, -, -, -⟩ := h.iv
  have c5 : w.cell? ⟨X.b, 5, none⟩ = some (.int .i64 s.calls) := hb.cell 5
  have f5 := hb.frozen 5
  have hl := hb.lt
  have hc0 := h.ca
  generalize s.calls = ca at *
  clear h hb
  unfold crp
  go_enter Try.func33, Try.ntmps33
  go_wp2_with fail
  go_end0
  exact ⟨rfl, rfl⟩
end Go.Proofs.Ytgcjfbgfoiekmaa
