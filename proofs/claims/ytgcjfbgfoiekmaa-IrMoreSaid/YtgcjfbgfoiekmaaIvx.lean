/-
  Layer ir, mathematics: what a function that may be has; calls that are open stay as they are.
-/
import Derived.Test.YtgcjfbgfoiekmaaIvw
namespace Go.Proofs.Ytgcjfbgfoiekmaa
open Go Go.RowKit Go.Maps
set_option linter.unusedVariables false
set_option linter.unusedSimpArgs false

structure EbK (f : Cod) (e : Eb) : Prop where
  k1 : e.k = 1 → inR f.bl e.to = true
  k2 : e.k = 2 → inR f.bl e.to = true ∧ inR f.bl e.el = true ∧ inR f.regs e.a = true
  k3 : e.k = 3 → 0 ≤ e.a → inR f.regs e.a = true
  k : e.k = 1 ∨ e.k = 2 ∨ e.k = 3
structure FunK (m : Mdl) (f : Cod) : Prop where
  bl : 0 < f.bl.length
  rl : f.regs.length ≤ 4096
  pr : 0 ≤ f.pr ∧ f.pr ≤ f.regs.length
  ins : ∀ b ∈ f.bl, (∀ i ∈ b.code, InsK m f i) ∧ EbK f b.e
theorem ebk_of {f : Cod} {e : Eb} (h : chkE f e = 0) : EbK f e := by
  unfold chkE at h
  by_cases h1 : e.k = 1
  · rw [if_pos h1] at h
    refine ⟨fun _ => ?_, fun h => by omega, fun h => by omega, .inl h1⟩
    cases hh : inR f.bl e.to
    · rw [hh] at h; simp at h
    · rfl
  rw [if_neg h1] at h
  by_cases h2 : e.k = 2
  · rw [if_pos h2] at h
    refine ⟨fun h => absurd h h1, fun _ => ?_, fun h => by omega, .inr (.inl h2)⟩
    by_cases hh : (inR f.bl e.to && inR f.bl e.el && inR f.regs e.a) = false
    · rw [if_pos hh] at h; cases h
    · simpa [and_assoc] using hh
  rw [if_neg h2] at h
  by_cases h3 : e.k = 3
  · rw [if_pos h3] at h
    refine ⟨fun h => absurd h h1, fun h => absurd h h2, fun _ ha => ?_, .inr (.inr h3)⟩
    rw [if_pos ha] at h
    by_cases hh : inR f.regs e.a = false
    · rw [if_pos hh] at h; cases h
    · simpa using hh
  · rw [if_neg h3] at h; cases h
theorem fst0_all {l : List Int} (h : fst0 l = 0) : ∀ x ∈ l, x = 0 := by
  induction l with
  | nil => intro x hx; cases hx
  | cons y l ih =>
    intro x hx
    unfold fst0 at h
    by_cases hy : y = 0
    · rw [if_pos hy] at h
      rcases List.mem_cons.1 hx with rfl | hx
      · exact hy
      · exact ih h x hx
    · rw [if_neg hy] at h; exact absurd h hy
theorem funk_of {m : Mdl} {f : Cod} (h : chkF m f = 0) : FunK m f := by
  have ha := fst0_all h
  have h0 : chkH f = 0 := ha _ (by simp)
  have h1 : ¬ (f.bl = [] ∨ 400 < f.bl.length ∨ 4096 < f.regs.length) := fun hc => by unfold chkH at h0; rw [if_pos hc] at h0; cases h0
  have h2 : ¬ (f.pr < 0 ∨ (f.regs.length : Int) < f.pr) := fun hc => by unfold chkH at h0; rw [if_neg h1, if_pos hc] at h0; cases h0
  have h3 : 0 < f.bl.length := by
    cases hb : f.bl with
    | nil => exact absurd (.inl hb) h1
    | cons _ _ => simp
  refine ⟨h3, by omega, by omega, fun b hb => ?_⟩
  have h4 : chkB m f b = 0 := ha _ (by simp; exact .inr ⟨b, hb, rfl⟩)
  have h5 := fst0_all h4
  exact ⟨fun i hi => ins_ok (h5 _ (by simp; exact .inl ⟨i, hi, rfl⟩)), ebk_of (h5 _ (by simp))⟩
structure ModK (m : Mdl) : Prop where
  f : ∀ f ∈ m.f, FunK m f
  mn : inR m.f (mainAt m) = true
theorem chk_modk {m : Mdl} (h : chk m = 0) : ModK m := by
  unfold chk at h
  by_cases h1 : m.g.all okG = false
  · rw [if_pos h1] at h; cases h
  rw [if_neg h1] at h
  by_cases h2 : fst0 (m.f.map (chkF m)) ≠ 0
  · rw [if_pos h2] at h; exact absurd h h2
  rw [if_neg h2] at h
  by_cases h3 : mainAt m < 0
  · rw [if_pos h3] at h; cases h
  have h4 := fst0_all (by simpa using h2 : fst0 (m.f.map (chkF m)) = 0)
  refine ⟨fun f hf => funk_of (h4 _ (List.mem_map.2 ⟨f, hf, rfl⟩)), ?_⟩
  unfold mainAt at h3 ⊢
  cases hh : m.f.findIdx? (fun f => f.nm == [109, 97, 105, 110]) with
  | none => rw [hh] at h3; simp at h3
  | some k =>
    have := (List.findIdx?_eq_some_iff_getElem.1 hh).1
    simp [inR]; omega
/-- An instruction's arguments are few. -/
theorem ModK.args {m : Mdl} (h : ModK m) {f : Cod} {i : Ins} (hi : InsK m f i) (h9 : i.op = 9) : i.args.length ≤ 100000 := by
  have h1 := hi.ar h9
  have h2 := hi.pl
  simp [placeI, h9] at h2
  obtain ⟨k, hk, hlt⟩ := inR_nat h2.1
  rw [hk, fAt_lt hlt] at h1 h2
  have := (h.f _ (List.getElem_mem hlt)).rl
  omega

/-! calls that are open -/
def CaK (md : Mo) (s s' : Mst) : Prop := match md with
  | .blk _ _ _ => s'.calls = s.calls - 1
  | _ => s'.calls = s.calls
theorem bind_ok {r : Rn} {k : List Int → Mst → Rn} {v : List Int} {s : Mst} (h : r.bind k = .ok v s) : ∃ v1 s1, r = .ok v1 s1 ∧ k v1 s1 = .ok v s := by
  cases r with
  | ok v1 s1 => exact ⟨v1, s1, rfl, h⟩
  | er a b o => cases h
  | out => cases h
theorem stepM_ca {s s2 : Mst} {v : List Int} (h : stepM s = .ok v s2) : s2.calls = s.calls := by
  unfold stepM at h
  split at h
  · cases h
  · simp only [Rn.ok.injEq] at h
    obtain ⟨-, rfl⟩ := h
    rfl
theorem doM_ca {m : Mdl} {r : List Int} {i : Ins} {s s2 : Mst} {v : List Int} (h : doM m r i s = .ok v s2) : s2.calls = s.calls := by
  unfold doM at h
  have one : ∀ {a : List Int} {b : Mst}, Rn.ok a b = .ok v s2 → b.calls = s.calls → s2.calls = s.calls := fun e h => by cases e; exact h
  split at h; · exact one h rfl
  split at h; · exact one h rfl
  split at h
  · split at h
    · cases h
    · exact one h rfl
  split at h; · exact one h rfl
  split at h
  · split at h
    · cases h
    · exact one h rfl
  split at h
  · split at h
    · cases h
    · exact one h rfl
  split at h; · exact one h rfl
  split at h; · exact one h rfl
  split at h; · exact one h rfl
  split at h; · exact one h rfl
  exact one h rfl
theorem ex_ca (m : Mdl) : ∀ n md s v s', ex m n md s = .ok v s' → CaK md s s' := by
  intro n
  induction n with
  | zero => intro md s v s' h; cases h
  | succ n ih =>
    intro md s v s' h
    cases md with
    | call f a =>
      unfold ex at h
      split at h
      · cases h
      · have : s'.calls = s.calls + 1 - 1 := ih _ _ _ _ h
        show s'.calls = s.calls
        omega
    | blk c r p =>
      unfold ex at h
      obtain ⟨v1, s1, h1, h⟩ := bind_ok h
      obtain ⟨v2, s2, h2, h⟩ := bind_ok h
      have e1 : s1.calls = s.calls := ih _ _ _ _ h1
      have e2 := stepM_ca h2
      show s'.calls = s.calls - 1
      split at h
      · cases h
        show s2.calls - 1 = _
        omega
      · have : s'.calls = s2.calls - 1 := ih _ _ _ _ h
        omega
    | code r l =>
      cases l with
      | nil => cases h; rfl
      | cons i l =>
        unfold ex at h
        obtain ⟨v1, s1, h1, h⟩ := bind_ok h
        obtain ⟨v2, s2, h2, h⟩ := bind_ok h
        have e1 := stepM_ca h1
        have e2 : s2.calls = s1.calls := by
          split at h2
          · exact ih _ _ _ _ h2
          · exact doM_ca h2
        have e3 : s'.calls = s2.calls := ih _ _ _ _ h
        show s'.calls = s.calls
        omega
end Go.Proofs.Ytgcjfbgfoiekmaa
