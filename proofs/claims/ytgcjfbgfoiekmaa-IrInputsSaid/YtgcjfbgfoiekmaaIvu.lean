/-
  Layer ir: what a program that may be has; an instruction is run, a call among them.
-/
import Derived.Test.YtgcjfbgfoiekmaaIvt
namespace Go.Proofs.Ytgcjfbgfoiekmaa
open Go Go.RowKit Go.Maps
set_option linter.unusedVariables false
set_option linter.unusedSimpArgs false

/-! what a program that may be has -/
structure InsK (m : Mdl) (f : Cod) (i : Ins) : Prop where
  op : 1 ≤ i.op ∧ i.op ≤ 11
  ex : existL f (needL m f i) = true
  pl : placeI m f i = true
  ar : i.op = 9 → (i.args.length : Int) = (fAt m i.n).pr
theorem ins_ok {m : Mdl} {f : Cod} {i : Ins} (h : chkI m f i = 0) : InsK m f i := by
  unfold chkI at h
  by_cases h1 : hasForm i = false
  · rw [if_pos h1] at h; cases h
  rw [if_neg h1] at h
  by_cases h2 : (existL f (needL m f i) && placeI m f i) = false
  · rw [if_pos h2] at h; cases h
  rw [if_neg h2] at h
  by_cases h3 : i.op = 9 ∧ (i.args.length : Int) ≠ (fAt m i.n).pr
  · rw [if_pos h3] at h; cases h
  have h2' : existL f (needL m f i) = true ∧ placeI m f i = true := by simpa using h2
  refine ⟨?_, h2'.1, h2'.2, fun h9 => by
    by_cases he : (i.args.length : Int) = (fAt m i.n).pr
    · exact he
    · exact absurd ⟨h9, he⟩ h3⟩
  unfold hasForm at h1
  by_cases h3 : i.op = 3
  · omega
  by_cases h4 : i.op = 4
  · omega
  rw [if_neg h3, if_neg h4] at h1
  simp only [Bool.and_eq_false_iff, decide_eq_false_iff_not, not_or, Decidable.not_not] at h1
  exact h1
theorem inR_len {α β : Type} {l : List α} {k : List β} (h : l.length = k.length) (x : Int) : inR l x = inR k x := by unfold inR; rw [h]
theorem wrs_in {m : Mdl} {f : Cod} {i : Ins} (h : InsK m f i) (h0 : 0 ≤ wrs i) : inR f.regs (wrs i) = true := by
  have hx := h.ex
  have ho := h.op
  have hop : i.op = 1 ∨ i.op = 2 ∨ i.op = 3 ∨ i.op = 4 ∨ i.op = 5 ∨ i.op = 6 ∨ i.op = 7 ∨ i.op = 8 ∨ i.op = 9 ∨ i.op = 10 ∨ i.op = 11 := by omega
  rcases hop with e | e | e | e | e | e | e | e | e | e | e
  all_goals simp [wrs, e] at h0 ⊢
  all_goals simp [needL, existL, e] at hx
  · exact hx
  · exact hx.2
  · exact hx.2.2
  · exact hx.2
  · exact hx.2
  · exact hx
  · have hd : 0 ≤ i.dst := by omega
    rw [show max i.dst (-1) = i.dst by omega]
    exact hx.2 hd
  · exact hx

theorem RnP.cases {X : Mc} {k : Int} {w : World} {ov : Value} {enc : List Int → Value} {r : Rn} {e : Ending} {w' : World} (h : RnP X k w ov enc r e w') :
    (∃ a b s' ov', r = .er a b s' ∧ e = PanE a b ∧ McV X 0 w' s' ov' ∧ Km X w ov w' ov') ∨ (∃ v s' ov', r = .ok v s' ∧ e = .returned (enc v) ∧ McV X k w' s' ov' ∧ Km X w ov w' ov') := by
  cases r with
  | ok v s' => obtain ⟨h1, ov', h2, h3⟩ := h; exact .inr ⟨v, s', ov', rfl, h1, h2, h3⟩
  | er a b s' => obtain ⟨h1, ov', h2, h3⟩ := h; exact .inl ⟨a, b, s', ov', rfl, h1, h2, h3⟩
  | out => exact h.elim
/-- A call's arguments: they bear that the number of calls is written. -/
def ArgV (X : Mc) (w : World) (v : Value) (args : List Int) : Prop := ∀ u, IsI (w.setCell ⟨X.b, 5, none⟩ u) w.heap.size v args
/-- The contract of a call, with so much fuel. -/
def CallC (X : Mc) (F : Nat) : Prop := ∀ (n : Int) (args : List Int) (v : Value) (s : Mst) (w : World) (ov : Value), McV X 0 w s ov → ArgV X w v args → inR X.m.f n = true → args.length ≤ 100000 → ex X.m F (.call n args) s ≠ .out →
  Calls Try.prog 23 #[.pointer (some ⟨X.b, 0, none⟩), .int .i64 n, v] w (RnP X 0 w ov en1 (ex X.m F (.call n args) s))
section
variable {X : Mc} {w : World} {s : Mst} {ov : Value} {rb : Nat} {r : List Int} {i : Ins} {av : Value} {g p : Nat}
set_option maxHeartbeats 1000000 in
set_option maxRecDepth 100000 in
theorem do9_any {F : Nat} (HC : CallC X F) (h : McV X 1 w s ov) (hr : RgV X w rb r ov) (hi : InA w X.base g p i av) (hav : IsI w X.base av i.args) (hop : i.op = 9) (hl : i.args.length ≤ 100000) (ha : ∀ a ∈ i.args, inR r a = true) (hb : inR X.m.f i.n = true) (hM : ex X.m F (.call i.n (i.args.map (at0 r))) s ≠ .out) :
    Calls Try.prog 44 #[mcp X, rgs rb r.length, .pointer (some ⟨g, p, none⟩)] w (RnP X 0 w ov en1 (ex X.m F (.call i.n (i.args.map (at0 r))) s)) := by
  have c0 : w.cell? ⟨g, p, none⟩ = some (.int .i64 9) := by rw [← hop]; exact hi.2.2 0 _ rfl
  have c5 : w.cell? ⟨g, p + 5, none⟩ = some (.int .i64 i.n) := hi.2.2 5 _ rfl
  have c7 : w.cell? ⟨g, p + 7, none⟩ = some av := hi.2.2 7 _ rfl
  have hg := World.block_lt_of_cell? w _ c0
  simp only at hg
  have hbase : X.base ≤ w.heap.size := by have := h.bb; have := h.lt; omega
  obtain ⟨A, cap, rfl, -, -, -⟩ := hav.sl
  have HV : Hid (∀ W, Below w.heap.size w W → Calls Try.prog 60 #[.slice (some ⟨rb, 0, none⟩) r.length r.length, .slice A i.args.length cap] W fun e w' => ∃ v, e = .returned v ∧ IsI w' w'.heap.size v (i.args.map (at0 r)) ∧ ArgV X w' v (i.args.map (at0 r)) ∧ Below w.heap.size w w') := Lib.hid fun W hW =>
    (valuesOf_any (hr.km (.of hW)) i.args (.slice A i.args.length cap) ((hav.below (hW.mono hbase)).more (by have := hW.size; omega)) ha hl).mono fun e w' ⟨v, h1, h2, h4, h3⟩ => ⟨v, h1, h2, fun u => h4 _ _ _ (by have := h.lt; have := hW.size; omega), hW.trans (h3.mono hW.size)⟩
  obtain ⟨M, hMM⟩ : ∃ M, ex X.m F (.call i.n (i.args.map (at0 r))) s = M := ⟨_, rfl⟩
  have HCC : Hid (∀ W v, Below w.heap.size w W → ArgV X W v (i.args.map (at0 r)) → Calls Try.prog 23 #[.pointer (some ⟨X.b, 0, none⟩), .int .i64 i.n, v] W (RnP X 0 W ov en1 M)) := Lib.hid fun W v hW hv => by
    have := HC i.n (i.args.map (at0 r)) v s W ov ((h.less (by omega)).below hW) hv hb (by simpa using hl) hM
    rw [hMM] at this
    exact this
  rw [hMM]
  have HB : Hid (g < X.base ∧ X.base ≤ w.heap.size) := Lib.hid ⟨hi.2.1, hbase⟩
  have HMC := Lib.hid h
  generalize i.n = nn at *
  generalize i.args.map (at0 r) = vals at *
  generalize i.args.length = an at *
  generalize r.length = rn at *
  have HS : Hid (∀ Wx, Below X.base w Wx → Wx.cell? ⟨g, p + 5, none⟩ = some (.int .i64 nn) ∧ Wx.cell? ⟨g, p + 7, none⟩ = some (.slice A an cap) ∧ g < Wx.heap.size) := Lib.hid fun Wx h => by
    have hz := h.size
    have := HB.out
    exact ⟨(h.cell (p := ⟨g, p + 5, none⟩) this.1).trans c5, (h.cell (p := ⟨g, p + 7, none⟩) this.1).trans c7, by omega⟩
  have J0 : Below w.heap.size w w := Below.refl _ _
  clear h hi hop ha hb hr hM hMM hav hl hbase HC
  unfold mcp rgs
  go_enter Try.func44, Try.ntmps44
  go_wp2_with fail
  go_region_held2 (fun Wx => Wx.cell? ⟨g, p + 5, none⟩ = some (.int .i64 nn) ∧ Wx.cell? ⟨g, p + 7, none⟩ = some (.slice A an cap) ∧ g < Wx.heap.size)
    (first | exact ⟨c5, c7, hg⟩ | exact HS.out _ K9 | exact HS.out _ (J1.mono HB.out.2))
    (first
      | (go_at_call 60; (with_reducible refine Calls.mono (HV.out _ (by first | exact J0.drew | exact J0)) ?_); rintro e v1 ⟨va, rfl, hva, hva2, J1⟩; have HVA := Lib.hid hva2; obtain ⟨vA, vc, rfl, -, -, -⟩ := hva.sl; clear hva hva2)
      | (go_at_call 23; (with_reducible refine Calls.mono (HCC.out _ _ (by first | exact J1 | exact J1.drew) (by exact HVA.out)) ?_); intro e v2 hR; rcases hR.cases with ⟨ea, eb, s', ov', hm, rfl, h3, h4⟩ | ⟨v, s', ov', hm, rfl, h3, h4⟩; (refine pan_end rfl ?_; rw [hm]; exact ⟨rfl, _, h3, (Km.of J1).trans h4⟩); have HQ := Lib.hid (And.intro hm (And.intro h3 ((Km.of J1).trans h4))); have K9 := HQ.out.2.2.low HMC.out; clear hR hm h3 h4))
  all_goals
    go_wp2_with fail
    go_ret
    rw [HQ.out.1]
    exact ⟨rfl, _, HQ.out.2.1, HQ.out.2.2⟩
/-- Whatever instruction. -/
theorem do_any {F : Nat} {f : Cod} (HC : CallC X F) (h : McV X 1 w s ov) (hst : 0 ≤ s.st) (hr : RgV X w rb r ov) (hrl : r.length = f.regs.length) (hi : InA w X.base g p i av) (hav : IsI w X.base av i.args) (hl : i.op = 9 → i.args.length ≤ 100000) (hk : InsK X.m f i)
    (hM : (if i.op = 9 then ex X.m F (.call i.n (i.args.map (at0 r))) s else doM X.m r i s) ≠ .out) :
    Calls Try.prog 44 #[mcp X, rgs rb r.length, .pointer (some ⟨g, p, none⟩)] w (RnP X 0 w ov en1 (if i.op = 9 then ex X.m F (.call i.n (i.args.map (at0 r))) s else doM X.m r i s)) := by
  have hx := hk.ex
  have hp := hk.pl
  have ho := hk.op
  have hop : i.op = 1 ∨ i.op = 2 ∨ i.op = 3 ∨ i.op = 4 ∨ i.op = 5 ∨ i.op = 6 ∨ i.op = 7 ∨ i.op = 8 ∨ i.op = 9 ∨ i.op = 10 ∨ i.op = 11 := by omega
  rcases hop with e | e | e | e | e | e | e | e | e | e | e
  · rw [if_neg (by omega)]
    exact do1_any h hi e
  · rw [if_neg (by omega)]
    simp [needL, existL, e, ← inR_len hrl] at hx
    exact do2_any h hr hi e hx.1
  · rw [if_neg (by omega)]
    simp [needL, existL, e, ← inR_len hrl] at hx
    exact do3_any h hr hi e hx.1 hx.2.1
  · rw [if_neg (by omega)]
    simp [needL, existL, e, ← inR_len hrl] at hx
    exact do4_any h hr hi e hx.1
  · rw [if_neg (by omega)]
    simp [needL, existL, e, ← inR_len hrl] at hx
    simp [placeI, e] at hp
    exact do5_any h hr hi e hx.1 hp.1
  · rw [if_neg (by omega)]
    simp [needL, existL, e, ← inR_len hrl] at hx
    simp [placeI, e] at hp
    exact do6_any h hst hr hi e hx.1 hx.2 hp.1
  · rw [if_neg (by omega)]
    simp [placeI, e] at hp
    exact do7_any h hi e hp.1
  · rw [if_neg (by omega)]
    simp [needL, existL, e, ← inR_len hrl] at hx
    simp [placeI, e] at hp
    exact do8_any h hr hi e hx hp.1
  · rw [if_pos e] at hM ⊢
    simp [needL, existL, e, ← inR_len hrl] at hx
    simp [placeI, e] at hp
    refine do9_any HC h hr hi hav e (hl e) (fun a ha => ?_) hp.1 hM
    obtain ⟨x, hx1, rfl⟩ := List.mem_iff_getElem.1 ha
    exact hx.1 _ _ x hx1 rfl rfl
  · rw [if_neg (by omega)]
    exact do10_any h hi e
  · rw [if_neg (by omega)]
    simp [needL, existL, e, ← inR_len hrl] at hx
    exact do11_any h hst hr hi e hx
end
end Go.Proofs.Ytgcjfbgfoiekmaa
