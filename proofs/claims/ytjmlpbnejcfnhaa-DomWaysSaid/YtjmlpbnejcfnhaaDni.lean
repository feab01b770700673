/-
  Layer dom: walk of the law's reaches.
-/
import Derived.Test.YtjmlpbnejcfnhaaDng
import Derived.Test.YtjmlpbnejcfnhaaDnh
namespace Go.Proofs.Ytjmlpbnejcfnhaa
open Go Go.RowKit Go.Maps
set_option linter.unusedVariables false
set_option linter.unusedSimpArgs false

/-- How many cells of a row are false. -/
def offN (w : World) (g n : Nat) : Nat := (List.range n).countP (fun j => match w.cell? ⟨g, j, none⟩ with
  | some (.bool b) => !b
  | _ => false)
theorem cf_range (s : List Bool) : cf s = (List.range s.length).countP (fun j => match s[j]? with
  | some b => !b
  | none => false) := by
  induction s with
  | nil => rfl
  | cons x s ih =>
    unfold cf at ih ⊢
    rw [List.length_cons, List.range_succ_eq_map, List.countP_cons, List.countP_cons, List.countP_map, ih]
    rfl
theorem offN_eq {w : World} {g n : Nat} {s : List Bool} (h : Blk w g tBo (blC s)) (hn : s.length = n) : offN w g n = cf s := by
  subst hn
  rw [cf_range]
  unfold offN
  refine List.countP_congr fun j hj => ?_
  have hjl := List.mem_range.1 hj
  rw [h.bl (List.getElem?_eq_getElem hjl), List.getElem?_eq_getElem hjl]
def onB : Value → Nat
  | .bool true => 1
  | _ => 0
theorem tosC_at {c : Cod} {i : Nat} {b : Blo} (h : c.bl[i]? = some b) : (tosC c).getD i [] = tosN b.e := by
  rw [List.getD_eq_getElem?_getD]
  unfold tosC esB
  rw [List.getElem?_map, List.getElem?_map, h]
  rfl
theorem blC_size (s : List Bool) : (blC s).size = s.length := by simp [blC]
set_option maxHeartbeats 8000000 in
set_option maxRecDepth 100000 in
theorem reaches_any {w : World} {c : Cod} {rv bv : Value} (h : CdD w c rv bv) (a : Int) :
    Calls Try.prog 23 #[.agg (codA c rv bv), .int .i64 a] w fun e w' => ∃ g s, e = .returned (.slice (some ⟨g, 0, none⟩) c.bl.length c.bl.length) ∧ w.heap.size ≤ g ∧ Blk w' g tBo (blC s) ∧ s.length = c.bl.length ∧ (∀ b : Nat, s[b]? = some true ↔ Rb (tosC c) a b) ∧ Below w.heap.size w w' := by
  obtain ⟨rA, rn, rc, rfl⟩ := h.r
  obtain ⟨bA, bc, rfl⟩ : ∃ A k, bv = .slice A c.bl.length k := by obtain ⟨A, k, e, _⟩ := h.b; exact ⟨A, k, e⟩
  obtain ⟨N, hN⟩ : ∃ N, c.bl.length = N := ⟨_, rfl⟩
  have hTN : (tosC c).length = N := by unfold tosC; rw [List.length_map, h.len, hN]
  have hN4 : N ≤ 400 := by rw [← hN]; exact h.m
  have hN0 : 0 < N := by rw [← hN]; exact List.length_pos_iff.2 h.ne
  rw [hN] at h ⊢
  obtain ⟨H, hH⟩ : ∃ x, x = w.heap.size := ⟨_, rfl⟩
  obtain ⟨w1, hw1⟩ : ∃ x, x = w.alloc (.cells (codA c (.slice rA rn rc) (.slice bA N bc)) 34) := ⟨_, rfl⟩
  have hb1 : Below H w w1 := by rw [hw1, hH]; exact (Below.refl _ w).alloc (Nat.le_refl _) _
  have hs1 : w1.heap.size = H + 1 := by rw [hw1, hH]; simp
  have hbx : Blk w1 H 34 (codA c (.slice rA rn rc) (.slice bA N bc)) := by rw [hw1, hH]; exact Blk.new w _ _
  obtain ⟨w2, hw2⟩ : ∃ x, x = w1.alloc (.cells (blC (List.replicate N false)) tBo) := ⟨_, rfl⟩
  have hq2 : Blk w2 (H + 1) tBo (blC (List.replicate N false)) := by rw [hw2, ← hs1]; exact Blk.new w1 _ _
  have hb2 : Below (H + 1) w1 w2 := by rw [hw2, ← hs1]; exact (Below.refl _ w1).alloc (Nat.le_refl _) _
  have hmk := make_bools N (by omega) w1
  have hRo : RowsOk N (tosC c) := by have h9 := tosN_ok h.ok; rw [h.len, hN] at h9; exact h9
  have HC := Lib.hid (And.intro h (And.intro hN (And.intro hTN (And.intro hH hRo))))
  have c4 : w1.cell? ⟨H, 4, none⟩ = some (.slice bA N bc) := hbx.cell 4
  have cl := hbx.lt
  rw [hs1, ← hw2] at hmk
  have HW := Lib.hid hw1
  have HF := Lib.hid (And.intro hb1 (And.intro hbx (And.intro hq2 hb2)))
  clear h hN hTN hRo hbx hw1 hb1 hq2 hb2 hw2 hs1
  unfold codA at HW ⊢
  go_enter Try.func23, Try.ntmps23
  go_upto_region 1 with (fail)
  rw [← HW.out, ← hH]
  clear hH
  by_cases ha : a = 0
  · subst ha
    clear HW
    go_wp2_with fail
    go_ret
    obtain ⟨hb1, hbx, hq2, hb2⟩ := HF.out
    rw [← HC.out.2.2.2.1]
    refine ⟨H + 1, _, rfl, by omega, hq2, by simp, fun b => ⟨fun hb => ?_, fun hr => absurd hr rb_none⟩, ?_⟩
    · rw [List.getElem?_replicate] at hb
      split at hb <;> cases hb
    · exact hb1.trans (hb2.mono (by omega))
  · have d0 : (a == 0) = false := by simpa using ha
    have q0 : w2.cell? ⟨H + 1, 0, none⟩ = some (.bool false) := HF.out.2.2.1.bl (by rw [List.getElem?_replicate, if_pos hN0])
    have ql := HF.out.2.2.1.lt
    have qf := HF.out.2.2.1.frozen 0
    have hb02 : Below H w w2 := HF.out.1.trans (HF.out.2.2.2.mono (by omega))
    have HBW : Hid (∀ W, Below (H + 1) w2 W → W.cell? ⟨H, 4, none⟩ = some (.slice bA N bc) ∧ H < W.heap.size ∧ Below H w W) := Lib.hid fun W hW =>
      have h9 := (HF.out.2.1.below HF.out.2.2.2 (by omega)).below hW (by omega)
      ⟨h9.cell 4, h9.lt, hb02.trans (hW.mono (by omega))⟩
    have hrs0 := RsM.start (T := tosC c) (a := a) (by rw [HC.out.2.2.1]; exact hN0) ha
    have hq3 := HF.out.2.2.1.bl_set 0 true
    have hb3 : Below (H + 1) w2 (w2.setCell ⟨H + 1, 0, none⟩ (.bool true)) := (Below.refl _ _).setCell (p := ⟨H + 1, 0, none⟩) (Nat.le_refl _) _
    rw [HC.out.2.2.1] at hrs0
    have H0 := Lib.hid (And.intro hq3 (And.intro hrs0 hb3))
    clear HW hrs0 hq3 hb3 hb02
    go_wp2_with fail
    generalize w2.setCell ⟨H + 1, 0, none⟩ (.bool true) = W0 at *
    clear q0 ql qf c4 cl hmk
    go_loopw [6] (fun v wr => ∃ (mo : Bool) (s : List Bool), v = .bool mo ∧ Blk wr (H + 1) tBo (blC s) ∧ RsM (tosC c) a s ∧ Below (H + 1) w2 wr ∧ (mo = true ∨ CloM (tosC c) a s N)) (fun v wr => 2 * offN wr (H + 1) N + onB v)
    case atStart => exact ⟨true, _, rfl, H0.out.1, H0.out.2.1, H0.out.2.2, .inl rfl⟩
    case round =>
      clear H0
      obtain ⟨mo, s, rfl, hq, hrs, hbe, hcl⟩ := hrel
      obtain ⟨wo, hwo⟩ : ∃ x, x = wr := ⟨_, rfl⟩
      subst hwo
      cases mo with
      | false =>
        have HE := Lib.hid (And.intro hq (And.intro hrs (And.intro hbe (hcl.resolve_left (by simp)))))
        clear hq hrs hbe hcl
        go_wp2_with fail
        go_ret
        obtain ⟨hq, hrs, hbe, hcl⟩ := HE.out
        rw [← HC.out.2.2.2.1]
        refine ⟨H + 1, s, rfl, by omega, hq, by rw [hrs.len, HC.out.2.2.1], fun b => hrs.fin (by rw [HC.out.2.2.1]; exact hcl) b, (HBW.out _ hbe).2.2⟩
      | true =>
        have hsl : s.length = N := by rw [hrs.len, HC.out.2.2.1]
        have hof := offN_eq hq hsl
        have HE := Lib.hid (And.intro hq (And.intro hrs (And.intro hbe (And.intro hsl hof))))
        clear hq hrs hbe hcl hsl hof
        go_wp2_with fail
        go_loopw [6, 7] (fun s6 s7 wi => ∃ (mo : Bool) (i : Nat) (s1 : List Bool), s6 = .bool mo ∧ s7 = .int .i64 i ∧ i ≤ N ∧ Blk wi (H + 1) tBo (blC s1) ∧ RsM (tosC c) a s1 ∧ Below (H + 1) w2 wi ∧ (mo = false → CloM (tosC c) a s1 i ∧ cf s1 ≤ cf s) ∧ (mo = true → cf s1 < cf s)) (fun _ s7 _ => N - (intOf s7).toNat)
        case atStart => exact ⟨false, 0, s, rfl, rfl, by omega, HE.out.1, HE.out.2.1, HE.out.2.2.1, fun _ => ⟨fun u hu => by omega, Nat.le_refl _⟩, fun h => by cases h⟩
        case round =>
          obtain ⟨mo, i, s1, rfl, rfl, hi, hq, hrs, hbe, hf, ht⟩ := hrel
          obtain ⟨wi, hwi⟩ : ∃ x, x = wr := ⟨_, rfl⟩
          subst hwi
          obtain ⟨c4, cl, hbw⟩ := HBW.out _ hbe
          have hs1l : s1.length = N := by rw [hrs.len, HC.out.2.2.1]
          by_cases hin : i < N
          · obtain ⟨x, hx⟩ : ∃ x, s1[i]? = some x := ⟨_, List.getElem?_eq_getElem (by rw [hs1l]; exact hin)⟩
            have q1 : wi.cell? ⟨H + 1, i, none⟩ = some (.bool x) := hq.bl hx
            have ql := hq.lt
            cases x with
            | false =>
              have HI := Lib.hid (And.intro hq (And.intro hrs (And.intro hbe (And.intro hf (And.intro ht hx)))))
              clear hq hrs hbe hf ht hx hbw
              go_wp2_with fail
              go_roundw
              case rel =>
                obtain ⟨hq, hrs, hbe, hf, ht, hx⟩ := HI.out
                exact ⟨mo, i + 1, s1, rfl, by go_num, by omega, hq, hrs, hbe, fun h => ⟨(hf h).1.next (.inl hx), (hf h).2⟩, ht⟩
              case measure => simp [intOf]; omega
            | true =>
              have hib : i < c.bl.length := by rw [HC.out.2.1]; exact hin
              obtain ⟨g, o, c9, hv9, hg, -, -, hiw, cv, hcv, hxx⟩ := HC.out.1.b.at hib
              simp only [Value.slice.injEq] at hv9
              obtain ⟨rfl, -, -⟩ := hv9
              obtain ⟨⟨code, k0, a0, to0, el0⟩, hblo⟩ : ∃ b, c.bl[i]? = some b := ⟨_, List.getElem?_eq_getElem hib⟩
              have hT := tosC_at hblo
              have hnz := nz_tosN HC.out.1.ok (List.mem_map.2 ⟨_, List.mem_of_getElem? hblo, rfl⟩ : (⟨k0, a0, to0, el0⟩ : Eb) ∈ esB c.bl)
              simp only at hT
              rw [← hT] at hnz
              have hb9 : c.bl[i] = ⟨code, k0, a0, to0, el0⟩ := by rw [List.getElem?_eq_getElem hib] at hblo; exact Option.some.inj hblo
              rw [hb9] at hxx hcv
              obtain ⟨cA, ccc, rfl, -⟩ := hcv.sl
              simp only [bloC] at hxx
              have hgH : g < H := by rw [HC.out.2.2.2.1]; exact hg
              have x0 := (hbw.cell (p := ⟨g, _, none⟩) hgH).trans (hxx 0 _ rfl)
              have x1 := (hbw.cell (p := ⟨g, _, none⟩) hgH).trans (hxx 1 _ rfl)
              have x2 := (hbw.cell (p := ⟨g, _, none⟩) hgH).trans (hxx 2 _ rfl)
              have x3 := (hbw.cell (p := ⟨g, _, none⟩) hgH).trans (hxx 3 _ rfl)
              have x4 := (hbw.cell (p := ⟨g, _, none⟩) hgH).trans (hxx 4 _ rfl)
              simp only [Nat.add_zero] at x0
              have hgl : g < wi.heap.size := by have := hbw.size; omega
              obtain ⟨L, hL⟩ : ∃ L, (tosC c).getD i [] = L := ⟨_, rfl⟩
              obtain ⟨ln, hln⟩ : ∃ x, L.length = x := ⟨_, rfl⟩
              have hLN : ∀ v ∈ L, v < N := fun v hv => HC.out.2.2.2.2.get (by rw [hL]; exact hv)
              rw [hL] at hnz
              generalize code.length = cn at *
              have HI := Lib.hid (And.intro hq (And.intro hrs (And.intro hbe (And.intro hf (And.intro ht (And.intro hx (And.intro hnz (And.intro hL (And.intro hln hLN)))))))))
              clear hq hrs hbe hf ht hx hbw hxx hcv hiw hblo hT hnz hL hln hLN hib hb9 hg
              go_wp2_with fail
              refine (tos_any ⟨k0, a0, to0, el0⟩ _).mono ?_
              rintro e w4 ⟨tv, rfl, hrd, hb4⟩
              rw [← HI.out.2.2.2.2.2.2.1] at hrd
              have hnl : (nz L).length = ln := by rw [← HI.out.2.2.2.2.2.2.2.2.1]; simp [nz]
              obtain ⟨tA, tc, rfl, htl, htm⟩ := hrd.sl
              rw [hnl] at hrd htl ⊢
              unfold maxLen at htm
              obtain ⟨W5, hW5⟩ : ∃ x, x = w4.heap.size := ⟨_, rfl⟩
              rw [← hW5] at hrd
              have hwi := HI.out.1.lt
              have H4 := Lib.hid (And.intro hrd (And.intro (HI.out.1.on hb4) (And.intro (HI.out.2.2.1.trans (hb4.mono (by omega))) hW5)))
              clear hrd hb4 x0 x1 x2 x3 x4 q1 ql c4 cl hW5 hwi hgl
              go_wp2_with fail
              go_loopw [6, 9] (fun s6 s9 wk => ∃ (mo : Bool) (k : Nat) (s2 : List Bool), s6 = .bool mo ∧ s9 = .int .i64 k ∧ k ≤ ln ∧ Blk wk (H + 1) tBo (blC s2) ∧ RsM (tosC c) a s2 ∧ Below (H + 1) w2 wk ∧ s2[i]? = some true ∧ RdI wk wi.heap.size W5 (.slice tA ln tc) (nz L) ∧ (mo = false → CloM (tosC c) a s2 i ∧ ClkM (tosC c) a s2 i k ∧ cf s2 ≤ cf s) ∧ (mo = true → cf s2 < cf s)) (fun _ s9 _ => ln - (intOf s9).toNat)
              case atStart => exact ⟨mo, 0, s1, rfl, rfl, by omega, H4.out.2.1, HI.out.2.1, H4.out.2.2.1, HI.out.2.2.2.2.2.1, H4.out.1, fun h => ⟨(HI.out.2.2.2.1 h).1, fun m v hm => by omega, (HI.out.2.2.2.1 h).2⟩, HI.out.2.2.2.2.1⟩
              case round =>
                obtain ⟨mo, k, s2, rfl, rfl, hk, hq, hrs, hbe, hsi, hrd, hf, ht⟩ := hrel
                obtain ⟨wk, hwk⟩ : ∃ x, x = wr := ⟨_, rfl⟩
                subst hwk
                have hs2l : s2.length = N := by rw [hrs.len, HC.out.2.2.1]
                by_cases hkl : k < ln
                · have hkL : k < L.length := by rw [HI.out.2.2.2.2.2.2.2.2.1]; exact hkl
                  obtain ⟨v, hv⟩ : ∃ v, L[k]? = some v := ⟨_, List.getElem?_eq_getElem hkL⟩
                  have hvN := HI.out.2.2.2.2.2.2.2.2.2 v (List.mem_of_getElem? hv)
                  obtain ⟨g5, o5, c5, e5, hg5, hg5h, y5⟩ := hrd.at (nz_at hv)
                  simp only [Value.slice.injEq] at e5
                  obtain ⟨rfl, -, -⟩ := e5
                  have hv2 : ((tosC c).getD i [])[k]? = some v := by rw [HI.out.2.2.2.2.2.2.2.1]; exact hv
                  obtain ⟨x, hx⟩ : ∃ x, s2[v]? = some x := ⟨_, List.getElem?_eq_getElem (by rw [hs2l]; exact hvN)⟩
                  have q1 : wk.cell? ⟨H + 1, v, none⟩ = some (.bool x) := hq.bl hx
                  have qf := hq.frozen v
                  have ql := hq.lt
                  have gl : g5 < wk.heap.size := World.block_lt_of_cell? wk _ y5
                  have HK := Lib.hid (And.intro hq (And.intro hrs (And.intro hbe (And.intro hsi (And.intro hrd (And.intro hf (And.intro ht (And.intro hv2 hx))))))))
                  clear hq hrs hbe hsi hrd hf ht hv2 hx hv
                  by_cases hva : (v : Int) = a
                  · have d1 : (((v : Nat) : Int) != a) = false := by simpa using hva
                    go_wp2_with fail
                    go_roundw
                    case rel =>
                      obtain ⟨hq, hrs, hbe, hsi, hrd, hf, ht, hv2, hx⟩ := HK.out
                      exact ⟨mo, k + 1, s2, rfl, by go_num, by omega, hq, hrs, hbe, hsi, hrd, fun h => ⟨(hf h).1, (hf h).2.1.next hv2 (.inl hva), (hf h).2.2⟩, ht⟩
                    case measure => simp [intOf]; omega
                  · have d1 : (((v : Nat) : Int) != a) = true := by simpa using hva
                    cases x with
                    | true =>
                      go_wp2_with fail
                      go_roundw
                      case rel =>
                        obtain ⟨hq, hrs, hbe, hsi, hrd, hf, ht, hv2, hx⟩ := HK.out
                        exact ⟨mo, k + 1, s2, rfl, by go_num, by omega, hq, hrs, hbe, hsi, hrd, fun h => ⟨(hf h).1, (hf h).2.1.next hv2 (.inr hx), (hf h).2.2⟩, ht⟩
                      case measure => simp [intOf]; omega
                    | false =>
                      go_wp2_with fail
                      go_roundw
                      case rel =>
                        obtain ⟨hq, hrs, hbe, hsi, hrd, hf, ht, hv2, hx⟩ := HK.out
                        have hc9 := cf_set hx
                        refine ⟨true, k + 1, s2.set v true, rfl, by go_num, by omega, hq.bl_set v true, hrs.step hsi hv2 hva, hbe.setCell (p := ⟨H + 1, v, none⟩) (Nat.le_refl _) _, ?_, hrd.keep fun b hb1 hb2 => Below.heap_setCell wk ⟨H + 1, v, none⟩ _ b (by show b ≠ H + 1; have := HI.out.1.lt; omega), fun h => by (cases h), fun _ => ?_⟩
                        · by_cases e : v = i
                          · subst e; rw [List.getElem?_set_self (by rw [hs2l]; exact hvN)]
                          · rw [List.getElem?_set_ne e]; exact hsi
                        · cases mo
                          · have := (hf rfl).2.2; omega
                          · have := ht rfl; omega
                      case measure => simp [intOf]; omega
                · obtain rfl : k = ln := by omega
                  have HK := Lib.hid (And.intro hq (And.intro hrs (And.intro hbe (And.intro hsi (And.intro hf ht)))))
                  clear hq hrs hbe hsi hrd hf ht
                  go_wp2_with fail
                  go_roundw
                  case rel =>
                    obtain ⟨hq, hrs, hbe, hsi, hf, ht⟩ := HK.out
                    exact ⟨mo, i + 1, s2, rfl, by go_num, by omega, hq, hrs, hbe, fun h => ⟨(hf h).1.next (.inr (by rw [HI.out.2.2.2.2.2.2.2.1, HI.out.2.2.2.2.2.2.2.2.1]; exact (hf h).2.1)), (hf h).2.2⟩, ht⟩
                  case measure => simp [intOf]; omega
          · obtain rfl : i = N := by omega
            have hof := offN_eq hq hs1l
            have HI := Lib.hid (And.intro hq (And.intro hrs (And.intro hbe (And.intro hf (And.intro ht hof)))))
            clear hq hrs hbe hf ht hbw hof
            go_wp2_with fail
            go_roundw
            case rel =>
              obtain ⟨hq, hrs, hbe, hf, ht, hof⟩ := HI.out
              refine ⟨mo, s1, rfl, hq, hrs, hbe, ?_⟩
              cases mo
              · exact .inr (hf rfl).1
              · exact .inl rfl
            case measure =>
              obtain ⟨hq, hrs, hbe, hf, ht, hof⟩ := HI.out
              rw [HE.out.2.2.2.2, hof]
              cases mo
              · have := (hf rfl).2
                simp only [onB]; omega
              · have := ht rfl
                simp only [onB]; omega
end Go.Proofs.Ytjmlpbnejcfnhaa
