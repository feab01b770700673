/-
  Layer ir: a call.
-/
import Derived.Test.YtgcjfbgfoiekmaaIvx
import Derived.Laws.CopyOwn
namespace Go.Proofs.Ytgcjfbgfoiekmaa
open Go Go.RowKit Go.Maps
set_option linter.unusedVariables false
set_option linter.unusedSimpArgs false

theorem CoP.cases {X : Mc} {rb : Nat} {w : World} {ov : Value} {f : Cod} {r : Rn} {e : Ending} {w' : World} (h : CoP X rb w ov f r e w') :
    (∃ a b s' ov', r = .er a b s' ∧ e = PanE a b ∧ McV X 0 w' s' ov' ∧ Kb X rb w ov w' ov') ∨ (∃ v s' ov', r = .ok v s' ∧ e = .returned (.tuple #[]) ∧ v.length = f.regs.length ∧ McV X 0 w' s' ov' ∧ RgV X w' rb v ov' ∧ Kb X rb w ov w' ov') := by
  cases r with
  | ok v s' => obtain ⟨h1, h2, ov', h3, h4, h5⟩ := h; exact .inr ⟨v, s', ov', rfl, h1, h2, h3, h4, h5⟩
  | er a b s' => obtain ⟨h1, ov', h2, h3⟩ := h; exact .inl ⟨a, b, s', ov', rfl, h1, h2, h3⟩
  | out => exact h.elim
theorem Kb.km {X : Mc} {rb : Nat} {w w' : World} {v v' : Value} (h : Kb X rb w v w' v') (hb : w.heap.size ≤ rb) : Km X w v w' v' := ⟨h.os, h.tape, h.output, h.size, fun i hi a b c e => h.block i hi a b c (by omega) e, h.own⟩
theorem regs_splice (f : Cod) (args : List Int) : (splice ((List.replicate f.regs.length (0 : Int)).map (Value.int .i64)) 0 ((args.take f.regs.length).map (Value.int .i64))).toArray = intC (regs0 f args) := by
  unfold splice intC regs0
  congr 1
  simp
  omega
/-- A function's blocks. -/
theorem blk_at {f : Cod} {p : Nat} (hp : p < f.bl.length) : f.bl.getD (p : Int).toNat default = f.bl[p] := by
  rw [List.getD_eq_getElem?_getD, Int.toNat_natCast, List.getElem?_eq_getElem hp]
  rfl
theorem ex_blk (m : Mdl) (q : Nat) (f : Cod) (r : List Int) (p : Nat) (hp : p < f.bl.length) (s : Mst) : ex m (q + 1) (.blk f r p) s = (ex m q (.code r f.bl[p].code) s).bind fun r s => (stepM s).bind fun _ s =>
      if f.bl[p].e.k = 3 then .ok [retd r f.bl[p].e.a] { s with calls := s.calls - 1 } else ex m q (.blk f r (nxt r f.bl[p].e)) s := by
  rw [ex, blk_at hp]
theorem regs0_len (f : Cod) (a : List Int) : (regs0 f a).length = f.regs.length := by
  unfold regs0
  simp
  omega
theorem nxt_in {f : Cod} {e : Eb} {r : List Int} (h : EbK f e) (h3 : e.k ≠ 3) : inR f.bl (nxt r e) = true := by
  unfold nxt
  rcases h.k with h1 | h2 | h2
  · rw [if_neg (by omega)]; exact h.k1 h1
  · split
    · exact (h.k2 h2).2.1
    · exact (h.k2 h2).1
  · exact absurd h2 h3
set_option maxHeartbeats 4000000 in
set_option maxRecDepth 100000 in
theorem call_any (X : Mc) (hK : ModK X.m) : ∀ F, CallC X F := by
  intro F
  induction F using Nat.strongRecOn with
  | _ F ih =>
  intro n args v s w ov h ha hn hl hM
  cases F with
  | zero => exact absurd rfl hM
  | succ G =>
  obtain ⟨A0, c0, hb0, -, -, -⟩ := h.iv
  have ml := hb0.lt
  have hca := h.ca
  by_cases h32 : 32 ≤ s.calls
  · have e : ex X.m (G + 1) (.call n args) s = .er 2 4 s := by rw [ex, if_pos h32]
    rw [e]
    have H1 := Lib.hid h
    have HO := Lib.hid (open_er h h32)
    clear h ha hn hM e hb0 h32 ih hK hca
    unfold crp at HO
    go_enter Try.func23, Try.ntmps23
    go_wp2_with fail
    refine HO.out.mono ?_
    rintro e w1 ⟨rfl, rfl⟩
    unfold PanE
    go_wp2_with fail
    exact pan_end rfl ⟨rfl, _, H1.out, .refl _ _ _⟩
  · obtain ⟨j, rfl, hjl⟩ := inR_nat hn
    have hM1 : ex X.m (G + 1) (.call j args) s = ex X.m G (.blk X.m.f[j] (regs0 X.m.f[j] args) 0) { s with calls := s.calls + 1 } := by rw [ex, if_neg h32, fAt_lt hjl]
    rw [hM1] at hM ⊢
    have hfk := hK.f _ (List.getElem_mem hjl)
    obtain ⟨fg, fo, fc, hfv, hfg, -, -, -, rv, bv, hri, hbi, hfc⟩ := h.mod.f.at hjl
    have hB0 : X.base ≤ w.heap.size := by have := h.bb; omega
    have f3 := hfc 3 _ rfl
    have f4 := hfc 4 _ rfl
    simp only at f3 f4
    have m1 : w.cell? ⟨X.b, 1, none⟩ = some (.slice (some ⟨fg, fo, none⟩) X.m.f.length fc) := by rw [← hfv]; exact hb0.cell 1
    have hset := h.set (j := 5) (x := .int .i64 (s.calls + 1)) (s' := { s with calls := s.calls + 1 }) (k' := 0) (fun iv => rfl) rfl rfl rfl rfl (by simp) h.st (by simp only; omega)
    have hav := ha (.int .i64 (s.calls + 1))
    have hargw : ∀ x ∈ args, iw x := fun x hx => by obtain ⟨_, h⟩ := IsL.all hav x hx; exact h.2
    generalize X.m.f[j] = f at *
    obtain ⟨rA, rc, hrv, hrc, -, -⟩ := hri.sl
    obtain ⟨bA, bc, hbv, hbc, -, -⟩ := hbi.sl
    subst hrv hbv
    obtain ⟨vA, vc, hvv, hvc, -, hvA⟩ := hav.sl
    subst hvv
    have hjl' : (j : Int) < X.m.f.length := by omega
    have hca2 : s.calls + 1 ≤ 32 := by omega
    have HO := Lib.hid (open_ok h h32)
    unfold crp at HO
    obtain ⟨M, hMM⟩ : ∃ M, ex X.m G (.blk f (regs0 f args) 0) { s with calls := s.calls + 1 } = M := ⟨_, rfl⟩
    rw [hMM] at hM ⊢
    have HMo := Lib.hid hM
    have HM0 := Lib.hid hMM
    have hK9 : Hid (ModK X.m) := Lib.hid hK
    have HIH : Hid (∀ q, q < G + 1 → CallC X q) := Lib.hid ih
    have HF := Lib.hid (And.intro hfk (And.intro hfg (And.intro f4 (And.intro hbi hB0))))
    have H0 := Lib.hid h
    -- the number of calls is written
    have f3' : (w.setCell ⟨X.b, 5, none⟩ (.int .i64 (s.calls + 1))).cell? ⟨fg, fo + j * 5 + 3, none⟩ = some (.slice rA f.regs.length rc) := ((hset.2.low h).cell (p := ⟨fg, fo + j * 5 + 3, none⟩) hfg).trans f3
    have m1' : (w.setCell ⟨X.b, 5, none⟩ (.int .i64 (s.calls + 1))).cell? ⟨X.b, 1, none⟩ = some (.slice (some ⟨fg, fo, none⟩) X.m.f.length fc) := by
      obtain ⟨_, _, hb1, _⟩ := hset.1.iv
      rw [← hfv]
      exact hb1.cell 1
    have hs1 : (w.setCell ⟨X.b, 5, none⟩ (.int .i64 (s.calls + 1))).heap.size = w.heap.size := by simp
    have hfgw : fg < w.heap.size := by omega
    generalize hca9 : s.calls = ca at *
    clear hM hMM ih hn h hfk hfc hri hbi hb0 ha hfv h32 f4 hK hM1
    go_enter Try.func23, Try.ntmps23
    go_wp2_with fail
    refine HO.out.mono ?_
    rintro e wx ⟨rfl, rfl⟩
    clear HO
    generalize w.setCell ⟨X.b, 5, none⟩ (.int .i64 (ca + 1)) = W1 at *
    have ml1 : X.b < W1.heap.size := by omega
    have hfg1 : fg < W1.heap.size := by omega
    -- the registers are made
    obtain ⟨ib, hib, hbz0, hbz1, hbz2⟩ := info_parts intInfo
    obtain ⟨rn, hrn⟩ : ∃ rn, f.regs.length = rn := ⟨_, rfl⟩
    have hrn4 : rn ≤ 4096 := by have := HF.out.1.rl; omega
    obtain ⟨W2, hrun, hown, hgrow⟩ := run_make_full (P := Try.prog) (w := W1) W1.heap.size 26 tI1 ib (.int .i64 0) 1 Try.underlying26 hib hbz0 hbz1 .i64 .i64 rn (by rw [hbz2]; omega) (by unfold maxLen; omega) (Nat.le_refl _)
    have hob := made_int hown
    have hB12 : Below W1.heap.size W1 W2 := (Below.refl _ _).grown hgrow (Nat.le_refl _) (fun j e => by cases e)
    obtain ⟨H, hH⟩ : ∃ H, W1.heap.size = H := ⟨_, rfl⟩
    rw [hrn] at f3'
    rw [hH] at hrun hob hB12
    have HHH := Lib.hid (And.intro hH hs1)
    clear hown hgrow hbz0 hbz1 hbz2 hib f3 m1 hH hs1
    go_upto_region 4 with (fail)
    obtain ⟨hH, hs1⟩ := HHH.out
    -- the arguments are copied
    have hcl : ((args.take rn).map (Value.int .i64)).length = Nat.min args.length rn := by rw [List.length_map, List.length_take]; exact Nat.min_comm _ _
    have hsrc : 0 < ((args.take rn).map (Value.int .i64)).length → ∃ ad, vA = some ad ∧ ∀ i v, ((args.take rn).map (Value.int .i64))[i]? = some v → W2.cell? (ad.add i) = some v := by
      intro h0
      obtain ⟨A9, c9, hv9, -, -, -, h9⟩ := hav
      simp only [Value.slice.injEq] at hv9
      obtain ⟨rfl, -, -⟩ := hv9
      rcases h9 with h9 | ⟨g9, o9, rfl, hg9, hx9⟩
      · rw [h9] at h0; simp at h0
      · refine ⟨_, rfl, fun i v hi => ?_⟩
        have hil : i < (args.take rn).length := by simpa using (List.getElem?_eq_some_iff.1 hi).1
        rw [List.getElem?_map, List.getElem?_eq_getElem hil] at hi
        simp only [Option.map_some, Option.some.injEq] at hi
        have hia : i < args.length := by simp at hil; omega
        have := (hx9 i _ (List.getElem?_eq_getElem hia)).1
        simp only [Nat.mul_one, Nat.add_zero] at this
        have e9 : (⟨g9, o9, none⟩ : Addr).add i = ⟨g9, o9 + i, none⟩ := by simp [Addr.add]
        rw [e9, hB12.cell (p := ⟨g9, o9 + i, none⟩) (by simp only; omega), this, ← hi]
        simp
    have hHB : X.base ≤ H := by omega
    have hHX : H = w.heap.size := by omega
    have HA := Lib.hid (And.intro hcl (And.intro hsrc (And.intro hset (And.intro hargw (And.intro hrn (And.intro hH hHX))))))
    have HOB : Hid (W2.heap[H]? = some (.cells ((List.replicate rn (0 : Int)).map (Value.int .i64)).toArray tI1 (0, 0))) := Lib.hid hob
    have HB12 := Lib.hid hB12
    obtain ⟨cs, hcs⟩ : ∃ cs, (args.take rn).map (Value.int .i64) = cs := ⟨_, rfl⟩
    obtain ⟨zs, hzs⟩ : ∃ zs, (List.replicate rn (0 : Int)).map (Value.int .i64) = zs := ⟨_, rfl⟩
    have HCS := Lib.hid (And.intro hcs hzs)
    have hzl : zs.length = rn := by rw [← hzs]; simp
    have h1c : ∀ u ∈ cs, u.oneCell' = true := by
      intro u hu
      rw [← hcs] at hu
      obtain ⟨x, -, rfl⟩ := List.mem_map.1 hu
      rfl
    rw [hcs] at HA
    rw [hzs] at HOB
    have hcn : cs.length ≤ rn := by rw [HA.out.1]; exact Nat.min_le_right _ _
    have H1C := Lib.hid (And.intro h1c (And.intro hzl hcn))
    obtain ⟨al, hal⟩ : ∃ al, args.length = al := ⟨_, rfl⟩
    rw [hal] at HA
    rw [hal]
    clear hrun hob hcl hsrc hset hargw hrn hav hB12 hcs hzs h1c hzl hcn hvA hvc f3' m1' hs1 hfgw hal hl hrc hHX hH HHH
    obtain ⟨w3, hrun3, hg3', hb3⟩ : ∃ w3, (Builtin.copy_ #[26, 26] 3 #[.slice (some ⟨H, 0, none⟩) rn rn, .slice vA al vc]).run Try.prog W2 = .ok (goInt cs.length) w3 ∧ w3.heap[H]? = some (.cells (splice zs 0 cs).toArray tI1 (0, 0)) ∧ Below H W1 w3 := by
      by_cases h0 : cs.length = 0
      · have hcs : cs = [] := List.eq_nil_of_length_eq_zero h0
        refine ⟨W2, ?_, ?_, HB12.out⟩
        · rw [h0]
          exact run_copy_none W2 26 26 3 tI1 _ _ rn rn al vc Try.underlying26 intSize (by rw [← h0]; exact HA.out.1.symm)
        · rw [hcs]
          simpa [splice] using HOB.out
      · obtain ⟨ad, rfl, hsrc⟩ := HA.out.2.1 (by omega)
        exact ⟨_, run_copy_row (P := Try.prog) W2 26 26 3 tI1 H 0 rn rn ad al vc zs.toArray tI1 cs Try.underlying26 intSize HOB.out HA.out.1 hsrc (by have := H1C.out.2; simp; omega) H1C.out.1, by simpa [splice] using setRow_heap W2 H _ _ tI1 _ HOB.out, below_setRow HB12.out (Nat.le_refl _) _⟩
    have hg3 := Lib.hid hg3'
    have HB3 := Lib.hid hb3
    obtain ⟨cl, hcl⟩ : ∃ cl, cs.length = cl := ⟨_, rfl⟩
    rw [hcl] at hrun3
    clear hg3' hb3 hcl
    go_upto_region 5 with (fail)
    have hb3 := HB3.out
    clear hrun3
    have hM3 : McV X 0 w3 { s with calls := ca + 1 } ov := HA.out.2.2.1.1.below (by rw [HA.out.2.2.2.2.2.1]; exact hb3)
    have hR3 : RgV X w3 H (regs0 f args) ov := by
      refine ⟨?_, regs0_w HA.out.2.2.2.1, by have := HF.out.2.2.2.2; omega, ?_, ?_⟩
      · have h9 := hg3.out
        rw [← HCS.out.1, ← HCS.out.2] at h9
        rw [show rn = f.regs.length from HA.out.2.2.2.2.1.symm, regs_splice] at h9
        exact h9
      · have h1 := H0.out.lt
        have h2 := H0.out.sc.lt
        obtain ⟨_, _, h3, _⟩ := H0.out.mp
        have h3 := h3.lt
        have := HA.out.2.2.2.2.2.2
        omega
      · intro e
        have := (H0.out.own _ e.symm).2.1
        have := HA.out.2.2.2.2.2.2
        omega
    have hK3 : Kb X H w ov w3 ov := .of (HA.out.2.2.1.2.trans (.of (by rw [HA.out.2.2.2.2.2.1]; exact hb3)))
    have HS3 := Lib.hid (And.intro hM3 (And.intro hR3 hK3))
    have hHX : H = w.heap.size := HA.out.2.2.2.2.2.2
    have HHX := Lib.hid hHX
    have HRN := Lib.hid HA.out.2.2.2.2.1
    clear hM3 hR3 hK3 HA HOB HB12 HCS H1C hg3 hb3 hHX
    go_wp2_with fail
    go_loopg [9] G (fun gk v wr => ∃ (p : Nat) (r' : List Int) (s' : Mst) (ov' : Value), v = .int .i64 p ∧ p < f.bl.length ∧ McV X 0 wr s' ov' ∧ RgV X wr H r' ov' ∧ r'.length = rn ∧ Kb X H w ov wr ov' ∧ gk ≤ G ∧ s'.calls = ca + 1 ∧ ex X.m gk (.blk f r' p) s' = M)
    case atStart => exact ⟨0, regs0 f args, _, ov, rfl, HF.out.1.bl, HS3.out.1, HS3.out.2.1, by rw [regs0_len]; exact HRN.out, HS3.out.2.2, Nat.le_refl _, rfl, HM0.out⟩
    case round =>
      obtain ⟨p, r', s', ov', rfl, hp, hmc, hrg, hrl, hkb, hGq, hcs, hex⟩ := hrel
      cases gk with
      | zero => exact absurd hex.symm HMo.out
      | succ q =>
      rw [ex_blk _ _ _ _ _ hp] at hex
      have hB : Below X.base w wr := hkb.low H0.out (by have := HF.out.2.2.2.2; have := HHX.out; omega)
      obtain ⟨bg, bo, bc9, hv9, hbg, -, -, hew, cv, hcv, hx⟩ := HF.out.2.2.2.1.at hp
      simp only [Value.slice.injEq] at hv9
      obtain ⟨rfl, -, rfl⟩ := hv9
      have hfb := HF.out.1.ins _ (List.getElem_mem hp)
      generalize f.bl[p] = b at *
      have f4 : wr.cell? ⟨fg, fo + j * 5 + 4, none⟩ = _ := (hB.cell (p := ⟨fg, fo + j * 5 + 4, none⟩) hfg).trans HF.out.2.2.1
      have y0 : wr.cell? ⟨bg, bo + p * 5, none⟩ = some cv := (hB.cell (p := ⟨bg, bo + p * 5, none⟩) hbg).trans (hx 0 _ rfl)
      have y1 : ∀ W, Below X.base wr W → W.cell? ⟨bg, bo + p * 5 + 1, none⟩ = some (.int .i64 b.e.k) := fun W hW => (hW.cell (p := ⟨bg, bo + p * 5 + 1, none⟩) hbg).trans ((hB.cell (p := ⟨bg, bo + p * 5 + 1, none⟩) hbg).trans (hx 1 _ rfl))
      have y2 : ∀ W, Below X.base wr W → W.cell? ⟨bg, bo + p * 5 + 2, none⟩ = some (.int .i64 b.e.a) := fun W hW => (hW.cell (p := ⟨bg, bo + p * 5 + 2, none⟩) hbg).trans ((hB.cell (p := ⟨bg, bo + p * 5 + 2, none⟩) hbg).trans (hx 2 _ rfl))
      have y3 : ∀ W, Below X.base wr W → W.cell? ⟨bg, bo + p * 5 + 3, none⟩ = some (.int .i64 b.e.to) := fun W hW => (hW.cell (p := ⟨bg, bo + p * 5 + 3, none⟩) hbg).trans ((hB.cell (p := ⟨bg, bo + p * 5 + 3, none⟩) hbg).trans (hx 3 _ rfl))
      have y4 : ∀ W, Below X.base wr W → W.cell? ⟨bg, bo + p * 5 + 4, none⟩ = some (.int .i64 b.e.el) := fun W hW => (hW.cell (p := ⟨bg, bo + p * 5 + 4, none⟩) hbg).trans ((hB.cell (p := ⟨bg, bo + p * 5 + 4, none⟩) hbg).trans (hx 4 _ rfl))
      have HY := Lib.hid (And.intro y1 (And.intro y2 (And.intro y3 y4)))
      have hfgw : fg < wr.heap.size := by have := hB.size; have := HF.out.2.2.2.2; omega
      have hbgw : bg < wr.heap.size := by have := hB.size; have := HF.out.2.2.2.2; omega
      have hp' : (p : Int) < f.bl.length := by omega
      have hne : ex X.m q (.code r' b.code) s' ≠ .out := bind_ne (by rw [hex]; exact HMo.out)
      have hco := code_any (f := f) (fun G' hG' => HIH.out G' (by omega)) hmc hrg (by rw [hrl]; exact HRN.out.symm) b.code cv (hcv.below hB) (fun i hi => ⟨hfb.1 i hi, fun h9 => hK9.out.args (hfb.1 i hi) h9⟩) hne
      obtain ⟨D, hD⟩ : ∃ D, ex X.m q (.code r' b.code) s' = D := ⟨_, rfl⟩
      have hca9' : ∀ v s1, D = .ok v s1 → s1.calls = s'.calls := fun v s1 h9 => by rw [← hD] at h9; exact ex_ca _ _ _ _ _ _ h9
      rw [hD] at hco hex
      unfold mcp rgs at hco
      rw [hrl] at hco
      have HCO := Lib.hid hco
      obtain ⟨cA, cn, cc, hcA⟩ : ∃ A n c, cv = .slice A n c := by obtain ⟨A, c, h, -⟩ := hcv.sl; exact ⟨_, _, _, h⟩
      rw [hcA] at y0 HCO
      have HR := Lib.hid (And.intro hmc (And.intro hrg (And.intro hkb (And.intro hGq (And.intro hcs (And.intro hex (And.intro hfb.2 (And.intro hB (And.intro hca9' hcA)))))))))
      clear hmc hrg hrl hkb hGq hcs hex hfb hB hx hew hcv hne hco hD y1 y2 y3 y4 hca9' hcA
      go_wp2_with fail
      refine HCO.out.mono ?_
      clear HCO
      intro e w1 hR
      rcases hR.cases with ⟨ea, eb, s1, ov1, hm, rfl, h1, k1⟩ | ⟨r1, s1, ov1, hm, rfl, hl1, h1, g1, k1⟩
      · have HX : Hid (RnP X 0 w ov en1 M (PanE ea eb) w1) := Lib.hid (by
          rw [← HR.out.2.2.2.2.2.1, hm]
          exact ⟨rfl, ov1, h1, (HR.out.2.2.1.trans k1).km (by rw [HHX.out]; exact Nat.le_refl _)⟩)
        clear hR hm h1 k1 HR
        unfold PanE at HX ⊢
        go_wp2_with fail
        exact pan_end rfl HX.out
      have hex1 : ((stepM s1).bind fun _ s => if b.e.k = 3 then .ok [retd r1 b.e.a] { s with calls := s.calls - 1 } else ex X.m q (.blk f r1 (nxt r1 b.e)) s) = M := by
        have := HR.out.2.2.2.2.2.1
        rw [hm] at this
        exact this
      have hc1 : s1.calls = ca + 1 := by rw [HR.out.2.2.2.2.2.2.2.2.1 _ _ hm]; exact HR.out.2.2.2.2.1
      have hB1 : Below X.base wr w1 := k1.low HR.out.1 HR.out.2.1.base
      have hst := step_any h1 (by omega)
      unfold crp at hst
      have HST := Lib.hid hst
      have H1 := Lib.hid (And.intro h1 (And.intro g1 (And.intro (hl1.trans HRN.out) (And.intro hex1 (And.intro hc1 (And.intro hB1 (HR.out.2.2.1.trans k1)))))))
      have HQ := Lib.hid (And.intro HR.out.2.2.2.1 HR.out.2.2.2.2.2.2.1)
      clear hR hm h1 g1 k1 hl1 hex1 hc1 hB1 hst HR y0 f4 hfgw hbgw
      go_wp2_with fail
      refine HST.out.mono ?_
      clear HST
      intro e w2 hR
      rcases hR.cases with ⟨ea, eb, s2, ov2, hm, rfl, h2, k2⟩ | ⟨v2, s2, ov2, hm, rfl, h2, k2⟩
      · have HX : Hid (RnP X 0 w ov en1 M (PanE ea eb) w2) := Lib.hid (by
          rw [← H1.out.2.2.2.1, hm]
          exact ⟨rfl, ov2, h2, (H1.out.2.2.2.2.2.2.trans (.of k2)).km (by rw [HHX.out]; exact Nat.le_refl _)⟩)
        clear hR hm h2 k2
        unfold PanE at HX ⊢
        go_wp2_with fail
        exact pan_end rfl HX.out
      have hex2 : (if b.e.k = 3 then Rn.ok [retd r1 b.e.a] { s2 with calls := s2.calls - 1 } else ex X.m q (.blk f r1 (nxt r1 b.e)) s2) = M := by
        have := H1.out.2.2.2.1
        rw [hm] at this
        exact this
      have hc2 : s2.calls = ca + 1 := by rw [stepM_ca hm]; exact H1.out.2.2.2.2.1
      have hB2 : Below X.base wr w2 := H1.out.2.2.2.2.2.1.trans (k2.low H1.out.1)
      have hg2 := H1.out.2.1.km k2
      have hkb2 := H1.out.2.2.2.2.2.2.trans (Kb.of k2 (rb := H))
      have hl1 : r1.length = rn := H1.out.2.2.1
      have y1 := HY.out.1 w2 hB2
      have hbg2 : bg < w2.heap.size := by have := World.block_lt_of_cell? _ _ y1; simpa using this
      have hret := fun W (hW : Below w2.heap.size w2 W) ha => returned_any (hg2.km (.of hW)) b.e.a ha
      clear hR hm
      by_cases hk3 : b.e.k = 3
      · rw [if_pos hk3] at hex2
        rw [hk3] at y1
        have ha3 := HQ.out.2.k3 hk3
        obtain ⟨A9, c9, hb9, -, -, -⟩ := h2.iv
        obtain ⟨cb, hcb⟩ : ∃ cb, s2.calls = cb := ⟨_, rfl⟩
        have hcb1 : 1 ≤ cb ∧ cb ≤ 32 := by omega
        have hcl9 := close_ok h2
        rw [hcb] at hcl9
        unfold crp at hcl9
        have HCLO := Lib.hid hcl9
        have zl := hb9.lt
        have hset2 := (h2.less (k' := 0) (by omega)).set (j := 5) (x := .int .i64 (cb - 1)) (s' := { s2 with calls := cb - 1 }) (k' := 0) (fun iv => rfl) rfl rfl rfl rfl (by simp) h2.st (by simp only; omega)
        have hg4 := hg2.km hset2.2
        have hre := returned_any hg4 b.e.a (fun h0 => by rw [inR_len (hl1.trans HRN.out.symm)]; exact ha3 h0)
        rw [hl1] at hre
        unfold rgs at hre
        have y2 := HY.out.2.1 _ (hB2.trans (hset2.2.low h2))
        have hbg3 : bg < (w2.setCell ⟨X.b, 5, none⟩ (.int .i64 (cb - 1))).heap.size := by simpa using hbg2
        have HX : Hid (∀ w9, Below (w2.setCell ⟨X.b, 5, none⟩ (.int .i64 (cb - 1))).heap.size (w2.setCell ⟨X.b, 5, none⟩ (.int .i64 (cb - 1))) w9 → RnP X 0 w ov en1 M (.returned (.int .i64 (retd r1 b.e.a))) w9) := Lib.hid fun w9 h9 => by
          rw [← hex2, hcb]
          exact ⟨rfl, ov2, hset2.1.below h9, ((hkb2.trans (.of hset2.2)).trans (.of (.of h9))).km (by rw [HHX.out]; exact Nat.le_refl _)⟩
        have HRE := Lib.hid hre
        clear hcl9 hex2 hc2 hB2 hg2 hkb2 hset2 hg4 hre ha3 hb9 h2 k2 hret hcb hk3 hl1 H1 HQ
        generalize retd r1 b.e.a = res at *
        generalize b.e.a = ba at *
        go_wp2_with fail
        refine HCLO.out.mono ?_
        rintro e wy ⟨rfl, rfl⟩
        clear HCLO
        generalize w2.setCell ⟨X.b, 5, none⟩ (.int .i64 (cb - 1)) = W4 at *
        go_wp2_with fail
        refine HRE.out.mono ?_
        rintro e w9 ⟨rfl, hb9⟩
        have HX9 := Lib.hid (HX.out w9 hb9)
        clear hb9 HX
        go_wp2_with fail
        go_ret
        exact HX9.out
      · rw [if_neg hk3] at hex2
        have d3 : (b.e.k == 3) = false := by simpa using hk3
        have hni := nxt_in (r := r1) HQ.out.2 hk3
        obtain ⟨p', hp1, hp2⟩ := inR_nat hni
        have hnx := next_any hg2 b.e (fun h2 => by rw [inR_len (hl1.trans HRN.out.symm)]; exact (HQ.out.2.k2 h2).2.2)
        rw [hl1, hp1] at hnx
        rw [hp1] at hex2
        unfold rgs ebA at hnx
        have HNX := Lib.hid hnx
        have y2 := HY.out.2.1 w2 hB2
        have y3 := HY.out.2.2.1 w2 hB2
        have y4 := HY.out.2.2.2 w2 hB2
        have H2 := Lib.hid (And.intro (h2.less (k' := 0) (by omega)) (And.intro hg2 (And.intro hl1 (And.intro hkb2 (And.intro hc2 (And.intro hex2 HQ.out.1))))))
        generalize b.e.k = ek at *
        generalize b.e.a = ea at *
        generalize b.e.to = et at *
        generalize b.e.el = el at *
        clear hex2 hc2 hB2 hg2 hkb2 h2 k2 hret hk3 hl1 H1 HQ hni hp1 hnx
        go_wp2_with fail
        refine HNX.out.mono ?_
        rintro e w9 ⟨rfl, hb9⟩
        have H9 := Lib.hid hb9
        clear hb9 HNX y1 y2 y3 y4 hbg2
        go_wp2_with fail
        go_roundg q
        case measure => omega
        case rel => exact ⟨p', r1, s2, ov2, rfl, hp2, H2.out.1.below H9.out, H2.out.2.1.km (.of H9.out), H2.out.2.2.1, H2.out.2.2.2.1.trans (.of (.of H9.out)), by have := H2.out.2.2.2.2.2.2; omega, H2.out.2.2.2.2.1, H2.out.2.2.2.2.2.1⟩
end Go.Proofs.Ytgcjfbgfoiekmaa
