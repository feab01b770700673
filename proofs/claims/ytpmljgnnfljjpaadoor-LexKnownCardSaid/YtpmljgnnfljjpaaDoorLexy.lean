/-
  Walks of layer lex: the document's answer: a text's tokens.
-/
import Derived.Test.YtpmljgnnfljjpaaDoorLexx
namespace Go.Proofs.YtpmljgnnfljjpaaDoor
open Go.RowKit
set_option linter.unusedVariables false
set_option linter.unusedSimpArgs false

theorem own_mono {w : World} {base base' : Nat} {e : TypeId} {size : Nat} {v : Value} {n : Nat} {xs : List Value} (h : w.ownsRow base e size v n xs) (hb : base' ≤ base) : w.ownsRow base' e size v n xs :=
  ⟨h.1, h.2.imp (fun x => x) (fun ⟨g, cap, cur, hv, hg, r⟩ => ⟨g, cap, cur, hv, Nat.le_trans hb hg, r⟩)⟩
theorem own_below {w w' : World} {base : Nat} {e : TypeId} {size : Nat} {v : Value} {n : Nat} {xs : List Value} (h : w.ownsRow base e size v n xs) (hb : Below w.heap.size w w') : w'.ownsRow base e size v n xs :=
  h.kept (grown_of_below hb) (Classical.em _)

theorem results_rlex {fn : Func} {c : Nat} {x y : Value} (h : fn.results = #[.tmp 2, .cell 3 tD]) (tmps : Array Value) (w : World)
    (h3 : tmps.getD 3 undef = .pointer (some ⟨c, 0, none⟩)) (hc : Blk w c tD #[x, y]) :
    (results fn tmps).run Tryd.prog w = .ok (.tuple #[tmps.getD 2 undef, .agg #[x, y]]) w := by
  have hr : w.rangeAt c 0 [x, y] := by
    intro j u hu
    rw [Nat.zero_add, hc.cell]
    simpa using hu
  have hd := run_loadVar_mid (P := Tryd.prog) w c 0 tD [x, y] _ hr Tryd.underlying26 rfl (by kernel_rfl)
  simp only [results, h]
  simp [Sem.run_bind, Result.andThen]
  rw [show tmps[3]?.getD undef = .pointer (some ⟨c, 0, none⟩) from by simpa using h3]
  simp [asAddr, hd]

/-- Two cells of a block. -/
theorem blk_two {W : World} {b : Nat} {u v x y : Value} (h : Blk W b tD #[u, v]) : Blk ((W.setCell ⟨b, 0, none⟩ x).setCell ⟨b, 1, none⟩ y) b tD #[x, y] :=
  Blk.set_ (cs := #[x, v]) (Blk.set_ (cs := #[u, v]) h 0 x) 1 y
theorem bel_two {w0 W : World} {B b : Nat} {x y : Value} (h : Below B w0 W) (hb : B ≤ b) : Below B w0 ((W.setCell ⟨b, 0, none⟩ x).setCell ⟨b, 1, none⟩ y) :=
  (h.setCell (p := ⟨b, 0, none⟩) hb _).setCell (p := ⟨b, 1, none⟩) hb _
theorem own_two {W : World} {base b : Nat} {v u1 u2 x y : Value} {n : Nat} {xs : List Value} (h : W.ownsRow base tE 4 v n xs) (hb : Blk W b tD #[u1, u2]) : ((W.setCell ⟨b, 0, none⟩ x).setCell ⟨b, 1, none⟩ y).ownsRow base tE 4 v n xs :=
  (h.kept (grownBy_set W ⟨b, 0, none⟩ x) (.inr (hb.not_row (by decide) h).symm)).kept (grownBy_set _ ⟨b, 1, none⟩ y) (.inr ((hb.set_ 0 x).not_row (by decide) (h.kept (grownBy_set W ⟨b, 0, none⟩ x) (.inr (hb.not_row (by decide) h).symm))).symm)

set_option maxHeartbeats 4000000 in
set_option maxRecDepth 100000 in
theorem rlex_any (s : ByteArray) (hs : s.size ≤ maxLen) (w : World) :
    Calls Tryd.prog 10 #[.string s] w (LexPost w (lexL s.data.toList)) := by
  by_cases hbig : 1048576 < s.size
  · have hL : lexL s.data.toList = ([], 10, 0) := by rw [lexL, if_pos (by rw [← Lib.size_eq]; exact hbig)]
    rw [hL]
    clear hL
    go_enter Tryd.func10, Tryd.ntmps10
    go_wp2
    exact bodyPost_ret (results_rlex rfl _ _ rfl (Blk.new w tD #[.int .i64 10, .int .i64 0])) rfl ⟨_, rfl, World.ownsRow_nil _ _ _ _, (Below.refl _ w).alloc (Nat.le_refl _) _⟩
  · have hs2 : s.size ≤ 1048576 := by omega
    have hdec : decide ((1048576 : Int) < (s.size : Int)) = false := by simp; omega
    have hL : lexL s.data.toList = res [] (seqL s.data.toList) := by rw [lexL, if_neg (by rw [← Lib.size_eq]; exact hbig)]
    rw [hL]
    clear hL hbig
    have hk0 : skAt s.data.toList 0 ≤ s.size := by have := skAt_le s.data.toList (a := 0) (by omega); rw [← Lib.size_eq] at this; exact this
    go_enter Tryd.func10, Tryd.ntmps10
    go_wp2_with (go_at_call 20; refine (rskip_any s 0 (by omega) hs _).mono ?_; rintro e w1 ⟨rfl, rfl⟩)
    obtain ⟨W1, hW1⟩ : ∃ W1, w.alloc (.cells #[.int .i64 0, .int .i64 0] tD) = W1 := ⟨_, rfl⟩
    have hbl := Blk.new w tD #[.int .i64 0, .int .i64 0]
    have hbw : Below w.heap.size w (w.alloc (.cells #[.int .i64 0, .int .i64 0] tD)) := (Below.refl _ w).alloc (Nat.le_refl _) _
    have hz1 : (w.alloc (.cells #[.int .i64 0, .int .i64 0] tD)).heap.size = w.heap.size + 1 := by simp
    rw [hW1] at hbl hbw hz1 ⊢
    clear hW1
    go_loopw [4, 5] (fun v4 v5 wr => ∃ (p : Nat) (pre : List Tok), p ≤ s.size ∧ pre.length ≤ p ∧ v5 = .int .i64 p ∧ wr.ownsRow W1.heap.size tE 4 v4 pre.length (cellsT pre) ∧ Below W1.heap.size W1 wr ∧ res [] (seqL s.data.toList) = res pre (seqAt s.data.toList p)) (fun _ v5 _ => s.size - (intOf v5).toNat)
    case atStart => exact ⟨skAt s.data.toList 0, [], hk0, by simp, rfl, World.ownsRow_nil _ _ _ _, Below.refl _ _, rfl⟩
    case round =>
      obtain ⟨p, pre, hp, hpl, rfl, hrow, hb, hres⟩ := hrel
      have hdl : Blk _ w.heap.size tD #[.int .i64 0, .int .i64 0] := hbl.below hb (by omega)
      by_cases hlt : p < s.size
      · have hone := rone_any s p hs2 hlt wr
        have hlt2 : p < s.data.toList.length := by rw [← Lib.size_eq]; exact hlt
        by_cases h0 : (sc (s.data.toList.drop p)).2.2 = 0
        · have hst := seqAt_step hlt2 h0
          have hsz := sc_size h0
          rw [List.length_drop, ← Lib.size_eq] at hsz
          rw [hst] at hres
          have hrs : res [] (seqL s.data.toList) = res (pre ++ [(sc (s.data.toList.drop p)).1.to p]) (seqAt s.data.toList (skAt s.data.toList (p + (sc (s.data.toList.drop p)).2.1))) := by rw [hres, res, if_neg (by simp)]
          clear hst hres
          obtain ⟨q, hq⟩ : ∃ q, (sc (s.data.toList.drop p)).2.1 = q := ⟨_, rfl⟩
          obtain ⟨tk, htk⟩ : ∃ tk, (sc (s.data.toList.drop p)).1.to p = tk := ⟨_, rfl⟩
          rw [hq, htk] at hrs
          rw [hq] at hsz
          have hsk := rskip_any s (p + q) (by omega) hs
          have hk1 := skAt_le s.data.toList (a := p + q) (by rw [← Lib.size_eq]; omega)
          have hk2 := skAt_ge s.data.toList (p + q)
          rw [← Lib.size_eq] at hk1
          have hone2 : Calls Tryd.prog 21 #[.string s, .int .i64 p] wr fun e w' => e = .returned (.tuple #[tokV tk, .int .i64 ((p + q : Nat) : Int), .int .i64 0]) ∧ Below wr.heap.size wr w' := by
            refine hone.mono ?_
            rintro e w' ⟨t, n, rfl, hb1, hok⟩
            obtain ⟨rfl, rfl⟩ := hok h0
            rw [h0, ← htk, ← hq]
            exact ⟨rfl, hb1⟩
          have HONE := Lib.hid hone2
          have HSK := Lib.hid hsk
          have HRS := Lib.hid hrs
          have HB := Lib.hid hb
          have HROW := Lib.hid hrow
          clear hone hone2 hsk hrs hq htk h0 hb hrow hdl
          go_wp2_with (first
            | (go_at_call 21; refine HONE.out.mono ?_; rw [str_eta]; rintro e w1 ⟨rfl, hb1⟩; have hr1 := (own_below HROW.out hb1).alloc (.cells #[.int .i64 tk.k, .int .i64 tk.p, .int .i64 tk.n, .string (str tk.s)] tE); have hbb := (HB.out.trans (hb1.mono HB.out.size)).alloc (by have := HB.out.size; have := hb1.size; omega) (.cells #[.int .i64 tk.k, .int .i64 tk.p, .int .i64 tk.n, .string (str tk.s)] tE); clear hb1)
            | (at_builtin; refine app_law W1 _ (w1.heap.size + 1) (by simp) _ pre.length pre tk _ _ rfl rfl rfl rfl hr1 hbb (by omega) ?_; intro v' w2 hr2 hb2 hg2 hsh; have HR2 := Lib.hid hr2; have HB2 := Lib.hid hb2; clear hr1 hbb hr2 hb2 hg2 hsh)
            | (go_at_call 20; refine (HSK.out _).mono ?_; rintro e w3 ⟨rfl, rfl⟩))
          go_roundw
          case rel => exact ⟨skAt s.data.toList (p + q), pre ++ [tk], hk1, by simp; omega, rfl, by rw [List.length_append]; exact HR2.out, HB2.out, HRS.out⟩
          case measure => simp [intOf]; omega
        · have hst := seqAt_bad hlt2 h0
          rw [hst, res, if_pos h0] at hres
          obtain ⟨no, hno⟩ : ∃ no, (sc (s.data.toList.drop p)).2.2 = no := ⟨_, rfl⟩
          rw [hno] at hres h0
          have hno' : (no != 0) = true := by simpa using h0
          have hone2 : Calls Tryd.prog 21 #[.string s, .int .i64 p] wr fun e w' => ∃ (t : Tok) (n : Int), e = .returned (.tuple #[tokV t, .int .i64 n, .int .i64 no]) ∧ Below wr.heap.size wr w' := by
            refine hone.mono ?_
            rintro e w' ⟨t, n, rfl, hb1, hok⟩
            rw [hno]
            exact ⟨t, n, rfl, hb1⟩
          have HONE := Lib.hid hone2
          have HRES := Lib.hid hres
          have HB := Lib.hid hb
          have HDL := Lib.hid hdl
          clear hone hone2 hst hres h0 hno hb hrow hdl
          go_wp2_with (go_at_call 21; refine HONE.out.mono ?_; rintro e w1 ⟨t, n, rfl, hb1⟩; rw [str_eta]; have hl1 := (HDL.out.below hb1 (HDL.out.lt)).alloc (.cells #[.int .i64 t.k, .int .i64 t.p, .int .i64 t.n, .string (str t.s)] tE); have hbb := ((hbw.trans ((HB.out.trans (hb1.mono HB.out.size)).mono (by omega))).alloc (by have := HB.out.size; have := hb1.size; omega) (.cells #[.int .i64 t.k, .int .i64 t.p, .int .i64 t.n, .string (str t.s)] tE)); have HL1 := Lib.hid hl1; have HBB := Lib.hid hbb; have y0 := hl1.cell 0; have y1 := hl1.cell 1; have z0 := hl1.frozen 0; have z1 := hl1.frozen 1; simp at y0 y1; clear hb1 hl1 hbb)
          rw [HRES.out]
          exact bodyPost_ret (results_rlex rfl _ _ rfl (blk_two HL1.out)) rfl ⟨_, rfl, World.ownsRow_nil _ _ _ _, bel_two HBB.out (Nat.le_refl _)⟩
      · obtain rfl : p = s.size := by omega
        have hst := seqAt_end (t := s.data.toList) (a := s.size) (Lib.size_eq s)
        rw [hst, res, if_neg (by simp), res] at hres
        have HRES := Lib.hid hres
        have HDL := Lib.hid hdl
        have hbw2 := hbw.trans (hb.mono (by omega))
        have HBW := Lib.hid hbw2
        clear hst hres hbw2 hdl
        go_wp2_with (at_builtin; refine app_law W1 _ _ rfl _ pre.length pre ⟨4, s.size, 0, []⟩ _ _ rfl rfl rfl rfl hrow hb (by omega) ?_; intro v' w2 hr2 hb2 hg2 hsh; have hl2 := hbl.below hb2 (by omega); have y0 := hl2.cell 0; have y1 := hl2.cell 1; have z0 := hl2.frozen 0; have z1 := hl2.frozen 1; simp at y0 y1; have HL2 := Lib.hid hl2; have HR2 := Lib.hid hr2; have HB2 := Lib.hid hb2; clear hl2 hr2 hb2 hg2 hsh)
        rw [HRES.out]
        exact bodyPost_ret (results_rlex rfl _ _ rfl (blk_two HL2.out)) rfl ⟨_, rfl, by rw [List.length_append]; exact own_mono (own_two HR2.out HL2.out) (by omega), bel_two (hbw.trans (HB2.out.mono (by omega))) (Nat.le_refl _)⟩
end Go.Proofs.YtpmljgnnfljjpaaDoor
