/-
  Walks of layer lex: the iterator over a text's tokens.
-/
import Derived.RangeFuncNested
import Derived.RangeFuncBound
import Derived.RangeFuncCalls
import Derived.RangeFuncLeaves
import Derived.RangeFuncBox
import Derived.Shelf.Abstract
import Derived.Shelf.RegionOpen
import Derived.OwnWalkIn
import Derived.TacticsInMore
import Derived.LoopNIn
import Derived.LoopIn
import Derived.Maps.AppendAt
import Derived.Test.YtfaoiajhoifalaaGreatDoorLexf
namespace Go.Proofs.YtfaoiajhoifalaaGreatDoor
open Go.RowKit Go.Shelf
set_option linter.unusedVariables false
set_option linter.unusedSimpArgs false

abbrev tE : TypeId := 92
abbrev tS : TypeId := 9

/-- What a round of a loop over tokens keeps. -/
def KpT (n₀ Bn : Nat) (s : ByteArray) (W W' : World) : Prop := Below n₀ W W' ∧ (Boxed W Bn tS (.string s) → Boxed W' Bn tS (.string s))

theorem grown_of_below {W W' : World} (h : Below W.heap.size W W') : W.grownBy W' none := ⟨h.os, h.tape, h.output, h.size, fun k hk _ => h.block k hk⟩

theorem seqAt_len (t : List UInt8) (a : Nat) (h : a ≤ t.length) : 1 ≤ (seqAt t a).length := by
  rcases Nat.lt_or_ge a t.length with h1 | h1
  · by_cases h0 : (sc (t.drop a)).2.2 = 0
    · rw [seqAt_step h1 h0]; simp
    · rw [seqAt_bad h1 h0]; simp
  · rw [seqAt_end (by omega)]; simp

theorem skipBlank_0 (s : ByteArray) (hs : s.size ≤ maxLen) (w : World) :
    Calls Tryz.prog 74 #[.string s, .int .i64 0] w fun e w' => e = .returned (.int .i64 (skAt s.data.toList 0)) ∧ w = w' := skipBlank_any s 0 (Nat.zero_le _) hs w

set_option maxRecDepth 100000 in
set_option maxHeartbeats 4000000 in
theorem tokens1_in (n : Nat) (hn : 1 ≤ n) (l Bn : Nat) (w0 : World) (hE : Env w0) (s : ByteArray) (hs : s.size ≤ 1048576) (J Jx : List (Tok × Int) → World → Prop) (W : World) (hJ : AbidesFrom W.heap.size J)
    (hY : ∀ pre (x : Tok × Int) W1, J pre W1 → pre.length < (seqL s.data.toList).length → YieldAt Fence.wide (n - 1) Tryz.prog l #[tokV x.1, .int .i64 x.2] W1 fun e W' =>
      (e = .returned (.bool true) ∧ J (pre ++ [x]) W' ∧ KpT w0.heap.size Bn s W1 W') ∨ (e = .returned (.bool false) ∧ Jx (pre ++ [x]) W'))
    (hB : Below w0.heap.size w0 W) (hBn : Boxed W Bn tS (.string s)) (h0 : J [] W) :
    CallsIn Fence.wide n Tryz.prog 73 #[.func (.yield l) #[] #[], .pointer (some ⟨Bn, 0, none⟩)] W fun e W' => (∃ v, e = .returned v) ∧
      ((∃ ys, ys = seqL s.data.toList ∧ J ys W') ∨ (∃ pre, pre <+: seqL s.data.toList ∧ Jx pre W')) := by
  have hs' : s.size ≤ maxLen := by unfold maxLen; omega
  have hc0 := hBn.cell
  have hsk0 : skAt s.data.toList 0 ≤ s.size := by rw [Lib.size_eq]; exact skAt_le _ (Nat.zero_le _)
  refine callsIn_of_wp Tryz.func73 rfl trivial ?_ rfl
  simp only [Tryz.ntmps73, List.size_toArray, List.length_cons, List.length_nil, Nat.reduceAdd, Nat.reduceSub, Array.replicate_succ, Array.replicate_zero, List.push_toArray, List.append_toArray, List.nil_append, List.cons_append]
  gi_wp2_with (refine ⟨trivial, ?_⟩; gi_at_call 74; refine (callsIn_wide.2 (skipBlank_0 s hs' _)).mono ?_; rintro e w1 ⟨rfl, rfl⟩)
  gi_loopw [3] (fun v wr => ∃ (a : Nat) (pre : List (Tok × Int)), v = .int .i64 a ∧ a ≤ s.size ∧ seqL s.data.toList = pre ++ seqAt s.data.toList a ∧ J pre wr ∧ Boxed wr Bn tS (.string s) ∧ Below w0.heap.size w0 wr) (fun v _ => s.size - (intOf v).toNat)
  case atStart => exact ⟨_, [], rfl, hsk0, rfl, h0, hBn, hB⟩
  case round =>
    obtain ⟨a, pre, rfl, ha, hq, hJr, hBr, hbr⟩ := hrel
    have hcr := hBr.cell
    have HQ := Lib.hid hq
    clear hq
    by_cases hlt : a < s.size
    · have hz : (s.extract a s.size).size = s.size - a := by rw [ByteArray.size_extract]; omega
      have hx1 : (s.extract a s.size).size ≤ 1048576 := by omega
      have hx2 : 0 < (s.extract a s.size).size := by omega
      have hEr := hE.of hbr
      have HS := Lib.hid (scan_any (s.extract a s.size) hx1 hx2 wr hEr)
      have hsize := sc_size (l := s.data.toList.drop a)
      rw [List.length_drop, ← Lib.size_eq] at hsize
      have hd : (s.extract a s.size).data.toList = s.data.toList.drop a := Lib.extract_to_end s a
      have hok := seqAt_step (t := s.data.toList) (a := a) (by rw [← Lib.size_eq]; exact hlt)
      have hbad := seqAt_bad (t := s.data.toList) (a := a) (by rw [← Lib.size_eq]; exact hlt)
      have hlen : pre.length < (seqL s.data.toList).length := by
        rw [HQ.out, List.length_append]; have := seqAt_len s.data.toList a (by rw [← Lib.size_eq]; exact ha); omega
      rcases hsc : sc (s.data.toList.drop a) with ⟨t, sz, no⟩
      rw [hsc] at hsize hok hbad
      simp only at hsize hok hbad
      have hS2 := HS.out
      rw [hd, hsc, scV, str_eta] at hS2
      have HS2 := Lib.hid hS2
      have HOK := Lib.hid hok
      have HBAD := Lib.hid hbad
      have HLEN := Lib.hid hlen
      clear HS hS2 hok hbad hlen hsc hd hx1 hx2 hz
      simp only at HS2
      have HJ := Lib.hid hJr
      have HBR := Lib.hid hBr
      have Hbr := Lib.hid hbr
      clear hJr hBr hbr hEr
      by_cases hno : no = 0
      · subst hno
        have hq2 := HQ.out.trans (by rw [HOK.out rfl])
        have HQ2 := Lib.hid hq2
        clear hq2
        have hsz := hsize rfl
        have ha2 : a + sz ≤ s.size := by omega
        have e3 : ((a : Int) + (sz : Int)) = ((a + sz : Nat) : Int) := by simp
        have HSK := Lib.hid (fun W => skipBlank_any s (a + sz) ha2 hs' W)
        have hske : skAt s.data.toList (a + sz) ≤ s.size := by rw [Lib.size_eq]; exact skAt_le _ (by rw [← Lib.size_eq]; exact ha2)
        have hskg := skAt_ge s.data.toList (a + sz)
        have HE3 := Lib.hid e3
        clear hsize e3
        gi_wp2_with (first
          | (refine ⟨trivial, ?_⟩; gi_at_call 75; refine (callsIn_wide.2 HS2.out).mono ?_; rintro e w1 ⟨rfl, hb1⟩;
              have hbox := (hb1.block Bn HBR.out.lt).trans HBR.out; have HBX := Lib.hid hbox; clear hbox; have hcx := hb1.cell (p := ⟨Bn, 0, none⟩) HBR.out.lt;
              obtain ⟨fn, tmps, assign, body, hy, hR⟩ := hY pre (t.to a, 0) (w1.alloc (.cells #[.int .i64 t.k, .int .i64 a, .int .i64 t.n, .string (str t.s)] tE)) (hJ _ _ _ none HJ.out (grown_of_below (hb1.trans ((Below.refl _ _).alloc hb1.size _))) (fun r e => by cases e)) HLEN.out; dsimp only [tokV, Tok.to] at hy; have HB1 := Lib.hid hb1; clear hb1))
        refine hR.mono ?_
        clear hR hy
        rintro e W3 (⟨rfl, hJ3, hk3⟩ | ⟨rfl, hJx3⟩)
        · have hb3 := hk3.2 ((show Boxed w1 Bn tS (.string s) from HBX.out).alloc _)
          have hc3 := hb3.cell
          have HB3 := Lib.hid hb3
          have HJ3 := Lib.hid hJ3
          have HK3 := Lib.hid hk3
          clear hb3 hJ3 hk3
          gi_wp2_with (refine ⟨trivial, ?_⟩; gi_at_call 74; rw [HE3.out]; refine (callsIn_wide.2 (HSK.out _)).mono ?_; rintro e w4 ⟨rfl, rfl⟩)
          go_roundw
          case rel => exact ⟨_, pre ++ [(t.to a, 0)], rfl, hske, by rw [HQ2.out]; simp, HJ3.out, HB3.out, (Hbr.out.trans ((HB1.out.trans ((Below.refl _ _).alloc HB1.out.size _)).mono Hbr.out.size)).trans HK3.out.1⟩
          case measure => simp [intOf]; omega
        · gi_wp2
          refine bodyPost_ret (results_none rfl _ _ _) rfl ?_
          exact ⟨⟨_, rfl⟩, .inr ⟨pre ++ [(t.to a, 0)], ⟨_, by rw [HQ2.out]; simp; rfl⟩, hJx3⟩⟩
      · have hno' : (no != 0) = true := by simpa using hno
        have hq2 := HQ.out.trans (by rw [HBAD.out hno])
        have HQ2 := Lib.hid hq2
        clear hq2 hsize
        gi_wp2_with (first
          | (refine ⟨trivial, ?_⟩; gi_at_call 75; refine (callsIn_wide.2 HS2.out).mono ?_; rintro e w1 ⟨rfl, hb1⟩;
              have hbox := (hb1.block Bn HBR.out.lt).trans HBR.out; have HBX := Lib.hid hbox; clear hbox; have hcx := hb1.cell (p := ⟨Bn, 0, none⟩) HBR.out.lt;
              obtain ⟨fn, tmps, assign, body, hy, hR⟩ := hY pre (t.to a, no) (w1.alloc (.cells #[.int .i64 t.k, .int .i64 a, .int .i64 t.n, .string (str t.s)] tE)) (hJ _ _ _ none HJ.out (grown_of_below (hb1.trans ((Below.refl _ _).alloc hb1.size _))) (fun r e => by cases e)) HLEN.out; dsimp only [tokV, Tok.to] at hy; have HB1 := Lib.hid hb1; clear hb1))
        refine hR.mono ?_
        clear hR hy
        rintro e W3 (⟨rfl, hJ3, hk3⟩ | ⟨rfl, hJx3⟩)
        · gi_wp2
          refine bodyPost_ret (results_none rfl _ _ _) rfl ?_
          exact ⟨⟨_, rfl⟩, .inl ⟨_, rfl, by rw [HQ2.out]; exact hJ3⟩⟩
        · gi_wp2
          refine bodyPost_ret (results_none rfl _ _ _) rfl ?_
          exact ⟨⟨_, rfl⟩, .inr ⟨_, by rw [HQ2.out]; exact List.prefix_refl _, hJx3⟩⟩
    · have hae : a = s.size := by omega
      have hq2 := HQ.out.trans (by rw [seqAt_end (t := s.data.toList) (a := a) (by rw [hae, Lib.size_eq])])
      have HQ2 := Lib.hid hq2
      have hlen : pre.length < (seqL s.data.toList).length := by rw [hq2]; simp
      clear hq2
      obtain ⟨fn, tmps, assign, body, hy, hR⟩ := hY pre (⟨4, a, 0, []⟩, 0) wr hJr hlen
      dsimp only [tokV] at hy
      rw [hae] at hy
      have HAE := Lib.hid hae
      clear hae hlen
      gi_wp2
      refine hR.mono ?_
      clear hR hy
      rintro e W3 (⟨rfl, hJ3, hk3⟩ | ⟨rfl, hJx3⟩)
      · gi_wp2
        go_end0
        exact ⟨⟨_, rfl⟩, .inl ⟨_, rfl, by rw [HQ2.out]; exact hJ3⟩⟩
      · gi_wp2
        go_end0
        exact ⟨⟨_, rfl⟩, .inr ⟨_, by rw [HQ2.out]; exact List.prefix_refl _, hJx3⟩⟩
end Go.Proofs.YtfaoiajhoifalaaGreatDoor
