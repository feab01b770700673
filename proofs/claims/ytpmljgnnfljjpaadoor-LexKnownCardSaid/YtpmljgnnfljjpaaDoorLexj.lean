/-
  The walk of the statement LexKnown.
-/
import Derived.Test.YtpmljgnnfljjpaaDoorLexi
import Derived.Test.YtpmljgnnfljjpaaDoorLexr
namespace Go.Proofs.YtpmljgnnfljjpaaDoor
open Go.RowKit
set_option linter.unusedVariables false
set_option linter.unusedSimpArgs false

theorem lex_of (zs : ByteArray) (l : List UInt8) (hz : zs.data.toList = l) (hs : zs.size ≤ maxLen) (no at_ : Int) (hx : (lexL l).2 = (no, at_)) (w : World) (hE : Env w) :
    Calls Tryd.prog 9 #[.string zs] w fun e w' => ∃ v, e = .returned (.tuple #[v, .agg #[.int .i64 no, .int .i64 at_]]) ∧ Below w.heap.size w w' := by
  refine (lex_any zs hs w hE).mono ?_
  rintro e w' ⟨v, rfl, _, hb⟩
  rw [hz, hx]
  exact ⟨v, rfl, hb⟩

theorem reads_at (s : ByteArray) (hs : s.size ≤ maxLen) (w0 w : World) (hE : Env w0) (hb : Below w0.heap.size w0 w) :
    Calls Tryd.prog 3 #[.string s] w fun e w' => e = .returned (.bool true) ∧ Below w0.heap.size w0 w' :=
  (lexReads_walk s w hs (hE.of hb)).mono (by rintro e w' ⟨rfl, h⟩; exact ⟨rfl, hb.trans (h.mono hb.size)⟩)

abbrev ktC : Array Value := (ktT.map fun z => Value.string (str z)).toArray
abbrev ktDC : Array Value := (ktD.flatMap fun d => [Value.int .i64 d.1, Value.int .i64 d.2]).toArray
theorem ktC_at (k : Nat) (h : k < 19) : ktC[k]? = some (.string (str (ktT[k]'h))) := by
  rw [List.getElem?_toArray, List.getElem?_map, List.getElem?_eq_getElem h]
  rfl
theorem ktDC_at : ∀ k, (h : k < 19) → ktDC[k * 2]? = some (.int .i64 (ktD[k]'h).1) ∧ ktDC[k * 2 + 1]? = some (.int .i64 (ktD[k]'h).2) := by
  intro k h
  match k, h with
  | 0, _ => exact ⟨rfl, rfl⟩
  | 1, _ => exact ⟨rfl, rfl⟩
  | 2, _ => exact ⟨rfl, rfl⟩
  | 3, _ => exact ⟨rfl, rfl⟩
  | 4, _ => exact ⟨rfl, rfl⟩
  | 5, _ => exact ⟨rfl, rfl⟩
  | 6, _ => exact ⟨rfl, rfl⟩
  | 7, _ => exact ⟨rfl, rfl⟩
  | 8, _ => exact ⟨rfl, rfl⟩
  | 9, _ => exact ⟨rfl, rfl⟩
  | 10, _ => exact ⟨rfl, rfl⟩
  | 11, _ => exact ⟨rfl, rfl⟩
  | 12, _ => exact ⟨rfl, rfl⟩
  | 13, _ => exact ⟨rfl, rfl⟩
  | 14, _ => exact ⟨rfl, rfl⟩
  | 15, _ => exact ⟨rfl, rfl⟩
  | 16, _ => exact ⟨rfl, rfl⟩
  | 17, _ => exact ⟨rfl, rfl⟩
  | 18, _ => exact ⟨rfl, rfl⟩
  | k + 19, h => omega

set_option maxHeartbeats 8000000 in
set_option maxRecDepth 100000 in
theorem lexKnown_walk (w : World) (hE : Env w) :
    Calls Tryd.prog 7 #[] w fun e w' => e = .returned (.bool true) ∧ Below w.heap.size w w' := by
  have HE := Lib.hid hE
  have hs1 : (str [49, 76, 45, 48, 32, 47, 47, 32, 120]).size ≤ maxLen := by decide
  have hs2 : (str []).size ≤ maxLen := by decide
  go_enter Tryd.func7, Tryd.ntmps7
  go_wp2_with fail
  refine (lex_any (str [49, 76, 45, 48, 32, 47, 47, 32, 120]) hs1 w HE.out).mono ?_
  rintro e w1 ⟨v1, rfl, hr1, hb1⟩
  rw [show (str [49, 76, 45, 48, 32, 47, 47, 32, 120]).data.toList = [49, 76, 45, 48, 32, 47, 47, 32, 120] from rfl, lex_kt1] at hr1 ⊢
  obtain ⟨g, cap, rfl⟩ := ownsRow_succ (k := 3) hr1
  have c3 := own_cells hr1 3 (.string (str [76])) rfl
  have c2 := own_cells hr1 2 (.int .i64 1) rfl
  have c10 := own_cells hr1 10 (.int .i64 0) rfl
  have c11 := own_cells hr1 11 (.string (str [])) rfl
  have c13 := own_cells hr1 13 (.int .i64 9) rfl
  have hgl : g < w1.heap.size := World.block_lt_of_cell? w1 _ c3
  have hk1 := hb1.alloc hb1.size (.cells #[.int .i64 0, .int .i64 0] tD)
  have HK1 := Lib.hid hk1
  clear hr1 hb1 hk1
  go_wp2_with fail
  refine (lex_any (str []) hs2 _ (HE.out.of HK1.out)).mono ?_
  rintro e w2 ⟨v2, rfl, hr2, hb2⟩
  rw [show (str []).data.toList = [] from rfl, lex_kt2] at hr2 ⊢
  obtain ⟨g2, cap2, rfl⟩ := ownsRow_succ (k := 0) hr2
  have e0 := own_cells hr2 0 (.int .i64 4) rfl
  have hg2l : g2 < w2.heap.size := World.block_lt_of_cell? w2 _ e0
  obtain ⟨hcl, hfr⟩ := bcell hb2
  have hg2 : g < w2.heap.size := by have := hb2.size; simp at this; omega
  have hz2 : w1.heap.size < w2.heap.size := by have := hb2.size; simp at this; omega
  have hk2 := (HK1.out.trans (hb2.mono HK1.out.size)).alloc (HK1.out.trans (hb2.mono HK1.out.size)).size (.cells #[.int .i64 0, .int .i64 0] tD)
  have hk3 := hk2.alloc hk2.size (.cells #[.string ⟨#[48, 49]⟩, .string ⟨#[49, 97]⟩, .string ⟨#[49, 76, 76]⟩, .string ⟨#[50, 49, 52, 55, 52, 56, 51, 54, 52, 56]⟩, .string ⟨#[35]⟩, .string ⟨#[50, 49, 52, 55, 52, 56, 51, 54, 52, 55]⟩, .string ⟨#[57, 50, 50, 51, 51, 55, 50, 48, 51, 54, 56, 53, 52, 55, 55, 53, 56, 48, 55, 76]⟩, .string ⟨#[57, 50, 50, 51, 51, 55, 50, 48, 51, 54, 56, 53, 52, 55, 55, 53, 56, 48, 56, 76]⟩, .string ⟨#[57, 57, 57, 57, 57, 57, 57, 57, 57, 57, 57, 57, 57, 57, 57, 57, 57, 57, 57, 57]⟩, .string ⟨#[97, 98, 99, 100, 101, 102, 103, 104, 105, 106, 107, 108, 109, 110, 111, 112, 113, 114, 115, 116, 117, 118, 119, 120]⟩, .string ⟨#[97, 98, 99, 100, 101, 102, 103, 104, 105, 106, 107, 108, 109, 110, 111, 112, 113, 114, 115, 116, 117, 118, 119, 120, 121]⟩, .string ⟨#[97, 32, 65]⟩, .string ⟨#[48, 76]⟩, .string ⟨#[48, 48, 76]⟩, .string ⟨#[47, 47]⟩, .string ⟨#[47]⟩, .string ⟨#[49, 95]⟩, .string ⟨#[38, 38, 38]⟩, .string ⟨#[9]⟩] tS)
  have hk4 := hk3.alloc hk3.size (.cells #[.int .i64 2, .int .i64 0, .int .i64 2, .int .i64 0, .int .i64 1, .int .i64 2, .int .i64 11, .int .i64 0, .int .i64 1, .int .i64 0, .int .i64 0, .int .i64 0, .int .i64 0, .int .i64 0, .int .i64 11, .int .i64 0, .int .i64 11, .int .i64 0, .int .i64 0, .int .i64 0, .int .i64 10, .int .i64 0, .int .i64 1, .int .i64 2, .int .i64 0, .int .i64 0, .int .i64 2, .int .i64 0, .int .i64 0, .int .i64 0, .int .i64 0, .int .i64 0, .int .i64 2, .int .i64 0, .int .i64 0, .int .i64 0, .int .i64 1, .int .i64 0] tD)
  have HK4 := Lib.hid hk4
  clear hr2 hb2 hk2 hk3 hk4
  go_wp2_with fail
  have bT : Blk _ _ tS ktC := (Blk.new (w2.alloc (.cells #[.int .i64 0, .int .i64 0] tD)) tS #[.string ⟨#[48, 49]⟩, .string ⟨#[49, 97]⟩, .string ⟨#[49, 76, 76]⟩, .string ⟨#[50, 49, 52, 55, 52, 56, 51, 54, 52, 56]⟩, .string ⟨#[35]⟩, .string ⟨#[50, 49, 52, 55, 52, 56, 51, 54, 52, 55]⟩, .string ⟨#[57, 50, 50, 51, 51, 55, 50, 48, 51, 54, 56, 53, 52, 55, 55, 53, 56, 48, 55, 76]⟩, .string ⟨#[57, 50, 50, 51, 51, 55, 50, 48, 51, 54, 56, 53, 52, 55, 55, 53, 56, 48, 56, 76]⟩, .string ⟨#[57, 57, 57, 57, 57, 57, 57, 57, 57, 57, 57, 57, 57, 57, 57, 57, 57, 57, 57, 57]⟩, .string ⟨#[97, 98, 99, 100, 101, 102, 103, 104, 105, 106, 107, 108, 109, 110, 111, 112, 113, 114, 115, 116, 117, 118, 119, 120]⟩, .string ⟨#[97, 98, 99, 100, 101, 102, 103, 104, 105, 106, 107, 108, 109, 110, 111, 112, 113, 114, 115, 116, 117, 118, 119, 120, 121]⟩, .string ⟨#[97, 32, 65]⟩, .string ⟨#[48, 76]⟩, .string ⟨#[48, 48, 76]⟩, .string ⟨#[47, 47]⟩, .string ⟨#[47]⟩, .string ⟨#[49, 95]⟩, .string ⟨#[38, 38, 38]⟩, .string ⟨#[9]⟩]).alloc (.cells #[.int .i64 2, .int .i64 0, .int .i64 2, .int .i64 0, .int .i64 1, .int .i64 2, .int .i64 11, .int .i64 0, .int .i64 1, .int .i64 0, .int .i64 0, .int .i64 0, .int .i64 0, .int .i64 0, .int .i64 11, .int .i64 0, .int .i64 11, .int .i64 0, .int .i64 0, .int .i64 0, .int .i64 10, .int .i64 0, .int .i64 1, .int .i64 2, .int .i64 0, .int .i64 0, .int .i64 2, .int .i64 0, .int .i64 0, .int .i64 0, .int .i64 0, .int .i64 0, .int .i64 2, .int .i64 0, .int .i64 0, .int .i64 0, .int .i64 1, .int .i64 0] tD)
  have bD : Blk _ _ tD ktDC := Blk.new ((w2.alloc (.cells #[.int .i64 0, .int .i64 0] tD)).alloc (.cells #[.string ⟨#[48, 49]⟩, .string ⟨#[49, 97]⟩, .string ⟨#[49, 76, 76]⟩, .string ⟨#[50, 49, 52, 55, 52, 56, 51, 54, 52, 56]⟩, .string ⟨#[35]⟩, .string ⟨#[50, 49, 52, 55, 52, 56, 51, 54, 52, 55]⟩, .string ⟨#[57, 50, 50, 51, 51, 55, 50, 48, 51, 54, 56, 53, 52, 55, 55, 53, 56, 48, 55, 76]⟩, .string ⟨#[57, 50, 50, 51, 51, 55, 50, 48, 51, 54, 56, 53, 52, 55, 55, 53, 56, 48, 56, 76]⟩, .string ⟨#[57, 57, 57, 57, 57, 57, 57, 57, 57, 57, 57, 57, 57, 57, 57, 57, 57, 57, 57, 57]⟩, .string ⟨#[97, 98, 99, 100, 101, 102, 103, 104, 105, 106, 107, 108, 109, 110, 111, 112, 113, 114, 115, 116, 117, 118, 119, 120]⟩, .string ⟨#[97, 98, 99, 100, 101, 102, 103, 104, 105, 106, 107, 108, 109, 110, 111, 112, 113, 114, 115, 116, 117, 118, 119, 120, 121]⟩, .string ⟨#[97, 32, 65]⟩, .string ⟨#[48, 76]⟩, .string ⟨#[48, 48, 76]⟩, .string ⟨#[47, 47]⟩, .string ⟨#[47]⟩, .string ⟨#[49, 95]⟩, .string ⟨#[38, 38, 38]⟩, .string ⟨#[9]⟩] tS)) tD #[.int .i64 2, .int .i64 0, .int .i64 2, .int .i64 0, .int .i64 1, .int .i64 2, .int .i64 11, .int .i64 0, .int .i64 1, .int .i64 0, .int .i64 0, .int .i64 0, .int .i64 0, .int .i64 0, .int .i64 11, .int .i64 0, .int .i64 11, .int .i64 0, .int .i64 0, .int .i64 0, .int .i64 10, .int .i64 0, .int .i64 1, .int .i64 2, .int .i64 0, .int .i64 0, .int .i64 2, .int .i64 0, .int .i64 0, .int .i64 0, .int .i64 0, .int .i64 0, .int .i64 2, .int .i64 0, .int .i64 0, .int .i64 0, .int .i64 1, .int .i64 0]
  have hk4 := HK4.out
  clear HK4
  simp only [World.size_alloc] at bT bD
  obtain ⟨W, hW⟩ : ∃ W, (((w2.alloc (.cells #[.int .i64 0, .int .i64 0] tD)).alloc (.cells #[.string ⟨#[48, 49]⟩, .string ⟨#[49, 97]⟩, .string ⟨#[49, 76, 76]⟩, .string ⟨#[50, 49, 52, 55, 52, 56, 51, 54, 52, 56]⟩, .string ⟨#[35]⟩, .string ⟨#[50, 49, 52, 55, 52, 56, 51, 54, 52, 55]⟩, .string ⟨#[57, 50, 50, 51, 51, 55, 50, 48, 51, 54, 56, 53, 52, 55, 55, 53, 56, 48, 55, 76]⟩, .string ⟨#[57, 50, 50, 51, 51, 55, 50, 48, 51, 54, 56, 53, 52, 55, 55, 53, 56, 48, 56, 76]⟩, .string ⟨#[57, 57, 57, 57, 57, 57, 57, 57, 57, 57, 57, 57, 57, 57, 57, 57, 57, 57, 57, 57]⟩, .string ⟨#[97, 98, 99, 100, 101, 102, 103, 104, 105, 106, 107, 108, 109, 110, 111, 112, 113, 114, 115, 116, 117, 118, 119, 120]⟩, .string ⟨#[97, 98, 99, 100, 101, 102, 103, 104, 105, 106, 107, 108, 109, 110, 111, 112, 113, 114, 115, 116, 117, 118, 119, 120, 121]⟩, .string ⟨#[97, 32, 65]⟩, .string ⟨#[48, 76]⟩, .string ⟨#[48, 48, 76]⟩, .string ⟨#[47, 47]⟩, .string ⟨#[47]⟩, .string ⟨#[49, 95]⟩, .string ⟨#[38, 38, 38]⟩, .string ⟨#[9]⟩] tS)).alloc (.cells #[.int .i64 2, .int .i64 0, .int .i64 2, .int .i64 0, .int .i64 1, .int .i64 2, .int .i64 11, .int .i64 0, .int .i64 1, .int .i64 0, .int .i64 0, .int .i64 0, .int .i64 0, .int .i64 0, .int .i64 11, .int .i64 0, .int .i64 11, .int .i64 0, .int .i64 0, .int .i64 0, .int .i64 10, .int .i64 0, .int .i64 1, .int .i64 2, .int .i64 0, .int .i64 0, .int .i64 2, .int .i64 0, .int .i64 0, .int .i64 0, .int .i64 0, .int .i64 0, .int .i64 2, .int .i64 0, .int .i64 0, .int .i64 0, .int .i64 1, .int .i64 0] tD)) = W := ⟨_, rfl⟩
  try simp only [World.size_alloc]
  rw [hW] at bT bD hk4 ⊢
  clear hW hcl hfr
  have HEW := Lib.hid (HE.out.of hk4)
  have BT := Lib.hid bT
  have BD := Lib.hid bD
  have HW := Lib.hid hk4
  have hzb : w2.heap.size + 1 + 1 < W.heap.size := bD.lt
  clear bT bD hk4 c2 c3 c10 c11 c13 e0
  go_loopw [7] (fun v wr => ∃ k : Nat, k ≤ 19 ∧ v = .int .i64 k ∧ Below W.heap.size W wr) (fun v _ => 19 - (intOf v).toNat)
  case atStart => exact ⟨0, by omega, rfl, Below.refl _ _⟩
  case round =>
    obtain ⟨k, hk, rfl, hb⟩ := hrel
    by_cases hlt : k < 19
    · have t0 : wr.cell? ⟨w2.heap.size + 1, k, none⟩ = some (.string (str (ktT[k]'hlt))) := (hb.cell (p := ⟨w2.heap.size + 1, k, none⟩) (by simp; omega)).trans ((BT.out.cell k).trans (ktC_at k hlt))
      have q0 : wr.cell? ⟨w2.heap.size + 1 + 1, k * 2, none⟩ = some (.int .i64 (ktD[k]'hlt).1) := (hb.cell (p := ⟨w2.heap.size + 1 + 1, k * 2, none⟩) hzb).trans ((BD.out.cell _).trans (ktDC_at k hlt).1)
      have q1 : wr.cell? ⟨w2.heap.size + 1 + 1, k * 2 + 1, none⟩ = some (.int .i64 (ktD[k]'hlt).2) := (hb.cell (p := ⟨w2.heap.size + 1 + 1, k * 2 + 1, none⟩) hzb).trans ((BD.out.cell _).trans (ktDC_at k hlt).2)
      have hx := kt_at k hlt
      have hzs := kt_small (ktT[k]'hlt) (List.getElem_mem _)
      generalize ktT[k]'hlt = z at *
      generalize ktD[k]'hlt = dd at *
      obtain ⟨no, at_⟩ := dd
      have hsz : (str z).size ≤ maxLen := by rw [str_size]; unfold maxLen; omega
      have LX := Lib.hid (lex_of (str z) z rfl hsz no at_ hx wr (HEW.out.of hb))
      have HB := Lib.hid hb
      have hbs := hb.size
      obtain ⟨zz, hzz⟩ : ∃ zz, str z = zz := ⟨_, rfl⟩
      rw [hzz] at t0 LX
      clear hb hx hzs hsz hzz
      go_wp2_with fail
      refine LX.out.mono ?_
      clear LX
      rintro e w3 ⟨v3, rfl, hb3⟩
      obtain ⟨hcl, hfr⟩ := bcell hb3
      have hb3s := hb3.size
      have HB3 := Lib.hid ((HB.out.trans (hb3.mono HB.out.size)).alloc (HB.out.trans (hb3.mono HB.out.size)).size (.cells #[.int .i64 no, .int .i64 at_] tD))
      have y0 := (hcl (w2.heap.size + 1 + 1) (k * 2) (by omega)).trans q0
      have y1 := (hcl (w2.heap.size + 1 + 1) (k * 2 + 1) (by omega)).trans q1
      have hz3 : w2.heap.size + 1 + 1 < w3.heap.size := by omega
      clear hb3 hcl hfr t0 q0 q1 HB
      go_wp2
      go_quiet (fail)
      go_wp2
      go_roundw
      case rel => exact ⟨k + 1, by omega, by go_num, HB3.out.trans (below_drewN _ _ _)⟩
      case measure => simp [intOf]; omega
    · obtain rfl : k = 19 := by omega
      have HB := Lib.hid (HW.out.trans (hb.mono HW.out.size))
      clear hb
      go_wp2
      go_loopw [10] (fun v wx => ∃ c : Nat, c ≤ 256 ∧ v = .int .i64 c ∧ Below w.heap.size w wx) (fun v _ => 256 - (intOf v).toNat)
      case atStart => exact ⟨0, by omega, rfl, HB.out⟩
      case round =>
        obtain ⟨c, hc, rfl, hb⟩ := hrel
        by_cases hlt2 : c < 256
        · obtain ⟨b, hbc⟩ : ∃ b : UInt8, (b.toNat : Int) = (c : Int) := ⟨UInt8.ofNat c, by rw [UInt8.toNat_ofNat']; omega⟩
          have cv1 := fun X : World => conv_bytes X [b] #[.int .u8 (c : Int)] 1 rfl (by rw [← hbc]; rfl)
          have cv2 := fun X : World => conv_bytes X [60, b, 97] #[.int .u8 60, .int .u8 (c : Int), .int .u8 97] 3 rfl (by rw [← hbc]; rfl)
          have cv3 := fun X : World => conv_bytes X [49, b] #[.int .u8 49, .int .u8 (c : Int)] 2 rfl (by rw [← hbc]; rfl)
          have z1 : (str [b]).size ≤ maxLen := by rw [str_size]; simp [maxLen]
          have z2 : (str [60, b, 97]).size ≤ maxLen := by rw [str_size]; simp [maxLen]
          have z3 : (str [49, b]).size ≤ maxLen := by rw [str_size]; simp [maxLen]
          generalize str [b] = s1 at *
          generalize str [60, b, 97] = s2 at *
          generalize str [49, b] = s3 at *
          have L1 := Lib.hid (reads_at s1 z1 w _ HE.out (hb.alloc hb.size (.cells #[.int .u8 (c : Int)] tU)))
          have L2 := Lib.hid (fun X (h : Below w.heap.size w X) => reads_at s2 z2 w _ HE.out (h.alloc h.size (.cells #[.int .u8 60, .int .u8 (c : Int), .int .u8 97] tU)))
          have L3 := Lib.hid (fun X (h : Below w.heap.size w X) => reads_at s3 z3 w _ HE.out (h.alloc h.size (.cells #[.int .u8 49, .int .u8 (c : Int)] tU)))
          clear hb hbc z1 z2 z3
          go_wp2_with fail
          refine L1.out.mono ?_
          rintro e w4 ⟨rfl, hb4⟩
          have LL2 := Lib.hid (L2.out w4 hb4)
          clear L1 L2 hb4
          go_wp2_with fail
          refine LL2.out.mono ?_
          rintro e w5 ⟨rfl, hb5⟩
          have LL3 := Lib.hid (L3.out w5 hb5)
          clear LL2 L3 hb5
          go_wp2_with fail
          refine LL3.out.mono ?_
          clear LL3
          rintro e w6 ⟨rfl, hb6⟩
          go_wp2
          go_roundw
          case rel =>
            repeat apply Exists.intro
            exact ⟨⟨c + 1, by omega, by go_num, hb6⟩, rfl⟩
          case measure => simp [intOf]; omega
        · obtain rfl : c = 256 := by omega
          have HX := Lib.hid hb
          clear hb HB
          go_wp2_with (refine make_zero 1048577 (by omega) _ rfl _ _ rfl _ _ _ _ rfl rfl rfl rfl ?_; intro w5 zs hb5 hzs hsz hcv; have LX := Lib.hid (lex_of zs _ hzs (by rw [hsz]; decide) 10 0 (by rw [lex_long 1048577 (by omega)]) w5 (HE.out.of (HX.out.trans (hb5.mono HX.out.size)))); have HX5 := Lib.hid (HX.out.trans (hb5.mono HX.out.size)); clear hzs hsz hb5)
          refine LX.out.mono ?_
          clear LX
          rintro e w6 ⟨v6, rfl, hb6⟩
          have HX6 := Lib.hid ((HX5.out.trans (hb6.mono HX5.out.size)).alloc (HX5.out.trans (hb6.mono HX5.out.size)).size (.cells #[.int .i64 10, .int .i64 0] tD))
          clear hb6 hcv
          go_wp2_with (refine make_zero 1048576 (by omega) _ rfl _ _ rfl _ _ _ _ rfl rfl rfl rfl ?_; intro w7 ys hb7 hys hsy hcw; simp only [World.size_alloc] at hcw; have LX := Lib.hid (lex_of ys _ hys (by rw [hsy]; decide) 1 0 (by rw [lex_zero 1048576 (by omega) (by omega)]) w7 (HE.out.of (HX6.out.trans (hb7.mono HX6.out.size)))); have HX7 := Lib.hid (HX6.out.trans (hb7.mono HX6.out.size)); have D7 := Lib.hid ((Blk.new w6 tD #[.int .i64 10, .int .i64 0]).below hb7 (by simp)); clear hys hsy hb7)
          refine LX.out.mono ?_
          clear LX
          rintro e w8 ⟨v8, rfl, hb8⟩
          have d8 := D7.out.below hb8 D7.out.lt
          have hl8 := d8.lt
          have x0 := d8.cell 0
          have x1 := d8.cell 1
          simp at x0 x1
          have hx8 := (HX7.out.trans (hb8.mono HX7.out.size)).alloc (HX7.out.trans (hb8.mono HX7.out.size)).size (.cells #[.int .i64 1, .int .i64 0] tD)
          have KN := Lib.hid (known_at w _ HE.out hx8)
          clear hb8 hcw d8 hx8 D7 HX7 HX6
          go_wp2_with fail
          refine KN.out.mono ?_
          clear KN
          rintro e w9 ⟨rfl, hb9⟩
          go_wp2
          go_ret
          exact ⟨rfl, hb9⟩
end Go.Proofs.YtpmljgnnfljjpaaDoor
