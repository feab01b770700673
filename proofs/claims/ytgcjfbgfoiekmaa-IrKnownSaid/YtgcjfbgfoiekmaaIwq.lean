/-
  IrKnown: the walk.
-/
import Derived.Test.YtgcjfbgfoiekmaaIwp
import Derived.Deep.Cut
import Derived.Deep.CutRange
namespace Go.Proofs.Ytgcjfbgfoiekmaa
open Go Go.RowKit Go.Maps
set_option linter.unusedVariables false
set_option linter.unusedSimpArgs false

set_option maxHeartbeats 16000000 in
set_option maxRecDepth 100000 in
theorem irKnown_any (w : World) : Calls Try.prog 5 #[] w fun e w' => e = .returned (.bool true) ∧ Below w.heap.size w w' := by
  have HK : Hid (∀ W, Calls Try.prog 8 #[] W fun e w' => e = .returned (.bool true) ∧ Below W.heap.size W w') := Lib.hid known_any
  have HA0 := Lib.hid (Has.nil w)
  go_enter Try.func5, Try.ntmps5
  go_upto_region 2 with (fail)
  have HA1' := HA0.out.add tIn #[.int .i64 10, .int .i64 0, .int .i64 2, .int .i64 0, .int .i64 0, .int .i64 0, .string ⟨#[]⟩, .slice none 0 0] (g := w.heap.size) rfl
  obtain ⟨gi, hgi⟩ : ∃ x, w.heap.size = x := ⟨_, rfl⟩
  rw [hgi] at HA1'
  generalize hwW1 : w.alloc (.cells #[.int .i64 10, .int .i64 0, .int .i64 2, .int .i64 0, .int .i64 0, .int .i64 0, .string ⟨#[]⟩, .slice none 0 0] tIn) = W1 at *
  simp only [hgi]
  have HA1 := Lib.hid HA1'
  clear HA1' hgi hwW1
  go_upto_region 3 with (fail)
  have HA2' := HA1.out.add tIn #[.int .i64 1, .int .i64 0, .int .i64 3, .int .i64 0, .int .i64 0, .int .i64 2, .string ⟨#[]⟩, .slice none 0 0] (g := W1.heap.size) rfl
  obtain ⟨gt, hgt⟩ : ∃ x, W1.heap.size = x := ⟨_, rfl⟩
  rw [hgt] at HA2'
  generalize hwW2 : W1.alloc (.cells #[.int .i64 1, .int .i64 0, .int .i64 3, .int .i64 0, .int .i64 0, .int .i64 2, .string ⟨#[]⟩, .slice none 0 0] tIn) = W2 at *
  simp only [hgt]
  have HA2 := Lib.hid HA2'
  clear HA2' hgt hwW2 HA1
  -- la
  have p0 := (HA2.out.get 1 rfl).cell 0
  have p1 := (HA2.out.get 1 rfl).cell 1
  have p2 := (HA2.out.get 1 rfl).cell 2
  have p3 := (HA2.out.get 1 rfl).cell 3
  have p4 := (HA2.out.get 1 rfl).cell 4
  have p5 := (HA2.out.get 1 rfl).cell 5
  have p6 := (HA2.out.get 1 rfl).cell 6
  have p7 := (HA2.out.get 1 rfl).cell 7
  have pl := (HA2.out.get 1 rfl).lt
  simp only [List.getElem?_toArray, List.getElem?_cons_zero, List.getElem?_cons_succ] at p0 p1 p2 p3 p4 p5 p6 p7
  have q0 := (HA2.out.get 0 rfl).cell 0
  have q1 := (HA2.out.get 0 rfl).cell 1
  have q2 := (HA2.out.get 0 rfl).cell 2
  have q3 := (HA2.out.get 0 rfl).cell 3
  have q4 := (HA2.out.get 0 rfl).cell 4
  have q5 := (HA2.out.get 0 rfl).cell 5
  have q6 := (HA2.out.get 0 rfl).cell 6
  have q7 := (HA2.out.get 0 rfl).cell 7
  have ql := (HA2.out.get 0 rfl).lt
  simp only [List.getElem?_toArray, List.getElem?_cons_zero, List.getElem?_cons_succ] at q0 q1 q2 q3 q4 q5 q6 q7
  go_wp2_with fail
  refine (la_e W2).mono ?_
  rintro e Va ⟨Aa, ca, rfl, hb⟩
  have HV := Lib.hid (HA2.out.on hb)
  clear hb HA2 p0 q0 p1 q1 p2 q2 p3 q3 p4 q4 p5 q5 p6 q6 p7 q7 pl ql
  go_upto_region 4 with (fail)
  have hn := HV.out.add tRn #[.slice Aa 0 ca, .int .i64 1, .int .i64 44] (g := Va.heap.size) rfl
  obtain ⟨ga, hg⟩ : ∃ y, Va.heap.size = y := ⟨_, rfl⟩
  rw [hg] at hn
  generalize hw : Va.alloc (.cells #[.slice Aa 0 ca, .int .i64 1, .int .i64 44] tRn) = W3 at *
  simp only [hg]
  have HB3 := Lib.hid hn
  clear hn hg hw HV
  -- lb
  have p0 := (HB3.out.get 2 rfl).cell 0
  have p1 := (HB3.out.get 2 rfl).cell 1
  have p2 := (HB3.out.get 2 rfl).cell 2
  have p3 := (HB3.out.get 2 rfl).cell 3
  have p4 := (HB3.out.get 2 rfl).cell 4
  have p5 := (HB3.out.get 2 rfl).cell 5
  have p6 := (HB3.out.get 2 rfl).cell 6
  have p7 := (HB3.out.get 2 rfl).cell 7
  have pl := (HB3.out.get 2 rfl).lt
  simp only [List.getElem?_toArray, List.getElem?_cons_zero, List.getElem?_cons_succ] at p0 p1 p2 p3 p4 p5 p6 p7
  have q0 := (HB3.out.get 1 rfl).cell 0
  have q1 := (HB3.out.get 1 rfl).cell 1
  have q2 := (HB3.out.get 1 rfl).cell 2
  have q3 := (HB3.out.get 1 rfl).cell 3
  have q4 := (HB3.out.get 1 rfl).cell 4
  have q5 := (HB3.out.get 1 rfl).cell 5
  have q6 := (HB3.out.get 1 rfl).cell 6
  have q7 := (HB3.out.get 1 rfl).cell 7
  have ql := (HB3.out.get 1 rfl).lt
  simp only [List.getElem?_toArray, List.getElem?_cons_zero, List.getElem?_cons_succ] at q0 q1 q2 q3 q4 q5 q6 q7
  go_wp2_with fail
  refine (lb_e W3).mono ?_
  rintro e Vb ⟨Ab, cb, rfl, hb⟩
  have HV := Lib.hid (HB3.out.on hb)
  clear hb HB3 p0 q0 p1 q1 p2 q2 p3 q3 p4 q4 p5 q5 p6 q6 p7 q7 pl ql
  go_upto_region 5 with (fail)
  have hn := HV.out.add tRn #[.slice Ab 0 cb, .int .i64 1, .int .i64 44] (g := Vb.heap.size) rfl
  obtain ⟨gb, hg⟩ : ∃ y, Vb.heap.size = y := ⟨_, rfl⟩
  rw [hg] at hn
  generalize hw : Vb.alloc (.cells #[.slice Ab 0 cb, .int .i64 1, .int .i64 44] tRn) = W4 at *
  simp only [hg]
  have HB4 := Lib.hid hn
  clear hn hg hw HV
  -- lc
  have p0 := (HB4.out.get 3 rfl).cell 0
  have p1 := (HB4.out.get 3 rfl).cell 1
  have p2 := (HB4.out.get 3 rfl).cell 2
  have p3 := (HB4.out.get 3 rfl).cell 3
  have p4 := (HB4.out.get 3 rfl).cell 4
  have p5 := (HB4.out.get 3 rfl).cell 5
  have p6 := (HB4.out.get 3 rfl).cell 6
  have p7 := (HB4.out.get 3 rfl).cell 7
  have pl := (HB4.out.get 3 rfl).lt
  simp only [List.getElem?_toArray, List.getElem?_cons_zero, List.getElem?_cons_succ] at p0 p1 p2 p3 p4 p5 p6 p7
  have q0 := (HB4.out.get 2 rfl).cell 0
  have q1 := (HB4.out.get 2 rfl).cell 1
  have q2 := (HB4.out.get 2 rfl).cell 2
  have q3 := (HB4.out.get 2 rfl).cell 3
  have q4 := (HB4.out.get 2 rfl).cell 4
  have q5 := (HB4.out.get 2 rfl).cell 5
  have q6 := (HB4.out.get 2 rfl).cell 6
  have q7 := (HB4.out.get 2 rfl).cell 7
  have ql := (HB4.out.get 2 rfl).lt
  simp only [List.getElem?_toArray, List.getElem?_cons_zero, List.getElem?_cons_succ] at q0 q1 q2 q3 q4 q5 q6 q7
  go_wp2_with fail
  refine (lc_e W4).mono ?_
  rintro e Vc ⟨Ac, cc, rfl, hb⟩
  have HV := Lib.hid (HB4.out.on hb)
  clear hb HB4 p0 q0 p1 q1 p2 q2 p3 q3 p4 q4 p5 q5 p6 q6 p7 q7 pl ql
  go_upto_region 6 with (fail)
  have hn := HV.out.add tRn #[.slice Ac 0 cc, .int .i64 2, .int .i64 3] (g := Vc.heap.size) rfl
  obtain ⟨gc, hg⟩ : ∃ y, Vc.heap.size = y := ⟨_, rfl⟩
  rw [hg] at hn
  generalize hw : Vc.alloc (.cells #[.slice Ac 0 cc, .int .i64 2, .int .i64 3] tRn) = W5 at *
  simp only [hg]
  have HB5 := Lib.hid hn
  clear hn hg hw HV
  -- ld
  have p0 := (HB5.out.get 4 rfl).cell 0
  have p1 := (HB5.out.get 4 rfl).cell 1
  have p2 := (HB5.out.get 4 rfl).cell 2
  have p3 := (HB5.out.get 4 rfl).cell 3
  have p4 := (HB5.out.get 4 rfl).cell 4
  have p5 := (HB5.out.get 4 rfl).cell 5
  have p6 := (HB5.out.get 4 rfl).cell 6
  have p7 := (HB5.out.get 4 rfl).cell 7
  have pl := (HB5.out.get 4 rfl).lt
  simp only [List.getElem?_toArray, List.getElem?_cons_zero, List.getElem?_cons_succ] at p0 p1 p2 p3 p4 p5 p6 p7
  have q0 := (HB5.out.get 3 rfl).cell 0
  have q1 := (HB5.out.get 3 rfl).cell 1
  have q2 := (HB5.out.get 3 rfl).cell 2
  have q3 := (HB5.out.get 3 rfl).cell 3
  have q4 := (HB5.out.get 3 rfl).cell 4
  have q5 := (HB5.out.get 3 rfl).cell 5
  have q6 := (HB5.out.get 3 rfl).cell 6
  have q7 := (HB5.out.get 3 rfl).cell 7
  have ql := (HB5.out.get 3 rfl).lt
  simp only [List.getElem?_toArray, List.getElem?_cons_zero, List.getElem?_cons_succ] at q0 q1 q2 q3 q4 q5 q6 q7
  go_wp2_with fail
  refine (ld_e W5).mono ?_
  rintro e Vd ⟨Ad, cd, rfl, hb⟩
  have HV := Lib.hid (HB5.out.on hb)
  clear hb HB5 p0 q0 p1 q1 p2 q2 p3 q3 p4 q4 p5 q5 p6 q6 p7 q7 pl ql
  go_upto_region 7 with (fail)
  have hn := HV.out.add tRn #[.slice Ad 0 cd, .int .i64 2, .int .i64 1] (g := Vd.heap.size) rfl
  obtain ⟨gd, hg⟩ : ∃ y, Vd.heap.size = y := ⟨_, rfl⟩
  rw [hg] at hn
  generalize hw : Vd.alloc (.cells #[.slice Ad 0 cd, .int .i64 2, .int .i64 1] tRn) = W6 at *
  simp only [hg]
  have HB6 := Lib.hid hn
  clear hn hg hw HV
  -- lf
  have p0 := (HB6.out.get 5 rfl).cell 0
  have p1 := (HB6.out.get 5 rfl).cell 1
  have p2 := (HB6.out.get 5 rfl).cell 2
  have p3 := (HB6.out.get 5 rfl).cell 3
  have p4 := (HB6.out.get 5 rfl).cell 4
  have p5 := (HB6.out.get 5 rfl).cell 5
  have p6 := (HB6.out.get 5 rfl).cell 6
  have p7 := (HB6.out.get 5 rfl).cell 7
  have pl := (HB6.out.get 5 rfl).lt
  simp only [List.getElem?_toArray, List.getElem?_cons_zero, List.getElem?_cons_succ] at p0 p1 p2 p3 p4 p5 p6 p7
  have q0 := (HB6.out.get 4 rfl).cell 0
  have q1 := (HB6.out.get 4 rfl).cell 1
  have q2 := (HB6.out.get 4 rfl).cell 2
  have q3 := (HB6.out.get 4 rfl).cell 3
  have q4 := (HB6.out.get 4 rfl).cell 4
  have q5 := (HB6.out.get 4 rfl).cell 5
  have q6 := (HB6.out.get 4 rfl).cell 6
  have q7 := (HB6.out.get 4 rfl).cell 7
  have ql := (HB6.out.get 4 rfl).lt
  simp only [List.getElem?_toArray, List.getElem?_cons_zero, List.getElem?_cons_succ] at q0 q1 q2 q3 q4 q5 q6 q7
  go_wp2_with fail
  refine (lf_e W6).mono ?_
  rintro e Vf ⟨Af, cf, rfl, hrd, hb⟩
  have HV := Lib.hid (HB6.out.on hb)
  clear hb HB6 p0 q0 p1 q1 p2 q2 p3 q3 p4 q4 p5 q5 p6 q6 p7 q7 pl ql
  go_upto_region 8 with (fail)
  have HRD := Lib.hid (hrd.on ((Below.refl Vf.heap.size Vf).alloc (Nat.le_refl _) (.cells #[.slice Af 3 cf, .int .i64 1, .int .i64 1] tRn)))
  clear hrd
  have hn := HV.out.add tRn #[.slice Af 3 cf, .int .i64 1, .int .i64 1] (g := Vf.heap.size) rfl
  obtain ⟨gf, hg⟩ : ∃ y, Vf.heap.size = y := ⟨_, rfl⟩
  rw [hg] at hn
  generalize hw : Vf.alloc (.cells #[.slice Af 3 cf, .int .i64 1, .int .i64 1] tRn) = W7 at *
  simp only [hg]
  have HB7 := Lib.hid hn
  clear hn hg hw HV
  have HSI : Hid (∀ W, Below W7.heap.size W7 W → ∀ vb, RdV W W.heap.size vb [300, -7, 0] → Calls Try.prog 11 #[.slice Af 3 cf, vb] W fun e w' => e = .returned (.bool true) ∧ Below W.heap.size W w') := Lib.hid fun W hW vb h =>
    (sameI_any [300, -7, 0] _ _ _ _ W (HRD.out.below hW) h).mono fun e w' ⟨h1, d, h2⟩ => ⟨h1, by rw [h2]; exact below_drewN _ _ _⟩
  have ra2 := (HB7.out.get 4 rfl).cell 2
  have ral := (HB7.out.get 4 rfl).lt
  have rb2 := (HB7.out.get 3 rfl).cell 2
  have rbl := (HB7.out.get 3 rfl).lt
  have rc1 := (HB7.out.get 2 rfl).cell 1
  have rc2 := (HB7.out.get 2 rfl).cell 2
  have rcl := (HB7.out.get 2 rfl).lt
  have rd2 := (HB7.out.get 1 rfl).cell 2
  have rdl := (HB7.out.get 1 rfl).lt
  have rf0 := (HB7.out.get 0 rfl).cell 0
  have rf2 := (HB7.out.get 0 rfl).cell 2
  have rfl := (HB7.out.get 0 rfl).lt
  simp only [List.getElem?_toArray, List.getElem?_cons_zero, List.getElem?_cons_succ] at ra2 rb2 rc1 rc2 rd2 rf0 rf2
  have hbL : Below W7.heap.size W7 (W7.alloc (.cells #[.int .i64 300, .int .i64 (-7), .int .i64 0] tI1)) := (Below.refl _ _).alloc (Nat.le_refl _) _
  have hIL : IsI (W7.alloc (.cells #[.int .i64 300, .int .i64 (-7), .int .i64 0] tI1)) (W7.alloc (.cells #[.int .i64 300, .int .i64 (-7), .int .i64 0] tI1)).heap.size (.slice (some ⟨W7.heap.size, 0, none⟩) 3 3) [300, -7, 0] := isI_flat (l := [300, -7, 0]) (Blk.new W7 tI1 _) (by simp) (by
    intro x hx
    simp only [List.mem_cons, List.not_mem_nil, or_false] at hx
    rcases hx with rfl | rfl | rfl <;> exact iw_small (by decide))
  have HIL := Lib.hid (And.intro hbL hIL)
  clear hbL hIL
  go_wp2_with fail
  refine (HSI.out _ HIL.out.1 _ HIL.out.2.rd).mono ?_
  rintro e W8 ⟨rfl, hb8⟩
  have HB8 := Lib.hid ((HB7.out.on HIL.out.1).on hb8)
  clear hb8 HSI HIL HRD HB7 ra2 rb2 rc1 rc2 rd2 rf0 rf2 ral rbl rcl rdl rfl
  have ra2 := (HB8.out.get 4 rfl).cell 2
  have ral := (HB8.out.get 4 rfl).lt
  have rb2 := (HB8.out.get 3 rfl).cell 2
  have rbl := (HB8.out.get 3 rfl).lt
  have rc1 := (HB8.out.get 2 rfl).cell 1
  have rc2 := (HB8.out.get 2 rfl).cell 2
  have rcl := (HB8.out.get 2 rfl).lt
  have rd2 := (HB8.out.get 1 rfl).cell 2
  have rdl := (HB8.out.get 1 rfl).lt
  have rf0 := (HB8.out.get 0 rfl).cell 0
  have rf2 := (HB8.out.get 0 rfl).cell 2
  have rfl := (HB8.out.get 0 rfl).lt
  simp only [List.getElem?_toArray, List.getElem?_cons_zero, List.getElem?_cons_succ] at ra2 rb2 rc1 rc2 rd2 rf0 rf2
  go_upto_region 10 with (fail)
  have HW8 := Lib.hid HB8.out.1
  clear HB8 ra2 rb2 rc1 rc2 rd2 rf0 rf2 ral rbl rcl rdl rfl
  go_upto_region 12 with (fail)
  have q0 : Blk (((W8.alloc (.cells #[.int .i64 0] tI1)).alloc (.cells #[.int .i64 0, .int .i64 0, .int .i64 0, .int .i64 0, .int .i64 0, .int .i64 0, .string ⟨#[]⟩, .slice none 0 0, .int .i64 12, .int .i64 0, .int .i64 0, .int .i64 0, .int .i64 0, .int .i64 0, .string ⟨#[]⟩, .slice none 0 0, .int .i64 3, .int .i64 1, .int .i64 0, .int .i64 0, .int .i64 0, .int .i64 0, .string ⟨#[38, 38]⟩, .slice none 0 0, .int .i64 4, .int .i64 0, .int .i64 0, .int .i64 0, .int .i64 0, .int .i64 0, .string ⟨#[]⟩, .slice none 0 0, .int .i64 1, .int .i64 0, .int .i64 4, .int .i64 0, .int .i64 0, .int .i64 0, .string ⟨#[]⟩, .slice none 0 0, .int .i64 1, .int .i64 0, .int .i64 (-1), .int .i64 0, .int .i64 0, .int .i64 0, .string ⟨#[]⟩, .slice none 0 0, .int .i64 1, .int .i64 0, .int .i64 0, .int .i64 0, .int .i64 0, .int .i64 2147483648, .string ⟨#[]⟩, .slice none 0 0, .int .i64 7, .int .i64 0, .int .i64 2, .int .i64 0, .int .i64 0, .int .i64 1, .string ⟨#[]⟩, .slice none 0 0, .int .i64 5, .int .i64 0, .int .i64 0, .int .i64 2, .int .i64 0, .int .i64 0, .string ⟨#[]⟩, .slice none 0 0, .int .i64 9, .int .i64 0, .int .i64 0, .int .i64 0, .int .i64 0, .int .i64 1, .string ⟨#[]⟩, .slice none 0 0, .int .i64 9, .int .i64 0, .int .i64 0, .int .i64 0, .int .i64 0, .int .i64 0, .string ⟨#[]⟩, .slice (some ⟨W8.heap.size, 0, none⟩) 1 1, .int .i64 2, .int .i64 0, .int .i64 0, .int .i64 2, .int .i64 0, .int .i64 0, .string ⟨#[]⟩, .slice none 0 0, .int .i64 11, .int .i64 0, .int .i64 0, .int .i64 0, .int .i64 0, .int .i64 0, .string ⟨#[]⟩, .slice none 0 0, .int .i64 3, .int .i64 2, .int .i64 2, .int .i64 2, .int .i64 3, .int .i64 0, .string ⟨#[60]⟩, .slice none 0 0, .int .i64 3, .int .i64 1, .int .i64 0, .int .i64 0, .int .i64 0, .int .i64 0, .string ⟨#[32]⟩, .slice none 0 0] tIn)).alloc (.cells #[.int .i64 2, .int .i64 2, .int .i64 2, .int .i64 2, .int .i64 11, .int .i64 11, .int .i64 11, .int .i64 11, .int .i64 11, .int .i64 11, .int .i64 7, .int .i64 6, .int .i64 6, .int .i64 6, .int .i64 2] tI1)) W8.heap.size tI1 #[.int .i64 0] := ((Blk.new W8 tI1 _).alloc _).alloc _
  have q1 : Blk (((W8.alloc (.cells #[.int .i64 0] tI1)).alloc (.cells #[.int .i64 0, .int .i64 0, .int .i64 0, .int .i64 0, .int .i64 0, .int .i64 0, .string ⟨#[]⟩, .slice none 0 0, .int .i64 12, .int .i64 0, .int .i64 0, .int .i64 0, .int .i64 0, .int .i64 0, .string ⟨#[]⟩, .slice none 0 0, .int .i64 3, .int .i64 1, .int .i64 0, .int .i64 0, .int .i64 0, .int .i64 0, .string ⟨#[38, 38]⟩, .slice none 0 0, .int .i64 4, .int .i64 0, .int .i64 0, .int .i64 0, .int .i64 0, .int .i64 0, .string ⟨#[]⟩, .slice none 0 0, .int .i64 1, .int .i64 0, .int .i64 4, .int .i64 0, .int .i64 0, .int .i64 0, .string ⟨#[]⟩, .slice none 0 0, .int .i64 1, .int .i64 0, .int .i64 (-1), .int .i64 0, .int .i64 0, .int .i64 0, .string ⟨#[]⟩, .slice none 0 0, .int .i64 1, .int .i64 0, .int .i64 0, .int .i64 0, .int .i64 0, .int .i64 2147483648, .string ⟨#[]⟩, .slice none 0 0, .int .i64 7, .int .i64 0, .int .i64 2, .int .i64 0, .int .i64 0, .int .i64 1, .string ⟨#[]⟩, .slice none 0 0, .int .i64 5, .int .i64 0, .int .i64 0, .int .i64 2, .int .i64 0, .int .i64 0, .string ⟨#[]⟩, .slice none 0 0, .int .i64 9, .int .i64 0, .int .i64 0, .int .i64 0, .int .i64 0, .int .i64 1, .string ⟨#[]⟩, .slice none 0 0, .int .i64 9, .int .i64 0, .int .i64 0, .int .i64 0, .int .i64 0, .int .i64 0, .string ⟨#[]⟩, .slice (some ⟨W8.heap.size, 0, none⟩) 1 1, .int .i64 2, .int .i64 0, .int .i64 0, .int .i64 2, .int .i64 0, .int .i64 0, .string ⟨#[]⟩, .slice none 0 0, .int .i64 11, .int .i64 0, .int .i64 0, .int .i64 0, .int .i64 0, .int .i64 0, .string ⟨#[]⟩, .slice none 0 0, .int .i64 3, .int .i64 2, .int .i64 2, .int .i64 2, .int .i64 3, .int .i64 0, .string ⟨#[60]⟩, .slice none 0 0, .int .i64 3, .int .i64 1, .int .i64 0, .int .i64 0, .int .i64 0, .int .i64 0, .string ⟨#[32]⟩, .slice none 0 0] tIn)).alloc (.cells #[.int .i64 2, .int .i64 2, .int .i64 2, .int .i64 2, .int .i64 11, .int .i64 11, .int .i64 11, .int .i64 11, .int .i64 11, .int .i64 11, .int .i64 7, .int .i64 6, .int .i64 6, .int .i64 6, .int .i64 2] tI1)) (W8.heap.size + 1) tIn (badL.flatMap fun x => insC x (avB W8.heap.size x)).toArray := (blks3 W8 _ _ _ tI1 tIn tI1).2.1
  have q2 : Blk (((W8.alloc (.cells #[.int .i64 0] tI1)).alloc (.cells #[.int .i64 0, .int .i64 0, .int .i64 0, .int .i64 0, .int .i64 0, .int .i64 0, .string ⟨#[]⟩, .slice none 0 0, .int .i64 12, .int .i64 0, .int .i64 0, .int .i64 0, .int .i64 0, .int .i64 0, .string ⟨#[]⟩, .slice none 0 0, .int .i64 3, .int .i64 1, .int .i64 0, .int .i64 0, .int .i64 0, .int .i64 0, .string ⟨#[38, 38]⟩, .slice none 0 0, .int .i64 4, .int .i64 0, .int .i64 0, .int .i64 0, .int .i64 0, .int .i64 0, .string ⟨#[]⟩, .slice none 0 0, .int .i64 1, .int .i64 0, .int .i64 4, .int .i64 0, .int .i64 0, .int .i64 0, .string ⟨#[]⟩, .slice none 0 0, .int .i64 1, .int .i64 0, .int .i64 (-1), .int .i64 0, .int .i64 0, .int .i64 0, .string ⟨#[]⟩, .slice none 0 0, .int .i64 1, .int .i64 0, .int .i64 0, .int .i64 0, .int .i64 0, .int .i64 2147483648, .string ⟨#[]⟩, .slice none 0 0, .int .i64 7, .int .i64 0, .int .i64 2, .int .i64 0, .int .i64 0, .int .i64 1, .string ⟨#[]⟩, .slice none 0 0, .int .i64 5, .int .i64 0, .int .i64 0, .int .i64 2, .int .i64 0, .int .i64 0, .string ⟨#[]⟩, .slice none 0 0, .int .i64 9, .int .i64 0, .int .i64 0, .int .i64 0, .int .i64 0, .int .i64 1, .string ⟨#[]⟩, .slice none 0 0, .int .i64 9, .int .i64 0, .int .i64 0, .int .i64 0, .int .i64 0, .int .i64 0, .string ⟨#[]⟩, .slice (some ⟨W8.heap.size, 0, none⟩) 1 1, .int .i64 2, .int .i64 0, .int .i64 0, .int .i64 2, .int .i64 0, .int .i64 0, .string ⟨#[]⟩, .slice none 0 0, .int .i64 11, .int .i64 0, .int .i64 0, .int .i64 0, .int .i64 0, .int .i64 0, .string ⟨#[]⟩, .slice none 0 0, .int .i64 3, .int .i64 2, .int .i64 2, .int .i64 2, .int .i64 3, .int .i64 0, .string ⟨#[60]⟩, .slice none 0 0, .int .i64 3, .int .i64 1, .int .i64 0, .int .i64 0, .int .i64 0, .int .i64 0, .string ⟨#[32]⟩, .slice none 0 0] tIn)).alloc (.cells #[.int .i64 2, .int .i64 2, .int .i64 2, .int .i64 2, .int .i64 11, .int .i64 11, .int .i64 11, .int .i64 11, .int .i64 11, .int .i64 11, .int .i64 7, .int .i64 6, .int .i64 6, .int .i64 6, .int .i64 2] tI1)) (W8.heap.size + 2) tI1 (wantL.flatMap fun x => [Value.int .i64 x]).toArray := (blks3 W8 _ _ _ tI1 tIn tI1).2.2
  have hbV : Below w.heap.size w (((W8.alloc (.cells #[.int .i64 0] tI1)).alloc (.cells #[.int .i64 0, .int .i64 0, .int .i64 0, .int .i64 0, .int .i64 0, .int .i64 0, .string ⟨#[]⟩, .slice none 0 0, .int .i64 12, .int .i64 0, .int .i64 0, .int .i64 0, .int .i64 0, .int .i64 0, .string ⟨#[]⟩, .slice none 0 0, .int .i64 3, .int .i64 1, .int .i64 0, .int .i64 0, .int .i64 0, .int .i64 0, .string ⟨#[38, 38]⟩, .slice none 0 0, .int .i64 4, .int .i64 0, .int .i64 0, .int .i64 0, .int .i64 0, .int .i64 0, .string ⟨#[]⟩, .slice none 0 0, .int .i64 1, .int .i64 0, .int .i64 4, .int .i64 0, .int .i64 0, .int .i64 0, .string ⟨#[]⟩, .slice none 0 0, .int .i64 1, .int .i64 0, .int .i64 (-1), .int .i64 0, .int .i64 0, .int .i64 0, .string ⟨#[]⟩, .slice none 0 0, .int .i64 1, .int .i64 0, .int .i64 0, .int .i64 0, .int .i64 0, .int .i64 2147483648, .string ⟨#[]⟩, .slice none 0 0, .int .i64 7, .int .i64 0, .int .i64 2, .int .i64 0, .int .i64 0, .int .i64 1, .string ⟨#[]⟩, .slice none 0 0, .int .i64 5, .int .i64 0, .int .i64 0, .int .i64 2, .int .i64 0, .int .i64 0, .string ⟨#[]⟩, .slice none 0 0, .int .i64 9, .int .i64 0, .int .i64 0, .int .i64 0, .int .i64 0, .int .i64 1, .string ⟨#[]⟩, .slice none 0 0, .int .i64 9, .int .i64 0, .int .i64 0, .int .i64 0, .int .i64 0, .int .i64 0, .string ⟨#[]⟩, .slice (some ⟨W8.heap.size, 0, none⟩) 1 1, .int .i64 2, .int .i64 0, .int .i64 0, .int .i64 2, .int .i64 0, .int .i64 0, .string ⟨#[]⟩, .slice none 0 0, .int .i64 11, .int .i64 0, .int .i64 0, .int .i64 0, .int .i64 0, .int .i64 0, .string ⟨#[]⟩, .slice none 0 0, .int .i64 3, .int .i64 2, .int .i64 2, .int .i64 2, .int .i64 3, .int .i64 0, .string ⟨#[60]⟩, .slice none 0 0, .int .i64 3, .int .i64 1, .int .i64 0, .int .i64 0, .int .i64 0, .int .i64 0, .string ⟨#[32]⟩, .slice none 0 0] tIn)).alloc (.cells #[.int .i64 2, .int .i64 2, .int .i64 2, .int .i64 2, .int .i64 11, .int .i64 11, .int .i64 11, .int .i64 11, .int .i64 11, .int .i64 11, .int .i64 7, .int .i64 6, .int .i64 6, .int .i64 6, .int .i64 2] tI1)) := ((HW8.out.alloc HW8.out.size _).alloc (by have := HW8.out.size; simp; omega) _).alloc (by have := HW8.out.size; simp; omega) _
  obtain ⟨h8, hh8⟩ : ∃ x, W8.heap.size = x := ⟨_, rfl⟩
  rw [hh8] at q0 q1 q2 hbV
  rw [hh8]
  generalize hV : ((W8.alloc (.cells #[.int .i64 0] tI1)).alloc (.cells #[.int .i64 0, .int .i64 0, .int .i64 0, .int .i64 0, .int .i64 0, .int .i64 0, .string ⟨#[]⟩, .slice none 0 0, .int .i64 12, .int .i64 0, .int .i64 0, .int .i64 0, .int .i64 0, .int .i64 0, .string ⟨#[]⟩, .slice none 0 0, .int .i64 3, .int .i64 1, .int .i64 0, .int .i64 0, .int .i64 0, .int .i64 0, .string ⟨#[38, 38]⟩, .slice none 0 0, .int .i64 4, .int .i64 0, .int .i64 0, .int .i64 0, .int .i64 0, .int .i64 0, .string ⟨#[]⟩, .slice none 0 0, .int .i64 1, .int .i64 0, .int .i64 4, .int .i64 0, .int .i64 0, .int .i64 0, .string ⟨#[]⟩, .slice none 0 0, .int .i64 1, .int .i64 0, .int .i64 (-1), .int .i64 0, .int .i64 0, .int .i64 0, .string ⟨#[]⟩, .slice none 0 0, .int .i64 1, .int .i64 0, .int .i64 0, .int .i64 0, .int .i64 0, .int .i64 2147483648, .string ⟨#[]⟩, .slice none 0 0, .int .i64 7, .int .i64 0, .int .i64 2, .int .i64 0, .int .i64 0, .int .i64 1, .string ⟨#[]⟩, .slice none 0 0, .int .i64 5, .int .i64 0, .int .i64 0, .int .i64 2, .int .i64 0, .int .i64 0, .string ⟨#[]⟩, .slice none 0 0, .int .i64 9, .int .i64 0, .int .i64 0, .int .i64 0, .int .i64 0, .int .i64 1, .string ⟨#[]⟩, .slice none 0 0, .int .i64 9, .int .i64 0, .int .i64 0, .int .i64 0, .int .i64 0, .int .i64 0, .string ⟨#[]⟩, .slice (some ⟨h8, 0, none⟩) 1 1, .int .i64 2, .int .i64 0, .int .i64 0, .int .i64 2, .int .i64 0, .int .i64 0, .string ⟨#[]⟩, .slice none 0 0, .int .i64 11, .int .i64 0, .int .i64 0, .int .i64 0, .int .i64 0, .int .i64 0, .string ⟨#[]⟩, .slice none 0 0, .int .i64 3, .int .i64 2, .int .i64 2, .int .i64 2, .int .i64 3, .int .i64 0, .string ⟨#[60]⟩, .slice none 0 0, .int .i64 3, .int .i64 1, .int .i64 0, .int .i64 0, .int .i64 0, .int .i64 0, .string ⟨#[32]⟩, .slice none 0 0] tIn)).alloc (.cells #[.int .i64 2, .int .i64 2, .int .i64 2, .int .i64 2, .int .i64 11, .int .i64 11, .int .i64 11, .int .i64 11, .int .i64 11, .int .i64 11, .int .i64 7, .int .i64 6, .int .i64 6, .int .i64 6, .int .i64 2] tI1) = V at *
  have HV := Lib.hid hbV
  have HN := Lib.hid (bad_isN q0 q1)
  have HWT : Hid (IsI V V.heap.size (.slice (some ⟨h8 + 2, 0, none⟩) 15 15) wantL) := Lib.hid (isI_flat (l := wantL) q2 (by simp [wantL]) (by
    intro x hx
    have : wantL.all (fun x => decide (-1000 ≤ x ∧ x ≤ 1000)) = true := by decide
    have := List.all_eq_true.1 this x hx
    simp only [decide_eq_true_eq] at this
    exact iw_small (by omega)))
  clear q0 q1 q2 hbV hV hh8 HW8
  go_wp2_with fail
  go_loopw [15] (fun v wr => ∃ i : Nat, i ≤ 15 ∧ v = .int .i64 i ∧ Below V.heap.size V wr) (fun v _ => 15 - (intOf v).toNat)
  case atStart => exact ⟨0, by omega, rfl, Below.refl _ _⟩
  case round =>
    obtain ⟨i, hi, rfl, hbw⟩ := hrel
    have HBW := Lib.hid hbw
    by_cases hlt : i < 15
    · have hil : i < badL.length := by simpa [badL] using hlt
      have hiw : i < wantL.length := by simpa [wantL] using hlt
      have hck : chk (mE [badL[i]]) = wantL[i] := by
        have h9 := bad_want ⟨i, hlt⟩
        simp only [List.getD_eq_getElem?_getD, List.getElem?_eq_getElem hil, List.getElem?_eq_getElem hiw, Option.getD_some] at h9
        exact h9
      have hargs : badL[i].args.length ≤ argMax := by
        exact bad_argl _ (List.getElem_mem hil)
      obtain ⟨g, o, c9, hv9, hg, -, -, hxw, av, hav, hx⟩ := (HN.out.below hbw).at hil
      simp only [Value.slice.injEq, Option.some.injEq, Addr.mk.injEq] at hv9
      obtain ⟨⟨e1, e2, -⟩, -, -⟩ := hv9
      subst e1 e2
      obtain ⟨g', o', c8, hv8, hg', -, -, hz, -⟩ := (HWT.out.below hbw).at hiw
      simp only [Value.slice.injEq, Option.some.injEq, Addr.mk.injEq] at hv8
      obtain ⟨⟨e1, e2, -⟩, -, -⟩ := hv8
      subst e1 e2
      simp only [Nat.zero_add, Nat.mul_one, Nat.add_zero] at hz
      generalize badL[i] = x at *
      generalize wantL[i] = wt at *
      obtain ⟨aA, ac, rfl, -⟩ := hav.sl
      have y0 := hx 0 (.int .i64 x.op) rfl; have y1 := hx 1 (.int .i64 x.ty) rfl; have y2 := hx 2 (.int .i64 x.dst) rfl; have y3 := hx 3 (.int .i64 x.a) rfl; have y4 := hx 4 (.int .i64 x.b) rfl; have y5 := hx 5 (.int .i64 x.n) rfl; have y6 := hx 6 (.string (str x.s)) rfl; have y7 := hx 7 (.slice aA x.args.length ac) rfl
      simp only [Nat.zero_add, Nat.add_zero] at y0 y1 y2 y3 y4 y5 y6 y7
      have hVs := hbw.size
      have HE := Lib.hid (ends_one x (.slice aA x.args.length ac) wr hxw (hav.more hVs) hargs hck)
      have hlt' : (i : Int) < 15 := by omega
      have HZ := Lib.hid hz
      have HG := Lib.hid (And.intro hg hg')
      clear hx hav hxw hargs hck hz hbw
      obtain ⟨op, ty, dst, xa, xb, xn, xs, xargs⟩ := x
      unfold insC at HE
      dsimp only at *
      generalize xargs.length = an at *
      have hgw : h8 + 1 < wr.heap.size := by omega
      go_wp2_with fail
      refine HE.out.mono ?_
      clear HE
      rintro e w1 ⟨A1, n1, c1, s1, k1, rfl, hb1⟩
      have HB1 := Lib.hid (HBW.out.trans (hb1.mono HBW.out.size))
      have z1 : w1.cell? ⟨h8 + 2, i, none⟩ = some (.int .i64 wt) := (hb1.cell (p := ⟨h8 + 2, i, none⟩) (by have := HG.out.2; show h8 + 2 < _; omega)).trans HZ.out
      have hg2 : h8 + 2 < w1.heap.size := by have := hb1.size; have := HG.out.2; omega
      clear hb1 y0 y1 y2 y3 y4 y5 y6 y7
      go_wp2_with fail
      go_roundw
      case rel => exact ⟨i + 1, by omega, by go_num, HB1.out.alloc HB1.out.size _⟩
      case measure => simp [intOf]; omega
    · obtain rfl : i = 15 := by omega
      have HW := Lib.hid (HV.out.trans (hbw.mono HV.out.size))
      clear hbw HN HWT
      go_upto_region 18 with (fail)
      go_wp2_with fail
      refine (mk_self wr).mono ?_
      rintro e W9 ⟨gs, rfl, hM9, hb9⟩
      have HM9 := Lib.hid hM9
      have HA9 := Lib.hid (Has.of (HW.out.trans (hb9.mono HW.out.size)))
      clear hM9 hb9 HW HBW HV
      go_upto_region 19 with (fail)
      have hn := HA9.out.add tMo #[.slice none 0 0, .slice (some ⟨gs, 0, none⟩) 1 1] (g := W9.heap.size) rfl
      have hbn : Below W9.heap.size W9 (W9.alloc (.cells #[.slice none 0 0, .slice (some ⟨gs, 0, none⟩) 1 1] tMo)) := (Below.refl _ _).alloc (Nat.le_refl _) _
      have HM10' := HM9.out.on hbn
      obtain ⟨gA, hg⟩ : ∃ y, W9.heap.size = y := ⟨_, rfl⟩
      rw [hg] at hn
      generalize hw : W9.alloc (.cells #[.slice none 0 0, .slice (some ⟨gs, 0, none⟩) 1 1] tMo) = W10 at *
      simp only [hg]
      have HA10 := Lib.hid hn
      have HM10 := Lib.hid HM10'
      clear hn hbn hg hw HA9 HM9 HM10'
      have p0 := (HA10.out.get 0 rfl).cell 0
      have p1 := (HA10.out.get 0 rfl).cell 1
      have pl := (HA10.out.get 0 rfl).lt
      simp only [List.getElem?_toArray, List.getElem?_cons_zero, List.getElem?_cons_succ] at p0 p1
      go_wp2_with fail
      refine (run_none HM10.out (isI_nil _ _) mself_small (by simp [mSelf]) (by omega) Rself.2 Rself.1).mono ?_
      rintro e W11 ⟨rA, rc, rfl, hb11⟩
      have HA11 := Lib.hid (HA10.out.on hb11)
      have HM11 := Lib.hid (HM10.out.on hb11)
      clear HA10 HM10 hb11 p0 p1 pl
      go_upto_region 20 with (fail)
      have hn := HA11.out.add tRn #[.slice rA 0 rc, .int .i64 2, .int .i64 4] (g := W11.heap.size) rfl
      have hbn : Below W11.heap.size W11 (W11.alloc (.cells #[.slice rA 0 rc, .int .i64 2, .int .i64 4] tRn)) := (Below.refl _ _).alloc (Nat.le_refl _) _
      have HM12' := HM11.out.on hbn
      obtain ⟨gB, hg⟩ : ∃ y, W11.heap.size = y := ⟨_, rfl⟩
      rw [hg] at hn
      generalize hw : W11.alloc (.cells #[.slice rA 0 rc, .int .i64 2, .int .i64 4] tRn) = W12 at *
      simp only [hg]
      have HA12 := Lib.hid hn
      have HM12 := Lib.hid HM12'
      clear hn hbn hg hw HA11 HM11 HM12'
      go_wp2_with fail
      refine (mk_end 1 ⟨1, 0, 0, 0⟩ (by omega) e1_w W12).mono ?_
      rintro e W13 ⟨gl, rfl, hN13, hb13⟩
      have HA13 := Lib.hid (HA12.out.on hb13)
      have HM13 := Lib.hid (HM12.out.on hb13)
      have HN13 := Lib.hid hN13
      clear HA12 HM12 hb13 hN13
      go_upto_region 21 with (fail)
      have hn := HA13.out.add tMo #[.slice none 0 0, .slice (some ⟨gl, 0, none⟩) 1 1] (g := W13.heap.size) rfl
      have hbn : Below W13.heap.size W13 (W13.alloc (.cells #[.slice none 0 0, .slice (some ⟨gl, 0, none⟩) 1 1] tMo)) := (Below.refl _ _).alloc (Nat.le_refl _) _
      have HM14' := HM13.out.on hbn
      have HN14' := HN13.out.on hbn
      obtain ⟨gC, hg⟩ : ∃ y, W13.heap.size = y := ⟨_, rfl⟩
      rw [hg] at hn
      generalize hw : W13.alloc (.cells #[.slice none 0 0, .slice (some ⟨gl, 0, none⟩) 1 1] tMo) = W14 at *
      simp only [hg]
      have HA14 := Lib.hid hn
      have HM14 := Lib.hid HM14'
      have HN14 := Lib.hid HN14'
      clear hn hbn hg hw HA13 HM13 HN13 HM14' HN14'
      have p0 := (HA14.out.get 0 rfl).cell 0
      have p1 := (HA14.out.get 0 rfl).cell 1
      have pl := (HA14.out.get 0 rfl).lt
      simp only [List.getElem?_toArray, List.getElem?_cons_zero, List.getElem?_cons_succ] at p0 p1
      go_wp2_with fail
      refine (run_none HN14.out (isI_nil _ _) mloop_small (by simp [mainC]) (by omega) Rloop.2 Rloop.1).mono ?_
      rintro e W15 ⟨sA, sc', rfl, hb15⟩
      have HA15 := Lib.hid (HA14.out.on hb15)
      have HM15 := Lib.hid (HM14.out.on hb15)
      clear HA14 HM14 HN14 hb15 p0 p1 pl
      go_upto_region 22 with (fail)
      have hn := HA15.out.add tRn #[.slice sA 0 sc', .int .i64 3, .int .i64 0] (g := W15.heap.size) rfl
      have hbn : Below W15.heap.size W15 (W15.alloc (.cells #[.slice sA 0 sc', .int .i64 3, .int .i64 0] tRn)) := (Below.refl _ _).alloc (Nat.le_refl _) _
      have HM16' := HM15.out.on hbn
      obtain ⟨gD, hg⟩ : ∃ y, W15.heap.size = y := ⟨_, rfl⟩
      rw [hg] at hn
      generalize hw : W15.alloc (.cells #[.slice sA 0 sc', .int .i64 3, .int .i64 0] tRn) = W16 at *
      simp only [hg]
      have HA16 := Lib.hid hn
      have HM16 := Lib.hid HM16'
      clear hn hbn hg hw HA15 HM15 HM16'
      go_upto_region 23 with (fail)
      have hn := HA16.out.add tGl #[.string ⟨#[]⟩, .int .i64 3, .int .i64 0, .int .i64 0, .string ⟨#[]⟩, .int .i64 0, .int .i64 2, .int .i64 0, .string ⟨#[]⟩, .int .i64 4, .int .i64 1, .int .i64 0, .string ⟨#[]⟩, .int .i64 0, .int .i64 0, .int .i64 0] (g := W16.heap.size) rfl
      have hbn : Below W16.heap.size W16 (W16.alloc (.cells #[.string ⟨#[]⟩, .int .i64 3, .int .i64 0, .int .i64 0, .string ⟨#[]⟩, .int .i64 0, .int .i64 2, .int .i64 0, .string ⟨#[]⟩, .int .i64 4, .int .i64 1, .int .i64 0, .string ⟨#[]⟩, .int .i64 0, .int .i64 0, .int .i64 0] tGl)) := (Below.refl _ _).alloc (Nat.le_refl _) _
      have HM17' := HM16.out.on hbn
      obtain ⟨gO, hg⟩ : ∃ y, W16.heap.size = y := ⟨_, rfl⟩
      rw [hg] at hn
      generalize hw : W16.alloc (.cells #[.string ⟨#[]⟩, .int .i64 3, .int .i64 0, .int .i64 0, .string ⟨#[]⟩, .int .i64 0, .int .i64 2, .int .i64 0, .string ⟨#[]⟩, .int .i64 4, .int .i64 1, .int .i64 0, .string ⟨#[]⟩, .int .i64 0, .int .i64 0, .int .i64 0] tGl) = V2 at *
      simp only [hg]
      have HA17 := Lib.hid hn
      have HM17 := Lib.hid HM17'
      clear hn hbn hg hw HA16 HM16 HM17'
      have HG17 : Hid (IsG V2 V2.heap.size (.slice (some ⟨gO, 0, none⟩) 4 4) oddL) := Lib.hid (isG_flat (l := oddL) (HA17.out.get 0 rfl) (by simp [oddL]) oddL_w)
      have HSV : Hid (∀ W, Calls Try.prog 17 #[] W fun e w' => ∃ A c, e = .returned (.agg #[.slice none 0 0, .slice A 1 c]) ∧ IsF w' w'.heap.size (.slice A 1 c) m7.f ∧ Below W.heap.size W w') := Lib.hid fun W =>
        (seven_any W).mono fun e w' ⟨fv, h1, h2, h3⟩ => by
          obtain ⟨A, c, rfl, -⟩ := h2.sl
          exact ⟨A, c, h1, h2, h3⟩
      go_wp2_with fail
      go_loopw [23] (fun v wq => ∃ i : Nat, i ≤ 4 ∧ v = .int .i64 i ∧ Below V2.heap.size V2 wq) (fun v _ => 4 - (intOf v).toNat)
      case atStart => exact ⟨0, by omega, rfl, Below.refl _ _⟩
      case round =>
        obtain ⟨i, hi4, rfl, hbw⟩ := hrel
        have HBW := Lib.hid hbw
        clear hbw
        by_cases hlt4 : i < 4
        · have hlt' : (i : Int) < 4 := by omega
          go_wp2_with fail
          refine (HSV.out _).mono ?_
          rintro e U1 ⟨sv, scp, rfl, hF1, hb1⟩
          have HF1 := Lib.hid hF1
          have HU1 := Lib.hid (HBW.out.trans (hb1.mono HBW.out.size))
          clear hF1 hb1 HSV
          go_upto_region 27 with (fail)
          have hbn : Below U1.heap.size U1 (U1.alloc (.cells #[.slice none 0 0, .slice sv 1 scp] tMo)) := (Below.refl _ _).alloc (Nat.le_refl _) _
          have hk2 := Blk.new U1 tMo #[.slice none 0 0, .slice sv 1 scp]
          have hF2 := HF1.out.below hbn
          have hu2 := HU1.out.trans (hbn.mono HU1.out.size)
          obtain ⟨g24, hg⟩ : ∃ y, U1.heap.size = y := ⟨_, rfl⟩
          have hge : V2.heap.size ≤ g24 := by have := HU1.out.size; omega
          rw [hg] at hk2 hF2
          generalize hw : U1.alloc (.cells #[.slice none 0 0, .slice sv 1 scp] tMo) = U2 at *
          simp only [hg]
          have HU2 := Lib.hid (And.intro hu2 (And.intro hk2 (And.intro hF2 hge)))
          clear hbn hk2 hF2 hu2 hg hw hge HF1 HU1
          have p0 := HU2.out.2.1.cell 0
          have p1 := HU2.out.2.1.cell 1
          have pl := HU2.out.2.1.lt
          have pf := HU2.out.2.1.frozen 0
          simp only [List.getElem?_toArray, List.getElem?_cons_zero, List.getElem?_cons_succ] at p0 p1
          go_upto_region 28 with (fail)
          have hu3 := HU2.out.1.setCell (p := ⟨g24, 0, none⟩) HU2.out.2.2.2 (.slice (some ⟨gO, i * 4, none⟩) 1 (4 - i))
          have hk3 := HU2.out.2.1.set_ 0 (.slice (some ⟨gO, i * 4, none⟩) 1 (4 - i))
          have hb3 : Below g24 U2 (U2.setCell ⟨g24, 0, none⟩ (.slice (some ⟨gO, i * 4, none⟩) 1 (4 - i))) := (Below.refl _ _).setCell (p := ⟨g24, 0, none⟩) (Nat.le_refl _) _
          have hF3 := (HU2.out.2.2.1.below hb3).more (B' := (U2.setCell ⟨g24, 0, none⟩ (.slice (some ⟨gO, i * 4, none⟩) 1 (4 - i))).heap.size) (by have := HU2.out.2.1.lt; have := hb3.size; omega)
          clear p0 p1 pl pf hb3
          generalize U2.setCell ⟨g24, 0, none⟩ (.slice (some ⟨gO, i * 4, none⟩) 1 (4 - i)) = U3 at *
          have hG3 := (HG17.out.below hu3).more hu3.size
          have HU3 := Lib.hid (And.intro hu3 (And.intro hF3 hG3))
          have p0 := hk3.cell 0
          have p1 := hk3.cell 1
          have pl := hk3.lt
          simp only [List.setIfInBounds_toArray, List.set_cons_zero, List.getElem?_toArray, List.getElem?_cons_zero, List.getElem?_cons_succ] at p0 p1
          clear hu3 hk3 hF3 hG3 HU2
          go_wp2_with fail
          refine (odd_chk HU3.out.2.2 HU3.out.2.1 hlt4 rfl (by omega) (by omega)).mono ?_
          rintro e U4 ⟨rfl, hb4⟩
          have HU4 := Lib.hid (HU3.out.1.trans (hb4.mono HU3.out.1.size))
          clear HU3 hb4 p0 p1 pl
          go_wp2_with fail
          go_roundw
          case rel => exact ⟨i + 1, by omega, by go_num, HU4.out⟩
          case measure => simp [intOf]; omega
        · obtain rfl : i = 4 := by omega
          have HA := Lib.hid (HA17.out.on HBW.out)
          have HM := Lib.hid (HM17.out.on HBW.out)
          clear HBW HA17 HM17 HG17
          go_upto_region 30 with (fail)
          have a0 := (HA.out.get 4 rfl).cell 0
          have a1 := (HA.out.get 4 rfl).cell 1
          have al := (HA.out.get 4 rfl).lt
          simp only [List.getElem?_toArray, List.getElem?_cons_zero, List.getElem?_cons_succ] at a0 a1
          go_wp2_with fail
          refine (chk_v mself_small Rself.2 HM.out).mono ?_
          rintro e X1 ⟨rfl, hb1⟩
          have HX1 := Lib.hid (HA.out.on hb1)
          clear HA HM hb1 a0 a1 al
          have b1 := (HX1.out.get 3 rfl).cell 1
          have b2 := (HX1.out.get 3 rfl).cell 2
          have bl := (HX1.out.get 3 rfl).lt
          have d1 := (HX1.out.get 1 rfl).cell 1
          have dl := (HX1.out.get 1 rfl).lt
          simp only [List.getElem?_toArray, List.getElem?_cons_zero, List.getElem?_cons_succ] at b1 b2 d1
          go_wp2_with fail
          refine (chk_v (m := ⟨[], []⟩) (small_of (by decide)) chk_none ⟨isG_nil _ _, isF_nil _ _⟩).mono ?_
          rintro e X2 ⟨rfl, hb2⟩
          have HX2 := Lib.hid (HX1.out.1.trans (hb2.mono HX1.out.1.size))
          clear HX1 hb2 b1 b2 bl d1 dl
          go_wp2_with fail
          refine (mainV_any [] [] none none 0 0 0 0 _ (isI_nil _ _) (isB_nil _ _)).mono ?_
          rintro e X3 ⟨g3, rfl, hm3, hb3⟩
          have HX3 := Lib.hid (And.intro (HX2.out.trans (hb3.mono HX2.out.size)) hm3)
          clear HX2 hb3 hm3
          go_wp2_with fail
          refine (chk_v (small_of (by decide)) chk_many HX3.out.2).mono ?_
          rintro e X4 ⟨rfl, hb4⟩
          have HX4 := Lib.hid (HX3.out.1.trans (hb4.mono HX3.out.1.size))
          clear HX3 hb4
          go_wp2_with fail
          have hbn : Below X4.heap.size X4 (X4.alloc (.cells #[.int .i64 3] tI1)) := (Below.refl _ _).alloc (Nat.le_refl _) _
          have hk5 := Blk.new X4 tI1 #[.int .i64 3]
          have hx5 := HX4.out.trans (hbn.mono HX4.out.size)
          obtain ⟨g5, hg⟩ : ∃ y, X4.heap.size = y := ⟨_, rfl⟩
          rw [hg] at hk5
          generalize hw : X4.alloc (.cells #[.int .i64 3] tI1) = X5 at *
          have HX5 := Lib.hid (And.intro hx5 hk5)
          have HG5 := Lib.hid hg
          clear hbn hk5 hx5 hg hw HX4
          refine (HSV.out _).mono ?_
          rintro e X6 ⟨sv, scp, rfl, hF6, hb6⟩
          obtain ⟨gf7, of7, bA, bn, bc, rfl, hgl, hcell, hB⟩ := m7_blocks hF6
          have HX6 := Lib.hid (And.intro (HX5.out.1.trans (hb6.mono HX5.out.1.size)) (And.intro (HX5.out.2.on hb6) hB))
          clear hF6 hb6 hB HX5 HSV
          rw [HG5.out]
          have hfd := run_fieldM (.slice none 0 0) (.slice (some ⟨gf7, of7, none⟩) 1 scp) X6
          go_wp2_with fail
          refine (mainV_any [3] [b7] _ _ _ _ _ _ _ (int1_isI 3 (by omega) HX6.out.2.1) HX6.out.2.2).mono ?_
          rintro e X7 ⟨g7, rfl, hm7, hb7⟩
          have HX7 := Lib.hid (And.intro (HX6.out.1.trans (hb7.mono HX6.out.1.size)) hm7)
          clear HX6 hm7 hb7 hgl hcell hfd
          go_wp2_with fail
          refine (chk_v (small_of (by decide)) chk_char HX7.out.2).mono ?_
          rintro e X8 ⟨rfl, hb8⟩
          have HX8 := Lib.hid (HX7.out.1.trans (hb8.mono HX7.out.1.size))
          clear HX7 hb8
          go_wp2_with fail
          refine (mk_end 1 ⟨1, 0, 1, 0⟩ (by omega) ⟨iw_small (by decide), iw_small (by decide), iw_small (by decide), iw_small (by decide)⟩ X8).mono ?_
          rintro e X9 ⟨g9, rfl, hm9, hb9⟩
          have HX9 := Lib.hid (And.intro (HX8.out.trans (hb9.mono HX8.out.size)) hm9)
          clear HX8 hm9 hb9
          go_wp2_with fail
          refine (chk_v (small_of (by decide)) chk_to HX9.out.2).mono ?_
          rintro e Y1 ⟨rfl, hb1⟩
          have HY1 := Lib.hid (HX9.out.1.trans (hb1.mono HX9.out.1.size))
          clear HX9 hb1
          go_wp2_with fail
          refine (mk_end 2 ⟨3, 0, 0, 0⟩ (by omega) e3_w Y1).mono ?_
          rintro e Y2 ⟨g2, rfl, hm2, hb2⟩
          have HY2 := Lib.hid (And.intro (HY1.out.trans (hb2.mono HY1.out.size)) hm2)
          clear HY1 hm2 hb2
          go_wp2_with fail
          refine (chk_v (small_of (by decide)) chk_long HY2.out.2).mono ?_
          rintro e Y3 ⟨rfl, hb3⟩
          have HY3 := Lib.hid (HY2.out.1.trans (hb3.mono HY2.out.1.size))
          clear HY2 hb3
          go_wp2_with fail
          refine (HK.out _).mono ?_
          rintro e Y4 ⟨rfl, hb4⟩
          have HY4 := Lib.hid (HY3.out.trans (hb4.mono HY3.out.size))
          clear HY3 hb4
          go_wp2_with fail
          go_ret
          exact ⟨rfl, HY4.out⟩
end Go.Proofs.Ytgcjfbgfoiekmaa
