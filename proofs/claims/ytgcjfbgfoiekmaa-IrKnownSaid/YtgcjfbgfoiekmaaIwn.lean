/-
  What a main of some instructions comes to.
-/
import Derived.Test.YtgcjfbgfoiekmaaIwi
import Derived.Test.YtgcjfbgfoiekmaaIwe
namespace Go.Proofs.Ytgcjfbgfoiekmaa
open Go Go.RowKit Go.Maps
set_option linter.unusedVariables false
set_option linter.unusedSimpArgs false

def gE : List Glo := [⟨[103], 2, 0, 0⟩, ⟨[99], 3, 3, 0⟩, ⟨[105], 1, 2, 0⟩]
def mE (l : List Ins) : Mdl := ⟨gE, [mainC [1, 1, 2, 2] [⟨l, ⟨3, 0, 0, 0⟩⟩]]⟩
/-- What 'ends' answers: the run; the error. -/
def endsR (l : List Ins) : Ran := if chk (mE l) = 0 then runM (mE l) [300, -7] 100 else ⟨[], 0, 0⟩
theorem gE_w : ∀ x ∈ gE, iw x.ty ∧ iw x.sz ∧ iw x.at_ := by
  intro x hx
  simp only [gE, List.mem_cons, List.not_mem_nil, or_false] at hx
  rcases hx with rfl | rfl | rfl <;> exact ⟨iw_small (by decide), iw_small (by decide), iw_small (by decide)⟩
theorem r4_w : ∀ x ∈ [(1 : Int), 1, 2, 2], iw x := by
  intro x hx
  simp only [List.mem_cons, List.not_mem_nil, or_false] at hx
  rcases hx with rfl | rfl | rfl | rfl <;> exact iw_small (by decide)
theorem i2_w : ∀ x ∈ [(300 : Int), -7], iw x := by
  intro x hx
  simp only [List.mem_cons, List.not_mem_nil, or_false] at hx
  rcases hx with rfl | rfl <;> exact iw_small (by decide)
theorem mE_small {l : List Ins} (h : ∀ i ∈ l, i.args.length ≤ argMax) : SmM (mE l) := by
  intro f hf
  obtain rfl : f = mainC [1, 1, 2, 2] [⟨l, ⟨3, 0, 0, 0⟩⟩] := by simpa [mE] using hf
  intro b hb
  obtain rfl : b = ⟨l, ⟨3, 0, 0, 0⟩⟩ := by simpa [mainC] using hb
  exact h
/-- The module of some blocks of memory: main's registers, its block, its function, the globals. -/
structure QE (V : World) (l : List Ins) (lv : Value) (B H g m : Nat) : Prop where
  n : IsN V B lv l
  hB : B ≤ V.heap.size
  r : Blk V H tI1 #[.int .i64 1, .int .i64 1, .int .i64 2, .int .i64 2]
  b : Blk V (H + 1) tBl (bloC ⟨l, ⟨3, 0, 0, 0⟩⟩ lv).toArray
  c : Blk V g tCo (codC (mainC [1, 1, 2, 2] [⟨l, ⟨3, 0, 0, 0⟩⟩]) (.slice (some ⟨H, 0, none⟩) 4 4) (.slice (some ⟨H + 1, 0, none⟩) 1 1)).toArray
  g : Blk V m tGl (gE.flatMap gloC).toArray
theorem QE.isM {V : World} {l : List Ins} {lv : Value} {B H g m : Nat} (q : QE V l lv B H g m) : IsM V V.heap.size (.slice (some ⟨m, 0, none⟩) 3 3) (.slice (some ⟨g, 0, none⟩) 1 1) (mE l) := by
  have hB : IsB V V.heap.size (.slice (some ⟨H + 1, 0, none⟩) 1 1) [⟨l, ⟨3, 0, 0, 0⟩⟩] := isB_one q.b e3_w (q.n.more q.hB)
  have hI : IsI V V.heap.size (.slice (some ⟨H, 0, none⟩) 4 4) [1, 1, 2, 2] := isI_flat (l := [1, 1, 2, 2]) q.r (by simp) r4_w
  exact ⟨isG_flat (l := gE) q.g (by simp [gE]) gE_w, isF_one (c := mainC [1, 1, 2, 2] [⟨l, ⟨3, 0, 0, 0⟩⟩]) q.c ⟨iw_small (by simp [mainC]), iw_small (by simp [mainC])⟩ hI hB⟩

theorem ownsRow_form0 {w : World} {base : Nat} {v : Value} {n : Nat} {xs : List Value} (h : w.ownsRow base tI1 1 v n xs) : ∃ A c, v = .slice A n c := by
  rcases h.2 with ⟨rfl, rfl⟩ | ⟨g, cap, cur, rfl, _⟩
  · exact ⟨none, 0, rfl⟩
  · exact ⟨_, _, rfl⟩
theorem rnU : ∃ d, Try.prog.underlying tRn = some d ∧ d.isRow = true := ⟨_, Try.underlying35, rfl⟩
theorem results_ends {fn : Func} {b : Nat} {x y z : Value} (h : fn.results = #[.cell 2 tRn, .tmp 3]) (tmps : Array Value) (w : World)
    (hp : tmps.getD 2 undef = .pointer (some ⟨b, 0, none⟩)) (hb : Blk w b tRn #[x, y, z]) :
    (results fn tmps).run Try.prog w = .ok (.tuple #[.agg #[x, y, z], tmps.getD 3 undef]) w := by
  obtain ⟨d, hu, hr⟩ := rnU
  have hc : w.rangeAt b 0 [x, y, z] := by
    intro j v hv
    rw [Nat.zero_add, hb.cell]
    simpa using hv
  have hl := run_loadVar_mid (P := Try.prog) w b 0 tRn [x, y, z] d hc hu hr runInfo
  simp only [results, h]
  simp [Sem.run_bind, Result.andThen]
  rw [show tmps[2]?.getD undef = .pointer (some ⟨b, 0, none⟩) from by simpa using hp]
  simp [asAddr, hl]

set_option maxHeartbeats 4000000 in
set_option maxRecDepth 100000 in
theorem ends_any (l : List Ins) (hl : ∀ i ∈ l, i.args.length ≤ argMax) (lv : Value) (w : World) (hn : IsN w w.heap.size lv l) :
    Calls Try.prog 15 #[lv] w fun e w' => ∃ A c, e = .returned (.tuple #[.agg #[.slice A (endsR l).out.length c, .int .i64 (endsR l).status, .int .i64 (endsR l).code], .int .i64 (chk (mE l))]) ∧ RdV w' w'.heap.size (.slice A (endsR l).out.length c) (endsR l).out ∧ Below w.heap.size w w' := by
  obtain ⟨lA, lc, rfl, -⟩ := hn.sl
  obtain ⟨ln, hln⟩ : ∃ n, l.length = n := ⟨_, rfl⟩
  rw [hln] at hn ⊢
  have HN := Lib.hid hn
  have HSM := Lib.hid (mE_small hl)
  obtain ⟨R, hR⟩ : ∃ R, endsR l = R := ⟨_, rfl⟩
  obtain ⟨ck, hck⟩ : ∃ c, chk (mE l) = c := ⟨_, rfl⟩
  rw [hR, hck]
  have HRR := Lib.hid hR
  have HCK := Lib.hid hck
  have hb1 : Below w.heap.size w (w.alloc (.cells #[.slice none 0 0, .int .i64 0, .int .i64 0] tRn)) := (Below.refl _ _).alloc (Nat.le_refl _) _
  have HB1 := Lib.hid (And.intro hb1 (Blk.new w tRn #[.slice none 0 0, .int .i64 0, .int .i64 0]))
  clear hb1 hn hln hl hR hck
  go_enter Try.func15, Try.ntmps15
  go_upto_region 1 with (fail)
  obtain ⟨H, hH⟩ : ∃ H, w.heap.size = H := ⟨_, rfl⟩
  have HH := Lib.hid hH
  rw [hH] at HB1 HN
  generalize hw1 : w.alloc (.cells #[.slice none 0 0, .int .i64 0, .int .i64 0] tRn) = W1 at *
  simp only [hH]
  clear hH hw1
  have hb2 : Below W1.heap.size W1 ((W1.alloc (.cells #[.int .i64 1, .int .i64 1, .int .i64 2, .int .i64 2] tI1)).alloc (.cells (bloC ⟨l, ⟨3, 0, 0, 0⟩⟩ (.slice lA ln lc)).toArray tBl)) := ((Below.refl _ _).alloc (Nat.le_refl _) _).alloc (by simp) _
  have q1 : Blk ((W1.alloc (.cells #[.int .i64 1, .int .i64 1, .int .i64 2, .int .i64 2] tI1)).alloc (.cells (bloC ⟨l, ⟨3, 0, 0, 0⟩⟩ (.slice lA ln lc)).toArray tBl)) W1.heap.size tI1 #[.int .i64 1, .int .i64 1, .int .i64 2, .int .i64 2] := (Blk.new W1 tI1 _).alloc _
  have q2 : Blk ((W1.alloc (.cells #[.int .i64 1, .int .i64 1, .int .i64 2, .int .i64 2] tI1)).alloc (.cells (bloC ⟨l, ⟨3, 0, 0, 0⟩⟩ (.slice lA ln lc)).toArray tBl)) (W1.heap.size + 1) tBl (bloC ⟨l, ⟨3, 0, 0, 0⟩⟩ (.slice lA ln lc)).toArray := by
    have h := Blk.new (W1.alloc (.cells #[.int .i64 1, .int .i64 1, .int .i64 2, .int .i64 2] tI1)) tBl (bloC ⟨l, ⟨3, 0, 0, 0⟩⟩ (.slice lA ln lc)).toArray
    rwa [show (W1.alloc (.cells #[.int .i64 1, .int .i64 1, .int .i64 2, .int .i64 2] tI1)).heap.size = W1.heap.size + 1 by simp] at h
  have HM : Hid (Calls Try.prog 16 #[.slice (some ⟨W1.heap.size, 0, none⟩) 4 4, .slice (some ⟨W1.heap.size + 1, 0, none⟩) 1 1] ((W1.alloc (.cells #[.int .i64 1, .int .i64 1, .int .i64 2, .int .i64 2] tI1)).alloc (.cells (bloC ⟨l, ⟨3, 0, 0, 0⟩⟩ (.slice lA ln lc)).toArray tBl)) fun e w' => ∃ g, e = .returned (.agg #[.slice none 0 0, .slice (some ⟨g, 0, none⟩) 1 1]) ∧ (Blk w' W1.heap.size tI1 #[.int .i64 1, .int .i64 1, .int .i64 2, .int .i64 2] ∧ Blk w' (W1.heap.size + 1) tBl (bloC ⟨l, ⟨3, 0, 0, 0⟩⟩ (.slice lA ln lc)).toArray ∧ Blk w' g tCo (codC (mainC [1, 1, 2, 2] [⟨l, ⟨3, 0, 0, 0⟩⟩]) (.slice (some ⟨W1.heap.size, 0, none⟩) 4 4) (.slice (some ⟨W1.heap.size + 1, 0, none⟩) 1 1)).toArray ∧ W1.heap.size ≤ g) ∧ Below W1.heap.size W1 w') := Lib.hid
    ((mainR_any [1, 1, 2, 2] [⟨l, ⟨3, 0, 0, 0⟩⟩] _ _ _ _ _ _ _).mono fun e w' ⟨g, h1, h2, h3, h4⟩ => ⟨g, h1, ⟨q1.below h4 q1.lt, q2.below h4 q2.lt, h2, Nat.le_trans hb2.size h3⟩, hb2.trans (h4.mono hb2.size)⟩)
  clear hb2 q1 q2
  have hl1 := HB1.out.2.lt
  go_wp2_with fail
  refine HM.out.mono ?_
  clear HM
  rintro e W3 ⟨g, rfl, hq, hb3⟩
  go_upto_region 2 with (fail)
  have hb4 : Below W1.heap.size W1 (W3.alloc (.cells #[.slice none 0 0, .slice (some ⟨g, 0, none⟩) 1 1] tMo)) := hb3.alloc hb3.size _
  have hk4 := Blk.new W3 tMo #[.slice none 0 0, .slice (some ⟨g, 0, none⟩) 1 1]
  have HQ4 := Lib.hid (And.intro (hq.1.alloc (.cells #[.slice none 0 0, .slice (some ⟨g, 0, none⟩) 1 1] tMo)) (And.intro (hq.2.1.alloc (.cells #[.slice none 0 0, .slice (some ⟨g, 0, none⟩) 1 1] tMo)) (And.intro (hq.2.2.1.alloc (.cells #[.slice none 0 0, .slice (some ⟨g, 0, none⟩) 1 1] tMo)) (And.intro hq.2.2.2 (And.intro hq.2.2.1.lt (And.intro hq.2.1.lt hb3.size))))))
  obtain ⟨gm, hgm⟩ : ∃ g, W3.heap.size = g := ⟨_, rfl⟩
  rw [hgm] at hk4 HQ4
  generalize hw4 : W3.alloc (.cells #[.slice none 0 0, .slice (some ⟨g, 0, none⟩) 1 1] tMo) = W4 at *
  simp only [hgm]
  have HB4 := Lib.hid (And.intro hb4 hk4)
  have c0 := hk4.cell 0
  have c1 := hk4.cell 1
  have f0 := hk4.frozen 0
  have hl4 := hk4.lt
  simp only [List.getElem?_toArray, List.getElem?_cons_zero, List.getElem?_cons_succ] at c0 c1
  clear hq hb3 hb4 hk4 hw4 hgm
  go_upto_region 3 with (fail)
  have hbA : Below W4.heap.size W4 (W4.alloc (.cells (gE.flatMap gloC).toArray tGl)) := (Below.refl _ _).alloc (Nat.le_refl _) _
  have hset : ∀ b, b ≠ gm → ∀ {t : TypeId} {cs : Array Value}, Blk W4 b t cs → Blk ((W4.setCell ⟨gm, 0, none⟩ (.slice (some ⟨W4.heap.size, 0, none⟩) 3 3)).alloc (.cells (gE.flatMap gloC).toArray tGl)) b t cs := fun b hb t cs h => (h.far (p := ⟨gm, 0, none⟩) hb _).alloc _
  have hkm : Blk ((W4.setCell ⟨gm, 0, none⟩ (.slice (some ⟨W4.heap.size, 0, none⟩) 3 3)).alloc (.cells (gE.flatMap gloC).toArray tGl)) gm tMo #[.slice (some ⟨W4.heap.size, 0, none⟩) 3 3, .slice (some ⟨g, 0, none⟩) 1 1] := (HB4.out.2.set_ 0 _).alloc _
  have hgl : Blk ((W4.setCell ⟨gm, 0, none⟩ (.slice (some ⟨W4.heap.size, 0, none⟩) 3 3)).alloc (.cells (gE.flatMap gloC).toArray tGl)) W4.heap.size tGl (gE.flatMap gloC).toArray := by
    have h := Blk.new (W4.setCell ⟨gm, 0, none⟩ (.slice (some ⟨W4.heap.size, 0, none⟩) 3 3)) tGl (gE.flatMap gloC).toArray
    rwa [show (W4.setCell ⟨gm, 0, none⟩ (.slice (some ⟨W4.heap.size, 0, none⟩) 3 3)).heap.size = W4.heap.size by simp] at h
  have hb5 : Below W1.heap.size W1 ((W4.setCell ⟨gm, 0, none⟩ (.slice (some ⟨W4.heap.size, 0, none⟩) 3 3)).alloc (.cells (gE.flatMap gloC).toArray tGl)) := (HB4.out.1.setCell (p := ⟨gm, 0, none⟩) HQ4.out.2.2.2.2.2.2 _).alloc (by have := HB4.out.1.size; simp; omega) _
  have q1 := hset _ (by have := HQ4.out.2.2.2.2.2.1; omega) HQ4.out.1
  have q2 := hset _ (by have := HQ4.out.2.2.2.2.2.1; omega) HQ4.out.2.1
  have q3 := hset _ (by have := HQ4.out.2.2.2.2.1; omega) HQ4.out.2.2.1
  have hw1 : H ≤ W1.heap.size := by omega
  have hres : Blk ((W4.setCell ⟨gm, 0, none⟩ (.slice (some ⟨W4.heap.size, 0, none⟩) 3 3)).alloc (.cells (gE.flatMap gloC).toArray tGl)) H tRn #[.slice none 0 0, .int .i64 0, .int .i64 0] := HB1.out.2.on hb5
  have hall := HB1.out.1.trans (hb5.mono hw1)
  obtain ⟨gg, hgg⟩ : ∃ x, W4.heap.size = x := ⟨_, rfl⟩
  rw [hgg] at hkm hgl hb5 q1 q2 q3 hres hall ⊢
  obtain ⟨W5, hW5⟩ : ∃ W, (W4.setCell ⟨gm, 0, none⟩ (.slice (some ⟨gg, 0, none⟩) 3 3)).alloc (.cells (gE.flatMap gloC).toArray tGl) = W := ⟨_, rfl⟩
  rw [hW5] at hkm hgl hb5 q1 q2 q3 hres hall
  have HQE : Hid (QE W5 l (.slice lA ln lc) H W1.heap.size g gg) := Lib.hid ⟨HN.out.below hall, by rw [← HH.out]; exact hall.size, q1, q2, q3, hgl⟩
  have HB5 := Lib.hid (And.intro hall (And.intro hres hkm))
  have m0 : W5.cell? ⟨gm, 0, none⟩ = some (.slice (some ⟨gg, 0, none⟩) 3 3) := hkm.cell 0
  have m1 : W5.cell? ⟨gm, 1, none⟩ = some (.slice (some ⟨g, 0, none⟩) 1 1) := hkm.cell 1
  have hml := hkm.lt
  have hshow : ((W4.setCell ⟨gm, 0, none⟩ (.slice (some ⟨gg, 0, none⟩) 3 3)).alloc (.cells #[.string ⟨#[103]⟩, .int .i64 2, .int .i64 0, .int .i64 0, .string ⟨#[99]⟩, .int .i64 3, .int .i64 3, .int .i64 0, .string ⟨#[105]⟩, .int .i64 1, .int .i64 2, .int .i64 0] tGl)) = W5 := hW5
  rw [hshow]
  clear hbA hset hkm hgl hb5 q1 q2 q3 hres hall hgg hW5 hshow c0 c1 f0 hl4 HQ4 HB4 hw1
  have HC := Lib.hid (chk_any (mE l) HSM.out _ _ W5 HQE.out.isM)
  rw [HCK.out] at HC
  go_wp2_with fail
  refine HC.out.mono ?_
  clear HC
  rintro e W6 ⟨rfl, hb6⟩
  have HB6 := Lib.hid (And.intro (HB5.out.1.trans (hb6.mono (by rw [← HH.out]; exact HB5.out.1.size))) (And.intro (HB5.out.2.1.on hb6) (And.intro (HB5.out.2.2.on hb6) (HQE.out.isM.on hb6))))
  clear hb6 m0 m1 hml HQE
  have r0 : W6.cell? ⟨H, 0, none⟩ = some (.slice none 0 0) := HB6.out.2.1.cell 0
  have r1 : W6.cell? ⟨H, 1, none⟩ = some (.int .i64 0) := HB6.out.2.1.cell 1
  have r2 : W6.cell? ⟨H, 2, none⟩ = some (.int .i64 0) := HB6.out.2.1.cell 2
  have rf0 := HB6.out.2.1.frozen 0
  have rf1 := HB6.out.2.1.frozen 1
  have rf2 := HB6.out.2.1.frozen 2
  have rl := HB6.out.2.1.lt
  by_cases hc0 : ck = 0
  · subst hc0
    have HRE : Hid (runM (mE l) [300, -7] 100 = R) := Lib.hid (by rw [← HRR.out, endsR, if_pos HCK.out])
    have m0 : W6.cell? ⟨gm, 0, none⟩ = some (.slice (some ⟨gg, 0, none⟩) 3 3) := HB6.out.2.2.1.cell 0
    have m1 : W6.cell? ⟨gm, 1, none⟩ = some (.slice (some ⟨g, 0, none⟩) 1 1) := HB6.out.2.2.1.cell 1
    have hml := HB6.out.2.2.1.lt
    have hbI : Below W6.heap.size W6 (W6.alloc (.cells #[.int .i64 300, .int .i64 (-7)] tI1)) := (Below.refl _ _).alloc (Nat.le_refl _) _
    have hI : IsI (W6.alloc (.cells #[.int .i64 300, .int .i64 (-7)] tI1)) (W6.alloc (.cells #[.int .i64 300, .int .i64 (-7)] tI1)).heap.size (.slice (some ⟨W6.heap.size, 0, none⟩) 2 2) [300, -7] := isI_flat (l := [300, -7]) (Blk.new W6 tI1 _) (by simp) i2_w
    have HRN := Lib.hid (run_any (st := 100) (HB6.out.2.2.2.on hbI) hI HSM.out (by simp [mE, gE]) (by omega) HCK.out)
    rw [HRE.out] at HRN
    have HBI := Lib.hid hbI
    clear hbI hI
    go_wp2_with fail
    refine HRN.out.mono ?_
    clear HRN
    rintro e W7 ⟨ov, rfl, hrow, hb7⟩
    obtain ⟨oA, oc, rfl⟩ := ownsRow_form0 hrow
    have HRW := Lib.hid hrow
    have hk7 := (HB6.out.2.1.on HBI.out).on hb7
    have HB7 := Lib.hid (And.intro (HB6.out.1.trans ((HBI.out.trans (hb7.mono HBI.out.size)).mono (by rw [← HH.out]; exact HB6.out.1.size))) hk7)
    have hbase : H < (W6.alloc (.cells #[.int .i64 300, .int .i64 (-7)] tI1)).heap.size := by simp; omega
    have HBS := Lib.hid hbase
    clear hrow hb7 hk7 r0 r1 r2 rf0 rf1 rf2 rl m0 m1 hml hbase
    unfold ranV
    have r0 : W7.cell? ⟨H, 0, none⟩ = some (.slice none 0 0) := HB7.out.2.cell 0
    have r1 : W7.cell? ⟨H, 1, none⟩ = some (.int .i64 0) := HB7.out.2.cell 1
    have r2 : W7.cell? ⟨H, 2, none⟩ = some (.int .i64 0) := HB7.out.2.cell 2
    have rf0 := HB7.out.2.frozen 0
    have rf1 := HB7.out.2.frozen 1
    have rf2 := HB7.out.2.frozen 2
    have rl := HB7.out.2.lt
    obtain ⟨out, ts, tc⟩ := R
    dsimp only at *
    go_wp2_with fail
    have hq := ((HB7.out.2.set_ 0 (.slice oA out.length oc)).set_ 1 (.int .i64 ts)).set_ 2 (.int .i64 tc)
    refine bodyPost_ret (results_ends rfl _ _ rfl hq) rfl ?_
    refine ⟨oA, oc, rfl, rdV_row (ownsRow_setCell_below (ownsRow_setCell_below (ownsRow_setCell_below HRW.out (a := ⟨H, 0, none⟩) HBS.out _) (a := ⟨H, 1, none⟩) HBS.out _) (a := ⟨H, 2, none⟩) HBS.out _), ?_⟩
    rw [HH.out]
    exact ((HB7.out.1.setCell (p := ⟨H, 0, none⟩) (Nat.le_refl _) _).setCell (p := ⟨H, 1, none⟩) (Nat.le_refl _) _).setCell (p := ⟨H, 2, none⟩) (Nat.le_refl _) _
  · have HRE : Hid ((⟨[], 0, 0⟩ : Ran) = R) := Lib.hid (by rw [← HRR.out, endsR, if_neg (by rw [HCK.out]; exact hc0)])
    have hRe := HRE.out
    subst hRe
    have d1 : (ck != 0) = true := by simpa using hc0
    go_wp2_with fail
    have hq := ((HB6.out.2.1.set_ 0 (.slice none 0 0)).set_ 1 (.int .i64 0)).set_ 2 (.int .i64 0)
    refine bodyPost_ret (results_ends rfl _ _ rfl hq) rfl ?_
    refine ⟨none, 0, rfl, (isI_nil _ _).rd, ?_⟩
    rw [HH.out]
    exact ((HB6.out.1.setCell (p := ⟨H, 0, none⟩) (Nat.le_refl _) _).setCell (p := ⟨H, 1, none⟩) (Nat.le_refl _) _).setCell (p := ⟨H, 2, none⟩) (Nat.le_refl _) _
end Go.Proofs.Ytgcjfbgfoiekmaa
