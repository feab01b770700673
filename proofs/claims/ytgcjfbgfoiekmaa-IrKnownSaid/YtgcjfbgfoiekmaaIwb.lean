/-
  Layer ir: Run.
-/
import Derived.Test.YtgcjfbgfoiekmaaIwa
namespace Go.Proofs.Ytgcjfbgfoiekmaa
open Go Go.RowKit Go.Maps
set_option linter.unusedVariables false
set_option linter.unusedSimpArgs false

/-- What a run answers: what was told, how it ended, the code. -/
structure Ran where
  out : List Int
  status : Int
  code : Int
def ranOf : Rn → Ran
  | .ok v s => ⟨s.out, 1, v.getD 0 0⟩
  | .er a b s => ⟨s.out, a, b⟩
  | .out => ⟨[], 0, 0⟩
def fuelM (st : Int) : Nat := 3 * st.toNat + 3
def runM (m : Mdl) (inp : List Int) (st : Int) : Ran := ranOf (ex m (fuelM st) (.call (mainAt m) []) (st0 m inp st))
def ranV (ov : Value) (r : Ran) : Value := .agg #[ov, .int .i64 r.status, .int .i64 r.code]
theorem argV_nil (X : Mc) (w : World) : ArgV X w (.slice none 0 0) [] := fun u => isI_nil _ _
theorem runInfo : (Try.prog.info? tRn).map (·.size) = some 3 := by kernel_rfl
theorem rowDown {w : World} {base base' size n : Nat} {t : TypeId} {v : Value} {xs : List Value} (h : w.ownsRow base t size v n xs) (hb : base' ≤ base) : w.ownsRow base' t size v n xs := by
  obtain ⟨h1, h2⟩ := h
  refine ⟨h1, h2.imp id ?_⟩
  rintro ⟨g, cap, cur, e1, e2, r⟩
  exact ⟨g, cap, cur, e1, Nat.le_trans hb e2, r⟩
set_option maxHeartbeats 4000000 in
set_option maxRecDepth 100000 in
theorem run_any {w : World} {gv fv iv : Value} {m : Mdl} {inp : List Int} {st : Int} (hm : IsM w w.heap.size gv fv m) (hi : IsI w w.heap.size iv inp) (hsm : SmM m) (hg : m.g.length ≤ 1000) (hst : -1000000 ≤ st ∧ st ≤ 1000000) (hchk : chk m = 0) :
    Calls Try.prog 10 #[.agg #[gv, fv], iv, .int .i64 st] w fun e w' => ∃ ov, e = .returned (ranV ov (runM m inp st)) ∧ w'.ownsRow w.heap.size tI1 1 ov (runM m inp st).out.length ((runM m inp st).out.map (Value.int .i64)) ∧ Below w.heap.size w w' := by
  obtain ⟨gA, gc, hgv, -, -, -⟩ := hm.g.sl
  obtain ⟨fA, fc, hfv, -, -, -⟩ := hm.f.sl
  obtain ⟨iA, ic, hiv, -, -, -⟩ := hi.sl
  subst hgv hfv hiv
  obtain ⟨M, hM⟩ : ∃ M, ex m (fuelM st) (.call (mainAt m) []) (st0 m inp st) = M := ⟨_, rfl⟩
  have hMo : M ≠ .out := by
    rw [← hM]
    exact ex_ends m _ _ _ (by simp [need, fuelM, st0])
  have hR : runM m inp st = ranOf M := by unfold runM; rw [hM]
  rw [hR]
  have hb1 : Below w.heap.size w ((w.alloc (.cells #[.slice gA m.g.length gc, .slice fA m.f.length fc] tMd)).alloc (.cells #[.slice none 0 0, .int .i64 0, .int .i64 0] tRn)) := ((Below.refl _ _).alloc (Nat.le_refl _) _).alloc (by simp) _
  have B1 : Blk ((w.alloc (.cells #[.slice gA m.g.length gc, .slice fA m.f.length fc] tMd)).alloc (.cells #[.slice none 0 0, .int .i64 0, .int .i64 0] tRn)) w.heap.size tMd #[.slice gA m.g.length gc, .slice fA m.f.length fc] := (Blk.new w tMd _).alloc _
  have B2 := Blk.new (w.alloc (.cells #[.slice gA m.g.length gc, .slice fA m.f.length fc] tMd)) tRn #[.slice none 0 0, .int .i64 0, .int .i64 0]
  have e1 : (w.alloc (.cells #[.slice gA m.g.length gc, .slice fA m.f.length fc] tMd)).heap.size = w.heap.size + 1 := by simp
  rw [e1] at B2
  have hmk := chk_modk hchk
  have HMD := Lib.hid (And.intro hm (And.intro hi (And.intro hsm (And.intro hmk (And.intro hM (And.intro hMo (And.intro hchk (And.intro hg hst))))))))
  have HB := Lib.hid (And.intro hb1 (And.intro B1 B2))
  have hmf : ∀ (fn : Fn) (first cap : Array Value) (w : World), (Instr.makeFunc fn first cap).run Try.prog w = .ok (.func fn first cap) w := fun _ _ _ _ => rfl
  clear hm hi hsm hg hst hchk hM hMo hR hb1 B1 B2 e1 hmk
  go_enter_defers Try.func10, Try.ntmps10
  go_upto_region 1 with (fail)
  generalize (w.alloc (.cells #[.slice gA m.g.length gc, .slice fA m.f.length fc] tMd)).alloc (.cells #[.slice none 0 0, .int .i64 0, .int .i64 0] tRn) = W1 at *
  have m0 : W1.cell? ⟨w.heap.size, 0, none⟩ = some (.slice gA m.g.length gc) := HB.out.2.1.cell 0
  have m1 : W1.cell? ⟨w.heap.size, 1, none⟩ = some (.slice fA m.f.length fc) := HB.out.2.1.cell 1
  have ml := HB.out.2.1.lt
  have HCK := Lib.hid (chk_any m HMD.out.2.2.1 (.slice gA m.g.length gc) (.slice fA m.f.length fc) W1 (HMD.out.1.on HB.out.1))
  go_wp2_with fail
  refine HCK.out.mono ?_
  clear HCK
  rw [HMD.out.2.2.2.2.2.2.1]
  rintro e W2 ⟨rfl, hb2⟩
  have m0 : W2.cell? ⟨w.heap.size, 0, none⟩ = some (.slice gA m.g.length gc) := ((HB.out.2.1.on hb2)).cell 0
  have m1 : W2.cell? ⟨w.heap.size, 1, none⟩ = some (.slice fA m.f.length fc) := ((HB.out.2.1.on hb2)).cell 1
  have ml := (HB.out.2.1.on hb2).lt
  have HB2 := Lib.hid (And.intro (HB.out.1.trans (hb2.mono HB.out.1.size)) (And.intro (HB.out.2.1.on hb2) (HB.out.2.2.on hb2)))
  have HNM := Lib.hid (newM_any (st := st) (HMD.out.1.on HB2.out.1) (HMD.out.2.1.on HB2.out.1) HMD.out.2.2.2.2.2.2.2.1 HMD.out.2.2.2.2.2.2.2.2)
  clear hb2 HB
  go_wp2_with fail
  refine HNM.out.mono ?_
  clear HNM
  rintro e W3 ⟨b, sb, mb, rfl, hmc, hb3, hbb⟩
  have hbel := HB2.out.1.trans (hb3.mono HB2.out.1.size)
  have hB1 := HB2.out.2.1.on hb3
  have hB2 := HB2.out.2.2.on hb3
  have hb4 : Below W3.heap.size W3 (W3.alloc (.cells #[.pointer (some ⟨b, 0, none⟩)] tMp)) := (Below.refl _ _).alloc (Nat.le_refl _) _
  have B4 := Blk.new W3 tMp #[.pointer (some ⟨b, 0, none⟩)]
  have HB4 := Lib.hid (And.intro (hmc.below hb4) (And.intro (hbel.trans (hb4.mono hbel.size)) (And.intro (hB1.on hb4) (And.intro (hB2.on hb4) B4))))
  have HSZ := Lib.hid (And.intro HB2.out.2.2.lt (And.intro HB2.out.2.1.lt (And.intro hb3.size (And.intro hmc.lt (And.intro hmc.sc.lt (And.intro (by obtain ⟨_, _, h9, _⟩ := hmc.mp; exact h9.lt) (And.intro hmc.bb HB2.out.1.size)))))))
  clear hmc hb3 hbel hB1 hB2 hb4 B4 m0 m1 ml HB2
  go_upto_region 4 with (fail)
  generalize W3.alloc (.cells #[.pointer (some ⟨b, 0, none⟩)] tMp) = W4 at *
  have p7 : W4.cell? ⟨W3.heap.size, 0, none⟩ = some (.pointer (some ⟨b, 0, none⟩)) := HB4.out.2.2.2.2.cell 0
  have m0 : W4.cell? ⟨w.heap.size, 0, none⟩ = some (.slice gA m.g.length gc) := HB4.out.2.2.1.cell 0
  have m1 : W4.cell? ⟨w.heap.size, 1, none⟩ = some (.slice fA m.f.length fc) := HB4.out.2.2.1.cell 1
  have pl := HB4.out.2.2.2.2.lt
  have ml := HB4.out.2.2.1.lt
  have HMN : Hid (∀ W, Below W4.heap.size W4 W → Calls Try.prog 20 #[.agg #[.slice gA m.g.length gc, .slice fA m.f.length fc]] W fun e w' => e = .returned (.int .i64 (mainAt m)) ∧ Below W4.heap.size W4 w') := Lib.hid fun W hW =>
    (mainOf_any m _ _ W (HMD.out.1.on (HB4.out.2.1.trans (hW.mono HB4.out.2.1.size)))).mono fun e w' h => ⟨h.1, hW.trans (h.2.mono hW.size)⟩
  have HCL : Hid (∀ W, Below W4.heap.size W4 W → Calls Try.prog 23 #[.pointer (some ⟨b, 0, none⟩), .int .i64 (mainAt m), .slice none 0 0] W (RnP ⟨b, sb, mb, W2.heap.size, m, .slice gA m.g.length gc, .slice fA m.f.length fc, 1000000⟩ 0 W (.slice none 0 0) en1 M)) := Lib.hid fun W hW => by
    have h9 := call_any ⟨b, sb, mb, W2.heap.size, m, .slice gA m.g.length gc, .slice fA m.f.length fc, 1000000⟩ HMD.out.2.2.2.1 (fuelM st) (mainAt m) [] (.slice none 0 0) (st0 m inp st) W (.slice none 0 0) (HB4.out.1.below hW) (argV_nil _ _) HMD.out.2.2.2.1.mn (by simp) (by rw [HMD.out.2.2.2.2.1]; exact HMD.out.2.2.2.2.2.1)
    rw [HMD.out.2.2.2.2.1] at h9
    exact h9
  have HS : Hid (∀ Wx, Below W4.heap.size W4 Wx → Wx.cell? ⟨W3.heap.size, 0, none⟩ = some (.pointer (some ⟨b, 0, none⟩)) ∧ Wx.cell? ⟨w.heap.size, 0, none⟩ = some (.slice gA m.g.length gc) ∧ Wx.cell? ⟨w.heap.size, 1, none⟩ = some (.slice fA m.f.length fc) ∧ W3.heap.size < Wx.heap.size ∧ w.heap.size < Wx.heap.size) := Lib.hid fun Wx h => by
    have hz := h.size
    exact ⟨(h.cell (p := ⟨W3.heap.size, 0, none⟩) pl).trans p7, (h.cell (p := ⟨w.heap.size, 0, none⟩) ml).trans m0, (h.cell (p := ⟨w.heap.size, 1, none⟩) ml).trans m1, by omega, by omega⟩
  have J0 : Below W4.heap.size W4 W4 := Below.refl _ _
  obtain ⟨mn, hmn⟩ : ∃ mn, mainAt m = mn := ⟨_, rfl⟩
  rw [hmn] at HMN HCL
  clear hmn
  generalize m.g.length = gn at *
  generalize m.f.length = fn at *
  go_wp2_with fail
  have hdr : ∀ Wx, Below W4.heap.size W4 Wx → _ := HS.out
  refine wp_region_any (by kernel_rfl) ?_
  refine wpAny_ready (rs := [0, 1]) (by kernel_rfl) (by simp) ?_
  refine AllReady.cons rfl (fun K hK => ?_) (AllReady.cons rfl (fun K hK => ?_) AllReady.nil)
  -- r is loaded first
  go_simp
  refine hK _ _ ?_
  clear hK K
  refine wpAny_ready (rs := [1]) (by kernel_rfl) (by simp) ?_
  refine AllReady.cons rfl (fun K hK => ?_) AllReady.nil
  go_simp
  refine hK _ _ ?_
  clear hK K
  refine wpAny_ready (rs := [2]) (by kernel_rfl) (by simp) ?_
  refine AllReady.cons rfl (fun K hK => ?_) AllReady.nil
  go_simp
  refine (HMN.out _ (bd1 _)).mono ?_
  rintro e v1 ⟨rfl, J1⟩
  refine hK _ _ ?_
  clear hK K
  rotate_left 1
  -- m is loaded first
  go_simp
  refine hK _ _ ?_
  clear hK K
  refine wpAny_ready (rs := [0, 2]) (by kernel_rfl) (by simp) ?_
  refine AllReady.cons rfl (fun K hK => ?_) (AllReady.cons rfl (fun K hK => ?_) AllReady.nil)
  go_simp
  refine hK _ _ ?_
  clear hK K
  refine wpAny_ready (rs := [2]) (by kernel_rfl) (by simp) ?_
  refine AllReady.cons rfl (fun K hK => ?_) AllReady.nil
  go_simp
  refine (HMN.out _ (bd1 _)).mono ?_
  rintro e v1 ⟨rfl, J1⟩
  refine hK _ _ ?_
  clear hK K
  rotate_left 1
  go_simp
  refine (HMN.out _ (bd1 _)).mono ?_
  rintro e v1 ⟨rfl, J1⟩
  refine hK _ _ ?_
  clear hK K
  refine wpAny_ready (rs := [0]) (by kernel_rfl) (by simp) ?_
  refine AllReady.cons rfl (fun K hK => ?_) AllReady.nil
  have p7 := (HS.out v1 J1).1
  go_simp
  refine hK _ _ ?_
  clear hK K p7
  all_goals
    refine wpAny_ready (rs := [3]) (by kernel_rfl) (by simp) ?_
    refine AllReady.cons rfl (fun K hK => ?_) AllReady.nil
    go_simp
    refine (HCL.out _ J1).mono ?_
    intro e v2 hR
    rcases hR.cases with ⟨ea, eb, s5, ov5, hm, rfl, h5, k5⟩ | ⟨v, s5, ov5, hm, he, h5, k5⟩
    · unfold PanE
      have hbb9 := HSZ.out
      have hz1 := J1.size
      have hw4 := HB4.out.2.1.size
      have hkeep : ∀ i, i < W4.heap.size → i ≠ b → i ≠ sb → i ≠ mb → v2.heap[i]? = W4.heap[i]? := fun i h1 h2 h3 h4 => (k5.block i (by omega) h2 h3 h4 (by simp [Value.ownBlock])).trans (J1.block i h1)
      obtain ⟨oA, oc, hov⟩ : ∃ A cp, ov5 = .slice A s5.out.length cp := by
        rcases h5.out.2 with ⟨hv, h0⟩ | ⟨g, cap, cur, hv, _⟩
        · exact ⟨none, 0, by rw [hv, h0]⟩
        · exact ⟨_, _, hv⟩
      subst hov
      have hp5 : Blk v2 W3.heap.size tMp #[.pointer (some ⟨b, 0, none⟩)] := (hkeep _ (by omega) (by omega) (by omega) (by omega)).trans HB4.out.2.2.2.2
      have hq5 : Blk v2 (w.heap.size + 1) tRn #[.slice none 0 0, .int .i64 0, .int .i64 0] := (hkeep _ (by omega) (by omega) (by omega) (by omega)).trans HB4.out.2.2.2.1
      have hc5 : v2.cell? ⟨b, 2, none⟩ = some (.slice oA s5.out.length oc) := by
        obtain ⟨_, _, h9, _⟩ := h5.iv
        exact h9.cell 2
      refine leaves_cons (f := 22) (args := #[.pointer (some ⟨W3.heap.size, 0, none⟩), .pointer (some ⟨w.heap.size + 1, 0, none⟩)]) (by simp) (by simp [go_sem]) ?_
      refine (catch_end W3.heap.size b (w.heap.size + 1) oA s5.out.length oc ea eb _ hp5 hc5 hq5).mono ?_
      rintro e u' v6 ⟨rfl, rfl, hq6, hz6, e1, e2, e3, hk6⟩
      have q0 := hq6.cell 0
      have q1 := hq6.cell 1
      have q2 := hq6.cell 2
      simp only [List.getElem?_toArray, List.getElem?_cons_zero, List.getElem?_cons_succ] at q0 q1 q2
      simp [Leaves, settle, results, Try.results10, go_sem, q0, q1, q2]
      rw [hm]
      refine ⟨_, rfl, rowDown (rowKeep h5.out fun i hi => hk6 i (h5.own i hi).2.1 (by have h9 : W2.heap.size ≤ i := (h5.own i hi).1; omega)) (by show w.heap.size ≤ W2.heap.size; omega), ?_⟩
      exact ⟨e1.trans (k5.os.trans (J1.os.trans HB4.out.2.1.os)), e2.trans (k5.tape.trans (J1.tape.trans HB4.out.2.1.tape)), e3.trans (k5.output.trans (J1.output.trans HB4.out.2.1.output)), by have := k5.size; omega, fun i hi => (hk6 i (by have := k5.size; omega) (by omega)).trans ((hkeep i (by omega) (by omega) (by omega) (by omega)).trans (HB4.out.2.1.block i hi))⟩
    · obtain ⟨x, hxv⟩ : ∃ x, v.getD 0 0 = x := ⟨_, rfl⟩
      obtain rfl : e = .returned (.int .i64 x) := by rw [he, ← hxv]
      refine hK _ _ ?_
      clear hK K
      refine wpAny_ready (rs := [4]) (by kernel_rfl) (by simp) ?_
      refine AllReady.cons rfl (fun K hK => ?_) AllReady.nil
      go_simp
      refine hK _ _ ?_
      clear hK K
      refine wpAny_done (by kernel_rfl) ?_ _
      have hbb9 := HSZ.out
      have hz1 := J1.size
      have hz5 := k5.size
      have hw4 := HB4.out.2.1.size
      have hkeep : ∀ i, i < W4.heap.size → i ≠ b → i ≠ sb → i ≠ mb → v2.heap[i]? = W4.heap[i]? := fun i h1 h2 h3 h4 => (k5.block i (by omega) h2 h3 h4 (by simp [Value.ownBlock])).trans (J1.block i h1)
      obtain ⟨oA, oc, hov⟩ : ∃ A cp, ov5 = .slice A s5.out.length cp := by
        rcases h5.out.2 with ⟨hv, h0⟩ | ⟨g, cap, cur, hv, _⟩
        · exact ⟨none, 0, by rw [hv, h0]⟩
        · exact ⟨_, _, hv⟩
      subst hov
      have hp5 : Blk v2 W3.heap.size tMp #[.pointer (some ⟨b, 0, none⟩)] := (hkeep _ (by omega) (by omega) (by omega) (by omega)).trans HB4.out.2.2.2.2
      have hq5 : Blk v2 (w.heap.size + 1) tRn #[.slice none 0 0, .int .i64 0, .int .i64 0] := (hkeep _ (by omega) (by omega) (by omega) (by omega)).trans HB4.out.2.2.2.1
      have hc5 : v2.cell? ⟨b, 2, none⟩ = some (.slice oA s5.out.length oc) := by
        obtain ⟨_, _, h9, _⟩ := h5.iv
        exact h9.cell 2
      have hbl5 : b < v2.heap.size := by omega
      have pp := hp5.cell 0
      have ppl := hp5.lt
      have qq0 := hq5.cell 0
      have qq1 := hq5.cell 1
      have qq2 := hq5.cell 2
      have qf0 := hq5.frozen 0
      have qf1 := hq5.frozen 1
      have qf2 := hq5.frozen 2
      have qql := hq5.lt
      simp only [List.getElem?_toArray, List.getElem?_cons_zero, List.getElem?_cons_succ] at pp qq0 qq1 qq2
      have hq6 : Blk ((((v2.setCell ⟨w.heap.size + 1, 0, none⟩ (.slice oA s5.out.length oc)).setCell ⟨w.heap.size + 1, 1, none⟩ (.int .i64 1)).setCell ⟨w.heap.size + 1, 2, none⟩ (.int .i64 x)).alloc (.cells #[.int .i64 0, .int .i64 0] tEg)) (w.heap.size + 1) tRn #[.slice oA s5.out.length oc, .int .i64 1, .int .i64 x] := (((hq5.set_ 0 _).set_ 1 _).set_ 2 _).alloc _
      have hk6 : ∀ i, i < v2.heap.size → i ≠ w.heap.size + 1 → ((((v2.setCell ⟨w.heap.size + 1, 0, none⟩ (.slice oA s5.out.length oc)).setCell ⟨w.heap.size + 1, 1, none⟩ (.int .i64 1)).setCell ⟨w.heap.size + 1, 2, none⟩ (.int .i64 x)).alloc (.cells #[.int .i64 0, .int .i64 0] tEg)).heap[i]? = v2.heap[i]? := by
        intro i hi hne
        rw [heap_alloc_old _ _ (by simpa using hi), Below.heap_setCell _ _ _ i hne, Below.heap_setCell _ _ _ i hne, Below.heap_setCell _ _ _ i hne]
      have hz6 : v2.heap.size ≤ ((((v2.setCell ⟨w.heap.size + 1, 0, none⟩ (.slice oA s5.out.length oc)).setCell ⟨w.heap.size + 1, 1, none⟩ (.int .i64 1)).setCell ⟨w.heap.size + 1, 2, none⟩ (.int .i64 x)).alloc (.cells #[.int .i64 0, .int .i64 0] tEg)).heap.size := by simp
      have hroT : ranOf M = ⟨s5.out, 1, x⟩ := by rw [hm, ← hxv]; rfl
      have HFIN : Hid (∃ ov, (Ending.returned (.agg #[.slice oA s5.out.length oc, .int .i64 1, .int .i64 x]) : Ending) = .returned (ranV ov (ranOf M)) ∧ ((((v2.setCell ⟨w.heap.size + 1, 0, none⟩ (.slice oA s5.out.length oc)).setCell ⟨w.heap.size + 1, 1, none⟩ (.int .i64 1)).setCell ⟨w.heap.size + 1, 2, none⟩ (.int .i64 x)).alloc (.cells #[.int .i64 0, .int .i64 0] tEg)).ownsRow w.heap.size tI1 1 ov (ranOf M).out.length ((ranOf M).out.map (Value.int .i64)) ∧ Below w.heap.size w ((((v2.setCell ⟨w.heap.size + 1, 0, none⟩ (.slice oA s5.out.length oc)).setCell ⟨w.heap.size + 1, 1, none⟩ (.int .i64 1)).setCell ⟨w.heap.size + 1, 2, none⟩ (.int .i64 x)).alloc (.cells #[.int .i64 0, .int .i64 0] tEg))) := Lib.hid (by
        rw [hroT]
        refine ⟨_, rfl, rowDown (rowKeep h5.out fun i hi => hk6 i (h5.own i hi).2.1 (by have h9 : W2.heap.size ≤ i := (h5.own i hi).1; omega)) (by show w.heap.size ≤ W2.heap.size; omega), ?_⟩
        exact ⟨k5.os.trans (J1.os.trans HB4.out.2.1.os), k5.tape.trans (J1.tape.trans HB4.out.2.1.tape), k5.output.trans (J1.output.trans HB4.out.2.1.output), by omega, fun i hi => (hk6 i (by omega) (by omega)).trans ((hkeep i (by omega) (by omega) (by omega) (by omega)).trans (HB4.out.2.1.block i hi))⟩)
      have HQ6 := Lib.hid hq6
      obtain ⟨l5, hl5⟩ : ∃ l5, s5.out.length = l5 := ⟨_, rfl⟩
      rw [hl5] at hc5 HFIN HQ6
      clear h5 k5 hkeep hp5 hq5 hq6 hk6 hz6 hroT hm hxv he hbb9 hz1 hw4 hz5 hl5 J1 p7 m0 m1 pl ml HMN HCL HS hdr HB4 HSZ HMD
      go_wp2_with fail
      refine leaves_cons (f := 22) (args := #[.pointer (some ⟨W3.heap.size, 0, none⟩), .pointer (some ⟨w.heap.size + 1, 0, none⟩)]) (by simp) (by simp [go_sem]) ?_
      refine (catch_nil W3.heap.size (w.heap.size + 1) _).mono ?_
      rintro e u' v6 ⟨rfl, rfl, rfl⟩
      have q0 := HQ6.out.cell 0
      have q1 := HQ6.out.cell 1
      have q2 := HQ6.out.cell 2
      simp only [List.getElem?_toArray, List.getElem?_cons_zero, List.getElem?_cons_succ] at q0 q1 q2
      have hfin := HFIN.out
      simp [Leaves, settle, results, Try.results10, go_sem, q0, q1, q2]
      simpa using hfin
end Go.Proofs.Ytgcjfbgfoiekmaa
