/-
  Layer dom: walk of Split where no block has instructions.
-/
import Derived.Test.YtjmlpbnejcfnhaaDmz
namespace Go.Proofs.Ytjmlpbnejcfnhaa
open Go Go.RowKit Go.Maps
set_option linter.unusedVariables false
set_option linter.unusedSimpArgs false

def lenV : Value → Nat
  | .slice _ n _ => n
  | _ => 0
theorem news4 {w : World} {b : Nat} {v0 v1 v2 v3 : Value} (h : Blk w b tEn' #[v0, v1, v2, v3]) : ∀ j u, [v0, v1, v2, v3][j]? = some u → w.cell? ((⟨b, 0, none⟩ : Addr).add j) = some u := World.news_of_block (cs := #[v0, v1, v2, v3]) h
theorem own_form5 {w : World} {base sz n : Nat} {t : TypeId} {p : Value} {xs : List Value} (hp : w.ownsRow base t sz p n xs) : ∃ A c, p = .slice A n c := by
  rcases hp.2 with ⟨rfl, e⟩ | ⟨g, cap, cur, rfl, _⟩
  · exact ⟨_, _, by rw [e]⟩
  · exact ⟨_, _, rfl⟩
theorem BaR.far {w : World} {rv bv : Value} {es : List Eb} {g : Nat} {cs : Array Value} (h : BaR w rv bv es) (hb : Blk w g tCd cs) (j : Nat) (u : Value) : BaR (w.setCell ⟨g, j, none⟩ u) rv bv es := by
  obtain ⟨b5, hr5⟩ := h.r0
  obtain ⟨base5, ho5⟩ := h.b
  have hne5 : b5 ≠ g := by
    rintro rfl
    obtain ⟨c9, x9, _, _, _, h9⟩ := hr5
    unfold Blk at h9 hb
    rw [hb] at h9
    cases h9
  refine ⟨⟨b5, hr5.far (p := ⟨g, j, none⟩) hne5 _⟩, ⟨base5, ?_⟩, h.w⟩
  obtain ⟨h1, h2⟩ := ho5
  refine ⟨h1, ?_⟩
  rcases h2 with h2 | ⟨g2, cap, cur, hv, hbs, hh, r⟩
  · exact .inl h2
  · have hg : g2 ≠ g := by
      rintro rfl
      unfold Blk at hb
      rw [hb] at hh
      cases hh
    exact .inr ⟨g2, cap, cur, hv, hbs, (Below.heap_setCell w ⟨g, j, none⟩ u g2 hg).trans hh, r⟩
theorem wrong_in {T : List (List Nat)} {k : Wk} (hf : FinW T.length T k) {p : Nat × Nat} (h : (gph T k).wrong = some p) : p.1 < T.length ∧ p.2 < T.length := by
  rw [wrong_eq] at h
  have hm := List.mem_of_find?_eq_some h
  obtain ⟨a, ha, hp⟩ := List.mem_flatMap.1 hm
  unfold edgesOf at hp
  obtain ⟨b, hb, rfl⟩ := List.mem_map.1 hp
  obtain ⟨i, hi⟩ := List.getElem?_of_mem ((hf.ord a).1 ha)
  have hbk := hf.closed i a hi b hb
  obtain ⟨j, hj⟩ := List.getElem?_of_mem hbk
  exact ⟨(hf.ok.b i a hi).1, (hf.ok.b j b hj).1⟩
theorem own_ne {w : World} {base base' sz sz' n n' : Nat} {t t' : TypeId} {v v' : Value} {xs xs' : List Value} (h : w.ownsRow base t sz v n xs) (h' : w.ownsRow base' t' sz' v' n' xs') (ht : t ≠ t') : ∀ i, v.ownBlock = some i → v'.ownBlock ≠ some i := by
  intro i hi hi'
  rcases h.2 with ⟨rfl, _⟩ | ⟨g, cap, cur, rfl, hb, hh, _⟩
  · cases hi
  · cases hi
    rcases h'.2 with ⟨rfl, _⟩ | ⟨g', cap', cur', rfl, hb', hh', _⟩
    · cases hi'
    · cases hi'
      rw [hh] at hh'
      cases hh'
      exact ht rfl
theorem own_blk_ne {w : World} {base sz n b : Nat} {t t' : TypeId} {v : Value} {xs : List Value} {cs : Array Value} (h : w.ownsRow base t sz v n xs) (h' : Blk w b t' cs) (ht : t ≠ t') : v.ownBlock ≠ some b := by
  intro hi
  rcases h.2 with ⟨rfl, _⟩ | ⟨g, cap, cur, rfl, hb, hh, _⟩
  · cases hi
  · cases hi
    unfold Blk at h'
    rw [hh] at h'
    cases h'
    exact ht rfl
theorem own_other {w w' : World} {base sz n : Nat} {t : TypeId} {p : Value} {xs : List Value} {r : Option Nat} (hp : w.ownsRow base t sz p n xs) (hg : w.grownBy w' r) (hne : ∀ i, r = some i → p.ownBlock ≠ some i) : w'.ownsRow base t sz p n xs := by
  obtain ⟨h1, h2⟩ := hp
  refine ⟨h1, ?_⟩
  rcases h2 with h2 | ⟨g, cap, cur, hv, hbs, hh, r9⟩
  · exact .inl h2
  · exact .inr ⟨g, cap, cur, hv, hbs, (hg.block g (Array.getElem?_eq_some_iff.1 hh).1 (fun e => hne g e.symm (by rw [hv]; rfl))).trans hh, r9⟩
theorem ecells {w : World} {base n b c : Nat} {A : Option Addr} {l : List Eb} {e : Eb} (h : w.ownsRow base tEn' 4 (.slice A n c) n (endsC l)) (hb : l[b]? = some e) {g : Nat} (hA : A = some ⟨g, 0, none⟩) (hn : b < n) :
    w.cell? ⟨g, b * 4, none⟩ = some (.int .i64 e.k) ∧ w.cell? ⟨g, b * 4 + 1, none⟩ = some (.int .i64 e.a) ∧ w.cell? ⟨g, b * 4 + 2, none⟩ = some (.int .i64 e.to) ∧ w.cell? ⟨g, b * 4 + 3, none⟩ = some (.int .i64 e.el) ∧ g < w.heap.size := by
  subst hA
  have key : ∀ j, j < 4 → w.cell? ⟨g, b * 4 + j, none⟩ = (endC e)[j]? := fun j hj => by
    rw [h.cellAt (b * 4 + j) (by omega)]
    exact endsC_at l b j e hb hj
  exact ⟨key 0 (by omega), key 1 (by omega), key 2 (by omega), key 3 (by omega), (own_lt5 h rfl).1⟩
theorem ocell {w : World} {base n b c o : Nat} {A : Option Addr} {l : List Nat} (h : w.ownsRow base tI1 1 (.slice A n c) n (ints l)) (hb : l[b]? = some o) {g : Nat} (hA : A = some ⟨g, 0, none⟩) (hn : b < n) :
    w.cell? ⟨g, b, none⟩ = some (.int .i64 (o : Nat)) ∧ g < w.heap.size := by
  subst hA
  refine ⟨?_, (own_lt5 h rfl).1⟩
  rw [h.cellAt b (by omega)]
  unfold ints
  rw [List.getElem?_map, nz_at hb]
  rfl
/-- What Split answers. -/
def SplitPost (w : World) (R : Option (List Eb × List Nat)) (r : Ending) (w' : World) : Prop :=
  (∃ rv bv, r = .returned (.tuple #[.agg (match R with | none => cdz | some p => codA (dcod p.1) rv bv), .int .i64 (match R with | none => 13 | some _ => 0)]) ∧ ∀ p, R = some p → BaR w' rv bv p.1) ∧ Below w.heap.size w w'
set_option maxHeartbeats 8000000 in
set_option maxRecDepth 100000 in
theorem split_any {w : World} {es : List Eb} {rv bv : Value} (h : BaR w rv bv es) (h0 : es ≠ []) (hm : es.length ≤ 400) (hok : endsOk es = true) (most : Int) :
    Calls Try.prog 13 #[.agg (codA (dcod es) rv bv), .int .i64 most] w (SplitPost w (splitM most es)) := by
  obtain ⟨R, hR⟩ : ∃ R, splitM most es = R := ⟨_, rfl⟩
  rw [hR]
  have hR0 : splitF most 401 es (List.range es.length) = R := by rw [← hR]; unfold splitM; rw [if_neg h0]
  have hbd : ∀ W, Below w.heap.size w W → CdD W (dcod es) rv bv := fun W hW => (h.on hW).cd h0 hm hok
  have hbr : ∀ W, Below w.heap.size w W → BaR W rv bv es := fun W hW => h.on hW
  obtain ⟨rA, rn, rc, rfl⟩ : ∃ A n c, rv = .slice A n c := by obtain ⟨A, c, e, _⟩ := h.r; exact ⟨A, _, c, e⟩
  obtain ⟨base, hown⟩ := h.b
  obtain ⟨N, hN⟩ : ∃ N, es.length = N := ⟨_, rfl⟩
  have hN0 : 0 < N := by rw [← hN]; exact List.length_pos_iff.2 h0
  rw [hN] at hown hm hR0
  obtain ⟨bA, bc, rfl⟩ := own_form5 hown
  obtain ⟨H, hH⟩ : ∃ x, x = w.heap.size := ⟨_, rfl⟩
  obtain ⟨W2, hW2⟩ : ∃ x, x = (w.alloc (.cells #[.string ⟨#[109, 97, 105, 110]⟩, .int .i64 1, .int .i64 0, .slice rA rn rc, .slice bA N bc] tCd)).alloc (.cells cdz tCd) := ⟨_, rfl⟩
  have hb2 : Below w.heap.size w W2 := by rw [hW2]; exact ((Below.refl _ w).alloc (Nat.le_refl _) _).alloc (by simp) _
  have b0 : Blk W2 H tCd #[.string ⟨#[109, 97, 105, 110]⟩, .int .i64 1, .int .i64 0, .slice rA rn rc, .slice bA N bc] := by rw [hW2, hH]; exact (Blk.new w tCd _).alloc _
  have b1 : Blk W2 (H + 1) tCd cdz := by rw [hW2, hH]; exact bN (by simp)
  have hz2 : W2.heap.size = H + 1 + 1 := by rw [hW2, hH]; simp
  have hmk := fun W => make_all N (by omega) W
  have HE := Lib.hid (endsOf_any (rv := .slice rA rn rc) (hbd W2 hb2).b (hbd W2 hb2).ne (hbd W2 hb2).m (hbd W2 hb2).ok)
  have hes : esB (dcod es).bl = es := bareB_es es
  rw [hes] at HE
  have HW := Lib.hid (And.intro hb2 (And.intro b0 (And.intro b1 (And.intro hz2 hH))))
  have HI := Lib.hid (And.intro hR0 (And.intro hbr (And.intro hN (And.intro hok (And.intro h.w h0)))))
  have HW2 := Lib.hid hW2
  have c0 : W2.cell? ⟨H, 0, none⟩ = some (.string ⟨#[109, 97, 105, 110]⟩) := b0.cell 0
  have c1 : W2.cell? ⟨H, 1, none⟩ = some (.int .i64 1) := b0.cell 1
  have c2 : W2.cell? ⟨H, 2, none⟩ = some (.int .i64 0) := b0.cell 2
  have c3 : W2.cell? ⟨H, 3, none⟩ = some (.slice rA rn rc) := b0.cell 3
  have c4 : W2.cell? ⟨H, 4, none⟩ = some (.slice bA N bc) := b0.cell 4
  have l0 := b0.lt
  clear h hown hR hR0 hb2 b0 b1 hz2 hH hW2 hbd hbr hes hN hok h0
  unfold codA dcod at HE ⊢
  simp only [str_main] at HE ⊢
  go_enter Try.func13, Try.ntmps13
  go_upto_region 1 with (fail)
  rw [← HW2.out, ← HW.out.2.2.2.2]
  go_wp2_with fail
  refine HE.out.mono ?_
  rintro r w3 ⟨ev, eb, rfl, hbe, he3, hb3⟩
  obtain ⟨ecap, rfl, hec, hem⟩ := he3.sl
  rw [HI.out.2.2.1] at he3 hec ⊢
  have hNI : ¬ ((N : Nat) : Int) = 0 := by omega
  have hNb : (((N : Nat) : Int) == 0) = false := by rw [beq_eq_false_iff_ne]; exact hNI
  have H3 := Lib.hid (And.intro hbe (And.intro he3 hb3))
  clear hbe he3 hb3 c0 c1 c2 c3 c4 HE l0
  go_wp2_with fail
  obtain ⟨ob, hob⟩ : ∃ x, x = w3.heap.size := ⟨_, rfl⟩
  obtain ⟨W4, hW4⟩ : ∃ x, x = w3.alloc (.cells (intC (List.replicate N 0)) tI1) := ⟨_, rfl⟩
  rw [← hW4, ← hob]
  have ho4 : Blk W4 ob tI1 (intC (List.replicate N 0)) := by rw [hW4, hob]; exact Blk.new w3 tI1 _
  have hb4 : Below ob w3 W4 := by rw [hW4, hob]; exact (Below.refl _ _).alloc (Nat.le_refl _) _
  have H4 := Lib.hid (And.intro ho4 (And.intro hb4 hob))
  clear ho4 hb4 hob hW4
  go_loopw [22] (fun v wr => ∃ (k : Nat) (l : List Nat), k ≤ N ∧ v = .int .i64 (k : Nat) ∧ l.length = N ∧ (∀ i, i < k → l[i]? = some i) ∧ Blk wr ob tI1 (intC (nz l)) ∧ Below ob W4 wr) (fun v _ => N - (intOf v).toNat)
  case atStart => exact ⟨0, List.replicate N 0, by omega, rfl, by simp, fun i hi => by omega, by have h9 := H4.out.1; unfold nz; rw [List.map_replicate]; exact h9, Below.refl _ _⟩
  case round =>
    obtain ⟨k, l, hk, rfl, hll, hle, hbl, hbe⟩ := hrel
    obtain ⟨wo, hwo⟩ : ∃ x, x = wr := ⟨_, rfl⟩
    subst hwo
    by_cases hkn : k < N
    · obtain ⟨y, hy⟩ : ∃ y, l[k]? = some y := ⟨_, List.getElem?_eq_getElem (by rw [hll]; exact hkn)⟩
      have q0 : wo.cell? ⟨ob, k, none⟩ = some (.int .i64 (y : Nat)) := by
        rw [hbl.cell]
        unfold intC
        rw [List.getElem?_toArray, List.getElem?_map, nz_at hy]
        rfl
      have z0 := hbl.frozen k
      have ln := hbl.lt
      have hst : Blk (wo.setCell ⟨ob, k, none⟩ (.int .i64 (k : Nat))) ob tI1 (intC (nz (l.set k k))) := by
        have h9 := hbl.set_ k (.int .i64 (k : Nat))
        unfold intC at h9
        rw [List.setIfInBounds_toArray, ← List.map_set, nz_set] at h9
        exact h9
      have hbs : Below ob W4 (wo.setCell ⟨ob, k, none⟩ (.int .i64 (k : Nat))) := hbe.setCell (p := ⟨ob, k, none⟩) (Nat.le_refl _) _
      have hle9 : ∀ i, i < k + 1 → (l.set k k)[i]? = some i := fun i hi => by
        by_cases e9 : k = i
        · subst e9; rw [List.getElem?_set_self (by omega)]
        · rw [List.getElem?_set_ne e9]; exact hle i (by omega)
      have H9 := Lib.hid (And.intro hst (And.intro hbs (And.intro hle9 (show (l.set k k).length = N by rw [List.length_set]; exact hll))))
      clear hst hbs hle9 hle hll hbl hbe hy
      go_wp2_with fail
      go_roundw
      case rel => exact ⟨k + 1, _, by omega, by go_num, H9.out.2.2.2, H9.out.2.2.1, H9.out.1, H9.out.2.1⟩
      case measure => simp [intOf]; omega
    · have hlr : l = List.range N := by
        apply List.ext_getElem?
        intro j
        by_cases hj : j < N
        · rw [hle j (by omega), List.getElem?_range hj]
        · rw [List.getElem?_eq_none (by omega), List.getElem?_eq_none (by simp; omega)]
      subst hlr
      have hb32 : Below (H + 1 + 1) W2 w3 := by rw [← HW.out.2.2.2.1]; exact H3.out.2.2
      have hob2 : H + 1 + 1 ≤ ob := by rw [H4.out.2.2, ← HW.out.2.2.2.1]; exact H3.out.2.2.size
      have hbo : Below (H + 1 + 1) W2 wo := hb32.trans ((H4.out.2.1.mono hob2).trans (hbe.mono hob2))
      have heo : RwE wo eb (.slice (some ⟨eb, 0, none⟩) N ecap) es := (H3.out.2.1.below H4.out.2.1 (by rw [H4.out.2.2]; exact H3.out.2.1.lt)).below hbe (by rw [H4.out.2.2]; exact H3.out.2.1.lt)
      have hE := own_rwE heo (show H + 1 + 1 ≤ eb by rw [← HW.out.2.2.2.1]; exact H3.out.1)
      have hO := own_int hbl (by simp : (List.range N).length = N) (by omega) hob2
      rw [HI.out.2.2.1] at hE
      have HS := Lib.hid (And.intro hbo (And.intro hE hO))
      clear hbl hbe hle hll hb32 hbo heo hE hO hob2
      go_wp2_with fail
      go_loopw [6, 7] (fun s6 s7 wr => ∃ (F : Nat) (ek : List Eb) (ok : List Nat) (n : Nat), splitF most F ek ok = R ∧ 401 < F + n + 1 ∧ ek.length = n ∧ 0 < n ∧ n ≤ 400 ∧ endsOk ek = true ∧ (∀ e ∈ ek, e.w) ∧ ok.length = n ∧ (∀ o ∈ ok, o < N) ∧ wr.ownsRow (H + 1 + 1) tEn' 4 s6 n (endsC ek) ∧ wr.ownsRow (H + 1 + 1) tI1 1 s7 n (ints ok) ∧ Below (H + 1 + 1) W2 wr) (fun s6 _ _ => 401 - lenV s6)
      case atStart => exact ⟨401, es, List.range N, N, HI.out.1, by omega, HI.out.2.2.1, hN0, hm, HI.out.2.2.2.1, HI.out.2.2.2.2.1, by simp, fun o ho => List.mem_range.1 ho, HS.out.2.1, HS.out.2.2, HS.out.1⟩
      case round =>
        obtain ⟨F, ek, ok, n, hF, hFn, hen, hn0, hn4, hok, hw, hon, holt, hE, hO, hbe⟩ := hrel
        obtain ⟨wo, hwo⟩ : ∃ x, x = wr := ⟨_, rfl⟩
        subst hwo
        obtain ⟨eA, ec, rfl⟩ := own_form5 hE
        obtain ⟨oA, oc, rfl⟩ := own_form5 hO
        obtain ⟨eb2, heb, heR⟩ := rwE_own (by rw [hen]; exact hE) (by omega)
        obtain ⟨ob2, hobb, hoR⟩ := RwI.of_row (l := nz ok) (n := n) hO (by simp only [nz, List.length_map]; exact hon.symm) hn0
        have hfin : FinW (ek.map tosN).length (ek.map tosN) (walkM (ek.map tosN)) := by
          have h9 := walk_fin (tosN_ok hok) (by omega)
          rw [List.length_map]
          exact h9
        have hwc := walk_wkc (by omega) (by omega) hok
        have HNG := Lib.hid (newGraph_any heR (by omega) (by omega) hok)
        obtain ⟨F2, rfl⟩ : ∃ m, F = m + 1 := ⟨F - 1, by omega⟩
        obtain ⟨WR, hWR⟩ : ∃ x, (graphM ek).wrong = x := ⟨_, rfl⟩
        have hWR2 : (gph (ek.map tosN) (walkM (ek.map tosN))).wrong = WR := by rw [← graphM_eq]; exact hWR
        unfold splitF at hF
        rw [hWR] at hF
        have HR := Lib.hid (And.intro hen (And.intro hok (And.intro hw (And.intro hon (And.intro holt (And.intro hE (And.intro hO (And.intro hbe (And.intro heR hoR)))))))))
        have HG := Lib.hid (And.intro hfin (And.intro hwc (And.intro hWR2 hF)))
        clear hen hok hw hon holt hE hO hbe heR hoR hfin hwc hWR2 hF hWR
        go_wp2_with fail
        refine HNG.out.mono ?_
        rintro r w5 ⟨a, rfl, hg, hb5⟩
        have HWE := Lib.hid (wrong_any hg HG.out.1 HG.out.2.1)
        rw [HG.out.2.2.1] at HWE
        have H5 := Lib.hid hb5
        clear hg hb5 HNG
        go_wp2_with fail
        refine HWE.out.mono ?_
        rintro r w6 ⟨rfl, hb6⟩
        have hb56 : Below wo.heap.size wo w6 := H5.out.trans (hb6.mono H5.out.size)
        have b06 : Blk w6 H tCd #[.string ⟨#[109, 97, 105, 110]⟩, .int .i64 1, .int .i64 0, .slice rA rn rc, .slice bA N bc] := (HW.out.2.1.below HR.out.2.2.2.2.2.2.2.1 (by omega)).on hb56
        have b16 : Blk w6 (H + 1) tCd cdz := (HW.out.2.2.1.below HR.out.2.2.2.2.2.2.2.1 (by omega)).on hb56
        have hbw6 : Below w.heap.size w w6 := HW.out.1.trans ((HR.out.2.2.2.2.2.2.2.1.mono (by have := HW.out.2.2.2.2; omega)).trans (hb56.mono (by have := HR.out.2.2.2.2.2.2.2.1.size; have := HW.out.1.size; omega)))
        have H6 := Lib.hid (And.intro hb56 (And.intro b06 (And.intro b16 hbw6)))
        clear hb6 hb56 b06 b16 hbw6 HWE H5
        cases WR with
        | none =>
          have hRR : R = some (ek, ok) := HG.out.2.2.2.symm
          have hB6 := HI.out.2.1 w6 H6.out.2.2.2
          have HWB := withBlocks_any hB6 (HR.out.2.2.2.2.2.2.2.2.2.on H6.out.1) (HR.out.2.2.2.2.2.2.2.2.1.on H6.out.1) HR.out.2.2.1 (by rw [HR.out.1]; exact HR.out.2.2.2.1) (by rw [HR.out.1]; exact hn4) (by rw [HI.out.2.2.1]; exact HR.out.2.2.2.2.1)
          unfold codA dcod at HWB
          simp only [str_main] at HWB
          have HWBH := Lib.hid HWB
          have HRR := Lib.hid hRR
          have c0 : w6.cell? ⟨H, 0, none⟩ = some (.string ⟨#[109, 97, 105, 110]⟩) := H6.out.2.1.cell 0
          have c1 : w6.cell? ⟨H, 1, none⟩ = some (.int .i64 1) := H6.out.2.1.cell 1
          have c2 : w6.cell? ⟨H, 2, none⟩ = some (.int .i64 0) := H6.out.2.1.cell 2
          have c3 : w6.cell? ⟨H, 3, none⟩ = some (.slice rA rn rc) := H6.out.2.1.cell 3
          have c4 : w6.cell? ⟨H, 4, none⟩ = some (.slice bA N bc) := H6.out.2.1.cell 4
          have l6 := H6.out.2.1.lt
          clear hB6 HWB hRR
          unfold fromI toI
          go_wp2_with fail
          refine HWBH.out.mono ?_
          rintro r w7 ⟨rv', bv', rfl, hB7, hb7⟩
          obtain ⟨rA', rn', rc', rfl⟩ : ∃ A n c, rv' = .slice A n c := by obtain ⟨A, c, e, _⟩ := hB7.r; exact ⟨A, _, c, e⟩
          obtain ⟨bA', bn', bc', rfl⟩ : ∃ A n c, bv' = .slice A n c := by
            obtain ⟨base5, ho5⟩ := hB7.b
            obtain ⟨A, c, e⟩ := own_form5 ho5
            exact ⟨A, _, c, e⟩
          have b17 : Blk w7 (H + 1) tCd cdz := H6.out.2.2.1.on hb7
          have g0 : w7.cell? ⟨H + 1, 0, none⟩ = some (.string ⟨#[]⟩) := b17.cell 0
          have g1 : w7.cell? ⟨H + 1, 1, none⟩ = some (.int .i64 0) := b17.cell 1
          have g2 : w7.cell? ⟨H + 1, 2, none⟩ = some (.int .i64 0) := b17.cell 2
          have g3 : w7.cell? ⟨H + 1, 3, none⟩ = some (.slice none 0 0) := b17.cell 3
          have g4 : w7.cell? ⟨H + 1, 4, none⟩ = some (.slice none 0 0) := b17.cell 4
          have z0 := b17.frozen 0
          have z1 := b17.frozen 1
          have z2 := b17.frozen 2
          have z3 := b17.frozen 3
          have z4 := b17.frozen 4
          have gl := b17.lt
          have HF := Lib.hid (And.intro b17 (And.intro hB7 (H6.out.2.2.2.trans (hb7.mono H6.out.2.2.2.size))))
          clear b17 hB7 hb7 c0 c1 c2 c3 c4 HWBH
          go_wp2_with fail
          obtain ⟨b17, hB7, hb7⟩ := HF.out
          have s0 := b17.set_ 0 (.string ⟨#[109, 97, 105, 110]⟩)
          have s1 := s0.set_ 1 (.int .i64 1)
          have s2 := s1.set_ 2 (.int .i64 0)
          have s3 := s2.set_ 3 (.slice rA' rn' rc')
          have s4 := s3.set_ 4 (.slice bA' bn' bc')
          try rw [Exit.noGoto_ret]
          have hrng := blk_range (cs := [.string ⟨#[109, 97, 105, 110]⟩, .int .i64 1, .int .i64 0, .slice rA' rn' rc', .slice bA' bn' bc']) s4 fun j v hv => by
            match j with
            | 0 | 1 | 2 | 3 | 4 => simpa using hv
            | n + 5 => simp at hv
          refine bodyPost_ret (results_cr rfl _ _ _ (H + 1) [.string ⟨#[109, 97, 105, 110]⟩, .int .i64 1, .int .i64 0, .slice rA' rn' rc', .slice bA' bn' bc'] _ rfl hrng Try.underlying34 rfl cdInf) rfl ?_
          have hle5 : w.heap.size ≤ H + 1 := by have := HW.out.2.2.2.2; omega
          refine ⟨⟨.slice rA' rn' rc', .slice bA' bn' bc', ?_, ?_⟩, ?_⟩
          · rw [HRR.out]; rfl
          · intro p hp
            rw [HRR.out] at hp
            obtain rfl := Option.some.inj hp
            exact ((((hB7.far b17 0 _).far s0 1 _).far s1 2 _).far s2 3 _).far s3 4 _
          · exact ((((hb7.setCell (p := ⟨H + 1, 0, none⟩) hle5 _).setCell (p := ⟨H + 1, 1, none⟩) hle5 _).setCell (p := ⟨H + 1, 2, none⟩) hle5 _).setCell (p := ⟨H + 1, 3, none⟩) hle5 _).setCell (p := ⟨H + 1, 4, none⟩) hle5 _
        | some p =>
          obtain ⟨a, b⟩ := p
          obtain ⟨haN, hbN⟩ := wrong_in HG.out.1 HG.out.2.2.1
          simp only [List.length_map] at haN hbN
          rw [HR.out.1] at haN hbN
          have b17 : Blk w6 (H + 1) tCd cdz := H6.out.2.2.1
          have hb7 := H6.out.2.2.2
          have g0 : w6.cell? ⟨H + 1, 0, none⟩ = some (.string ⟨#[]⟩) := b17.cell 0
          have g1 : w6.cell? ⟨H + 1, 1, none⟩ = some (.int .i64 0) := b17.cell 1
          have g2 : w6.cell? ⟨H + 1, 2, none⟩ = some (.int .i64 0) := b17.cell 2
          have g3 : w6.cell? ⟨H + 1, 3, none⟩ = some (.slice none 0 0) := b17.cell 3
          have g4 : w6.cell? ⟨H + 1, 4, none⟩ = some (.slice none 0 0) := b17.cell 4
          have z0 := b17.frozen 0
          have z1 := b17.frozen 1
          have z2 := b17.frozen 2
          have z3 := b17.frozen 3
          have z4 := b17.frozen 4
          obtain ⟨ea, hea⟩ : ∃ e, ek[a]? = some e := ⟨_, List.getElem?_eq_getElem (by rw [HR.out.1]; exact haN)⟩
          obtain ⟨cap8, hs8, -⟩ := (HR.out.2.2.2.2.2.2.2.2.1).sl
          have heA : eA = some ⟨eb2, 0, none⟩ := by simp only [Value.slice.injEq] at hs8; exact hs8.1
          have HRD := Lib.hid (redirect_any (HR.out.2.2.2.2.2.2.2.2.1.on H6.out.1) hea (b : Int) (n : Int))
          have HEA := Lib.hid (And.intro hea heA)
          have ha0 : ¬ ((a : Nat) : Int) < 0 := by omega
          subst heA
          clear hea hs8
          unfold fromI toI
          by_cases hmn : min most 400 ≤ (n : Int)
          · clear HRD HEA
            have hF := HG.out.2.2.2
            simp only at hF
            rw [if_pos (by rw [HR.out.1]; exact hmn)] at hF
            have HRR := Lib.hid hF
            clear hF
            have HF := Lib.hid (And.intro b17 hb7)
            have gl := b17.lt
            clear b17 hb7
            go_wp2_with fail
            obtain ⟨b17, hb7⟩ := HF.out
            have s0 := b17.set_ 0 (.string ⟨#[]⟩)
            have s1 := s0.set_ 1 (.int .i64 0)
            have s2 := s1.set_ 2 (.int .i64 0)
            have s3 := s2.set_ 3 (.slice none 0 0)
            have s4 := s3.set_ 4 (.slice none 0 0)
            have hrng := blk_range (cs := [.string ⟨#[]⟩, .int .i64 0, .int .i64 0, .slice none 0 0, .slice none 0 0]) s4 fun j v hv => by
              match j with
              | 0 | 1 | 2 | 3 | 4 => simpa using hv
              | n + 5 => simp at hv
            try rw [Exit.noGoto_ret]
            refine bodyPost_ret (results_cr rfl _ _ _ (H + 1) [.string ⟨#[]⟩, .int .i64 0, .int .i64 0, .slice none 0 0, .slice none 0 0] _ rfl hrng Try.underlying34 rfl cdInf) rfl ?_
            have hle5 : w.heap.size ≤ H + 1 := by have := HW.out.2.2.2.2; omega
            refine ⟨⟨.slice none 0 0, .slice none 0 0, ?_, ?_⟩, ?_⟩
            · rw [← HRR.out]; rfl
            · intro p hp
              rw [← HRR.out] at hp
              cases hp
            · exact ((((hb7.setCell (p := ⟨H + 1, 0, none⟩) hle5 _).setCell (p := ⟨H + 1, 1, none⟩) hle5 _).setCell (p := ⟨H + 1, 2, none⟩) hle5 _).setCell (p := ⟨H + 1, 3, none⟩) hle5 _).setCell (p := ⟨H + 1, 4, none⟩) hle5 _
          · clear g0 g1 g2 g3 g4 z0 z1 z2 z3 z4 b17 hb7
            have hnm : (n : Int) < min most 400 := by omega
            have hn9 : n < 400 := by omega
            go_wp2_with fail
            refine HRD.out.mono ?_
            rintro r w8 ⟨rfl, hr8, hf8⟩
            obtain ⟨EK, hEK⟩ : ∃ x, ek.set a (redir ea b n) = x := ⟨_, rfl⟩
            rw [hEK] at hr8
            have hEl : EK.length = n := by rw [← hEK, List.length_set]; exact HR.out.1
            obtain ⟨eb9, heb9⟩ : ∃ e, EK[b]? = some e := ⟨_, List.getElem?_eq_getElem (by omega)⟩
            obtain ⟨o9, ho9⟩ : ∃ o, ok[b]? = some o := ⟨_, List.getElem?_eq_getElem (by rw [HR.out.2.2.2.1]; exact hbN)⟩
            -- what the next round needs
            have hgd : ek.getD a default = ea := getD_some HEA.out.1
            have hN1 : splitF most F2 (EK ++ [eb9]) (ok ++ [o9]) = R := by
              have hF := HG.out.2.2.2
              rw [if_neg (by rw [HR.out.1]; omega), hgd, HR.out.1, hEK, getD_some heb9, getD_some ho9] at hF
              exact hF
            have hN2 : endsOk (EK ++ [eb9]) = true := by
              have h9 := endsOk_split (a := a) (b := b) HR.out.2.1 (by rw [HR.out.1]; exact haN) (by rw [HR.out.1]; exact hbN)
              rw [hgd, HR.out.1, hEK, getD_some heb9] at h9
              exact h9
            have hEw : ∀ e ∈ EK, e.w := by
              intro e he
              rw [← hEK] at he
              rcases List.mem_or_eq_of_mem_set he with he | rfl
              · exact HR.out.2.2.1 e he
              · exact redir_w (HR.out.2.2.1 ea (List.mem_of_getElem? HEA.out.1)) (iw_iff.2 ⟨by omega, by omega⟩)
            have hN3 : ∀ e ∈ EK ++ [eb9], e.w := by
              intro e he
              rcases List.mem_append.1 he with he | he
              · exact hEw e he
              · rw [List.mem_singleton.1 he]; exact hEw _ (List.mem_of_getElem? heb9)
            have hN4 : ∀ o ∈ ok ++ [o9], o < N := by
              intro o ho
              rcases List.mem_append.1 ho with ho | ho
              · exact HR.out.2.2.2.2.1 o ho
              · rw [List.mem_singleton.1 ho]; exact HR.out.2.2.2.2.1 _ (List.mem_of_getElem? ho9)
            have hok9 : ok.length = n := HR.out.2.2.2.1
            have HNX := Lib.hid (And.intro hN1 (And.intro hN2 (And.intro hN3 (And.intro hN4 (And.intro hEl (And.intro hok9 (And.intro heb9 ho9)))))))
            -- the rows, behind the redirecting
            have hB0 : H + 1 + 1 = W2.heap.size := HW.out.2.2.2.1.symm
            have hbe := HR.out.2.2.2.2.2.2.2.1
            have hb8 : Below (H + 1 + 1) W2 w8 := hbe.trans ((H6.out.1.mono (by rw [hB0]; exact hbe.size)).trans (hf8.below (by have := hbe.size; have := H6.out.1.size; omega) (fun j hj => by have hj' : j = eb2 := hj; omega)))
            have hE8 : w8.ownsRow (H + 1 + 1) tEn' 4 (.slice (some ⟨eb2, 0, none⟩) n ec) n (endsC EK) := by
              have h9 := own_rwE hr8 heb
              rw [hEl] at h9
              exact h9
            have hO8 : w8.ownsRow (H + 1 + 1) tI1 1 (.slice oA n oc) n (ints ok) := by
              have hO6 := own_on HR.out.2.2.2.2.2.2.1 H6.out.1
              have hE6 := own_on HR.out.2.2.2.2.2.1 H6.out.1
              obtain ⟨h1, h2⟩ := hO6
              refine ⟨h1, ?_⟩
              rcases h2 with h2 | ⟨g, cap, cur, hv, hbs, hh, r9⟩
              · exact .inl h2
              · have hge : g ≠ eb2 := by
                  rintro rfl
                  exact own_ne hE6 (⟨h1, .inr ⟨g, cap, cur, hv, hbs, hh, r9⟩⟩ : w6.ownsRow (H + 1 + 1) tI1 1 (.slice oA n oc) n (ints ok)) (by decide) g rfl (by rw [hv]; rfl)
                exact .inr ⟨g, cap, cur, hv, hbs, (hf8.block g (Array.getElem?_eq_some_iff.1 hh).1 hge).trans hh, r9⟩
            obtain ⟨ob9, hoA9⟩ : ∃ g, oA = some ⟨g, 0, none⟩ := by
              rcases hO8.2 with ⟨_, e9⟩ | ⟨g, cap, cur, e9, _⟩
              · omega
              · simp only [Value.slice.injEq] at e9
                exact ⟨g, e9.1⟩
            subst hoA9
            obtain ⟨iE, hiE, hzE0, hzE1, hzE2⟩ := info_parts endInfo
            obtain ⟨iO, hiO, hzO0, hzO1, hzO2⟩ := info_parts intInfo
            have HM := Lib.hid hnm
            clear hN1 hN2 hN3 hN4 hEw hEl hEK hgd hok9 hbe hr8 hf8 HRD hnm hmn
            go_upto_region 16 with (fail)
            refine wp_region_held_drew (S := fun Wx => Below (H + 1 + 1) W2 Wx) (by kernel_rfl) (by exact hb8.trans (below_drewN _ _ 1)) (fun hHeld => ?_)
            obtain ⟨q0, hq0⟩ : ∃ x, x = w8.drew := ⟨_, rfl⟩
            have hbq0 : Below w8.heap.size w8 q0 := by rw [hq0]; exact below_drewN _ _ 1
            have hE := own_on hE8 hbq0
            have hO := own_on hO8 hbq0
            have hB : Below (H + 1 + 1) W2 q0 := hb8.trans (by rw [hq0]; exact below_drewN _ _ 1)
            rw [← hq0] at hHeld ⊢
            clear hq0 hbq0 hb8 hE8 hO8
            have hsz := hB.size
            rw [← hB0] at hsz
            have HB0 := Lib.hid hB0
            clear hB0
            refine tQ 0 hHeld ?_
            try simp only [Act.put, List.setIfInBounds_toArray, List.set_cons_zero, List.set_cons_succ]
            refine tQ 1 hHeld ?_
            try simp only [Act.put, List.setIfInBounds_toArray, List.set_cons_zero, List.set_cons_succ]
            refine tQ 2 hHeld ?_
            try simp only [Act.put, List.setIfInBounds_toArray, List.set_cons_zero, List.set_cons_succ]
            refine tQ 3 hHeld ?_
            try simp only [Act.put, List.setIfInBounds_toArray, List.set_cons_zero, List.set_cons_succ]
            refine tQ 7 hHeld ?_
            try simp only [Act.put, List.setIfInBounds_toArray, List.set_cons_zero, List.set_cons_succ]
            refine tQ 8 hHeld ?_
            try simp only [Act.put, List.setIfInBounds_toArray, List.set_cons_zero, List.set_cons_succ]
            refine tQ 9 hHeld ?_
            try simp only [Act.put, List.setIfInBounds_toArray, List.set_cons_zero, List.set_cons_succ]
            refine tQ 10 hHeld ?_
            try simp only [Act.put, List.setIfInBounds_toArray, List.set_cons_zero, List.set_cons_succ]
            refine twoL (i := 4) (j := 11) rfl rfl (by kernel_rfl) (fun K hK => ?_) (fun K hK => ?_)
            · obtain ⟨e0, e1, e2, e3, el⟩ := ecells hE HNX.out.2.2.2.2.2.2.1 rfl hbN
              go_simp
              clear e0 e1 e2 e3 el
              clear hHeld
              refine hK.out _ _ hB (fun hHeld => ?_)
              clear hK K
              try simp only [Act.put, List.setIfInBounds_toArray, List.set_cons_zero, List.set_cons_succ]
              refine twoL (i := 5) (j := 11) rfl rfl (by kernel_rfl) (fun K hK => ?_) (fun K hK => ?_)
              · go_simp
                obtain ⟨q1, hq1⟩ : ∃ x, x = q0.alloc (.cells #[.int .i64 eb9.k, .int .i64 eb9.a, .int .i64 eb9.to, .int .i64 eb9.el] tEn') := ⟨_, rfl⟩
                obtain ⟨nE, hnE⟩ : ∃ x, x = q0.heap.size := ⟨_, rfl⟩
                rw [← hq1, ← hnE]
                have hb : Below q0.heap.size q0 q1 := by rw [hq1]; exact (Below.refl _ _).alloc (Nat.le_refl _) _
                have hNE : Blk q1 nE tEn' #[.int .i64 eb9.k, .int .i64 eb9.a, .int .i64 eb9.to, .int .i64 eb9.el] := by rw [hq1, hnE]; exact Blk.new _ _ _
                have hltnE : ∀ i, i < q0.heap.size → i < nE := fun i hi => by omega
                have hnenE := fun i hi => hltnE i (own_lt5 hE (i := i) hi).1
                clear hq1 hnE hltnE
                replace hE := own_on hE hb
                replace hO := own_on hO hb
                replace hB : Below (H + 1 + 1) W2 q1 := hB.trans (hb.mono hsz)
                replace hsz : H + 1 + 1 ≤ q1.heap.size := Nat.le_trans hsz hb.size
                clear hb
                clear hHeld
                refine hK.out _ _ hB (fun hHeld => ?_)
                clear hK K
                try simp only [Act.put, List.setIfInBounds_toArray, List.set_cons_zero, List.set_cons_succ]
                refine twoL (i := 6) (j := 11) rfl rfl (by kernel_rfl) (fun K hK => ?_) (fun K hK => ?_)
                · refine step_append_lies _ rfl (.tmp 55) (.tmp 60) 41 rfl (H + 1 + 1) tEn' iE _ 4 32 Try.underlying41 hiE hzE0 hzE1 hzE2 rfl (by decide) (.slice (some ⟨eb2, 0, none⟩) n ec) n (endsC EK) (by simp [Act.eval, Act.put]) hE ⟨nE, 0, none⟩ 1 1 [.int .i64 eb9.k, .int .i64 eb9.a, .int .i64 eb9.to, .int .i64 eb9.el] (by simp [Act.eval, Act.put]) rfl (news4 hNE) (by simp [Value.oneCell']) (by decide) (by unfold maxLen; omega) (by omega) hsz _ rfl ?_
                  intro gE capE q2 hown hgrow hgl hlt9
                  have hb : Below (H + 1 + 1) q1 q2 := below_grown (Below.refl _ q1) hgrow hsz (fun i e => (own_lt5 hE e).2)
                  replace hO := own_other hO hgrow (own_ne hE hO (by decide))
                  replace hE := hown
                  replace hB : Below (H + 1 + 1) W2 q2 := hB.trans hb
                  replace hsz : H + 1 + 1 ≤ q2.heap.size := Nat.le_trans hsz hb.size
                  clear hb hgrow hown hgl hlt9 hNE
                  clear hHeld
                  refine hK.out _ _ hB (fun hHeld => ?_)
                  clear hK K
                  try simp only [Act.put, List.setIfInBounds_toArray, List.set_cons_zero, List.set_cons_succ]
                  refine oneL (i := 11) rfl (by kernel_rfl) (fun K hK => ?_)
                  obtain ⟨e0, el⟩ := ocell hO HNX.out.2.2.2.2.2.2.2 rfl hbN
                  go_simp
                  clear e0 el
                  clear hHeld
                  refine hK.out _ _ hB (fun hHeld => ?_)
                  clear hK K
                  try simp only [Act.put, List.setIfInBounds_toArray, List.set_cons_zero, List.set_cons_succ]
                  refine oneL (i := 12) rfl (by kernel_rfl) (fun K hK => ?_)
                  go_simp
                  obtain ⟨q3, hq3⟩ : ∃ x, x = q2.alloc (.cells #[.int .i64 (o9 : Nat)] tI1) := ⟨_, rfl⟩
                  obtain ⟨nO, hnO⟩ : ∃ x, x = q2.heap.size := ⟨_, rfl⟩
                  rw [← hq3, ← hnO]
                  have hb : Below q2.heap.size q2 q3 := by rw [hq3]; exact (Below.refl _ _).alloc (Nat.le_refl _) _
                  have hNO : Blk q3 nO tI1 #[.int .i64 (o9 : Nat)] := by rw [hq3, hnO]; exact Blk.new _ _ _
                  have hltnO : ∀ i, i < q2.heap.size → i < nO := fun i hi => by omega
                  have hnenO := fun i hi => hltnO i (own_lt5 hO (i := i) hi).1
                  clear hq3 hnO hltnO
                  replace hE := own_on hE hb
                  replace hO := own_on hO hb
                  replace hB : Below (H + 1 + 1) W2 q3 := hB.trans (hb.mono hsz)
                  replace hsz : H + 1 + 1 ≤ q3.heap.size := Nat.le_trans hsz hb.size
                  clear hb
                  clear hHeld
                  refine hK.out _ _ hB (fun hHeld => ?_)
                  clear hK K
                  try simp only [Act.put, List.setIfInBounds_toArray, List.set_cons_zero, List.set_cons_succ]
                  refine oneL (i := 13) rfl (by kernel_rfl) (fun K hK => ?_)
                  refine step_append_lies _ rfl (.tmp 62) (.tmp 67) 31 rfl (H + 1 + 1) tI1 iO _ 1 8 Try.underlying31 hiO hzO0 hzO1 hzO2 rfl (by decide) (.slice (some ⟨ob9, 0, none⟩) n oc) n (ints ok) (by simp [Act.eval, Act.put]) hO ⟨nO, 0, none⟩ 1 1 [.int .i64 (o9 : Nat)] (by simp [Act.eval, Act.put]) rfl (news1 hNO) (by simp [Value.oneCell']) (by decide) (by unfold maxLen; omega) (by omega) hsz _ rfl ?_
                  intro gO capO q4 hown hgrow hgl hlt9
                  have hb : Below (H + 1 + 1) q3 q4 := below_grown (Below.refl _ q3) hgrow hsz (fun i e => (own_lt5 hO e).2)
                  replace hE := own_other hE hgrow (own_ne hO hE (by decide))
                  replace hO := hown
                  replace hB : Below (H + 1 + 1) W2 q4 := hB.trans hb
                  clear hb hgrow hown hgl hlt9 hNO
                  clear hHeld
                  refine hK.out _ _ hB (fun hHeld => ?_)
                  clear hK K
                  try simp only [Act.put, List.setIfInBounds_toArray, List.set_cons_zero, List.set_cons_succ]
                  refine tQ 14 hHeld ?_
                  try simp only [Act.put, List.setIfInBounds_toArray, List.set_cons_zero, List.set_cons_succ]
                  refine tQ 15 hHeld ?_
                  try simp only [Act.put, List.setIfInBounds_toArray, List.set_cons_zero, List.set_cons_succ]
                  refine wpAnyH_done (by kernel_rfl) ?_ _
                  have HFF := Lib.hid (And.intro hE (And.intro hO hB))
                  clear hE hO hB hsz hHeld
                  go_wp2_with fail
                  go_roundw
                  case rel =>
                    exact ⟨F2, EK ++ [eb9], ok ++ [o9], n + 1, HNX.out.1, by omega, by rw [List.length_append, HNX.out.2.2.2.2.1]; rfl, by omega, by omega, HNX.out.2.1, HNX.out.2.2.1, by rw [List.length_append, HNX.out.2.2.2.2.2.1]; rfl, HNX.out.2.2.2.1, by rw [endsC_snoc]; exact HFF.out.1, by rw [ints_snoc]; exact HFF.out.2.1, HFF.out.2.2⟩
                  case measure => show 401 - (n + 1) < 401 - n; omega
                · obtain ⟨e0, el⟩ := ocell hO HNX.out.2.2.2.2.2.2.2 rfl hbN
                  go_simp
                  clear e0 el
                  clear hHeld
                  refine hK.out _ _ hB (fun hHeld => ?_)
                  clear hK K
                  try simp only [Act.put, List.setIfInBounds_toArray, List.set_cons_zero, List.set_cons_succ]
                  refine twoL (i := 6) (j := 12) rfl rfl (by kernel_rfl) (fun K hK => ?_) (fun K hK => ?_)
                  · refine step_append_lies _ rfl (.tmp 55) (.tmp 60) 41 rfl (H + 1 + 1) tEn' iE _ 4 32 Try.underlying41 hiE hzE0 hzE1 hzE2 rfl (by decide) (.slice (some ⟨eb2, 0, none⟩) n ec) n (endsC EK) (by simp [Act.eval, Act.put]) hE ⟨nE, 0, none⟩ 1 1 [.int .i64 eb9.k, .int .i64 eb9.a, .int .i64 eb9.to, .int .i64 eb9.el] (by simp [Act.eval, Act.put]) rfl (news4 hNE) (by simp [Value.oneCell']) (by decide) (by unfold maxLen; omega) (by omega) hsz _ rfl ?_
                    intro gE capE q5 hown hgrow hgl hlt9
                    have hb : Below (H + 1 + 1) q1 q5 := below_grown (Below.refl _ q1) hgrow hsz (fun i e => (own_lt5 hE e).2)
                    replace hO := own_other hO hgrow (own_ne hE hO (by decide))
                    replace hE := hown
                    replace hB : Below (H + 1 + 1) W2 q5 := hB.trans hb
                    replace hsz : H + 1 + 1 ≤ q5.heap.size := Nat.le_trans hsz hb.size
                    clear hb hgrow hown hgl hlt9 hNE
                    clear hHeld
                    refine hK.out _ _ hB (fun hHeld => ?_)
                    clear hK K
                    try simp only [Act.put, List.setIfInBounds_toArray, List.set_cons_zero, List.set_cons_succ]
                    refine oneL (i := 12) rfl (by kernel_rfl) (fun K hK => ?_)
                    go_simp
                    obtain ⟨q6, hq6⟩ : ∃ x, x = q5.alloc (.cells #[.int .i64 (o9 : Nat)] tI1) := ⟨_, rfl⟩
                    obtain ⟨nO, hnO⟩ : ∃ x, x = q5.heap.size := ⟨_, rfl⟩
                    rw [← hq6, ← hnO]
                    have hb : Below q5.heap.size q5 q6 := by rw [hq6]; exact (Below.refl _ _).alloc (Nat.le_refl _) _
                    have hNO : Blk q6 nO tI1 #[.int .i64 (o9 : Nat)] := by rw [hq6, hnO]; exact Blk.new _ _ _
                    have hltnO : ∀ i, i < q5.heap.size → i < nO := fun i hi => by omega
                    have hnenO := fun i hi => hltnO i (own_lt5 hO (i := i) hi).1
                    clear hq6 hnO hltnO
                    replace hE := own_on hE hb
                    replace hO := own_on hO hb
                    replace hB : Below (H + 1 + 1) W2 q6 := hB.trans (hb.mono hsz)
                    replace hsz : H + 1 + 1 ≤ q6.heap.size := Nat.le_trans hsz hb.size
                    clear hb
                    clear hHeld
                    refine hK.out _ _ hB (fun hHeld => ?_)
                    clear hK K
                    try simp only [Act.put, List.setIfInBounds_toArray, List.set_cons_zero, List.set_cons_succ]
                    refine oneL (i := 13) rfl (by kernel_rfl) (fun K hK => ?_)
                    refine step_append_lies _ rfl (.tmp 62) (.tmp 67) 31 rfl (H + 1 + 1) tI1 iO _ 1 8 Try.underlying31 hiO hzO0 hzO1 hzO2 rfl (by decide) (.slice (some ⟨ob9, 0, none⟩) n oc) n (ints ok) (by simp [Act.eval, Act.put]) hO ⟨nO, 0, none⟩ 1 1 [.int .i64 (o9 : Nat)] (by simp [Act.eval, Act.put]) rfl (news1 hNO) (by simp [Value.oneCell']) (by decide) (by unfold maxLen; omega) (by omega) hsz _ rfl ?_
                    intro gO capO q7 hown hgrow hgl hlt9
                    have hb : Below (H + 1 + 1) q6 q7 := below_grown (Below.refl _ q6) hgrow hsz (fun i e => (own_lt5 hO e).2)
                    replace hE := own_other hE hgrow (own_ne hO hE (by decide))
                    replace hO := hown
                    replace hB : Below (H + 1 + 1) W2 q7 := hB.trans hb
                    clear hb hgrow hown hgl hlt9 hNO
                    clear hHeld
                    refine hK.out _ _ hB (fun hHeld => ?_)
                    clear hK K
                    try simp only [Act.put, List.setIfInBounds_toArray, List.set_cons_zero, List.set_cons_succ]
                    refine tQ 14 hHeld ?_
                    try simp only [Act.put, List.setIfInBounds_toArray, List.set_cons_zero, List.set_cons_succ]
                    refine tQ 15 hHeld ?_
                    try simp only [Act.put, List.setIfInBounds_toArray, List.set_cons_zero, List.set_cons_succ]
                    refine wpAnyH_done (by kernel_rfl) ?_ _
                    have HFF := Lib.hid (And.intro hE (And.intro hO hB))
                    clear hE hO hB hsz hHeld
                    go_wp2_with fail
                    go_roundw
                    case rel =>
                      exact ⟨F2, EK ++ [eb9], ok ++ [o9], n + 1, HNX.out.1, by omega, by rw [List.length_append, HNX.out.2.2.2.2.1]; rfl, by omega, by omega, HNX.out.2.1, HNX.out.2.2.1, by rw [List.length_append, HNX.out.2.2.2.2.2.1]; rfl, HNX.out.2.2.2.1, by rw [endsC_snoc]; exact HFF.out.1, by rw [ints_snoc]; exact HFF.out.2.1, HFF.out.2.2⟩
                    case measure => show 401 - (n + 1) < 401 - n; omega
                  · go_simp
                    obtain ⟨q8, hq8⟩ : ∃ x, x = q1.alloc (.cells #[.int .i64 (o9 : Nat)] tI1) := ⟨_, rfl⟩
                    obtain ⟨nO, hnO⟩ : ∃ x, x = q1.heap.size := ⟨_, rfl⟩
                    rw [← hq8, ← hnO]
                    have hb : Below q1.heap.size q1 q8 := by rw [hq8]; exact (Below.refl _ _).alloc (Nat.le_refl _) _
                    have hNO : Blk q8 nO tI1 #[.int .i64 (o9 : Nat)] := by rw [hq8, hnO]; exact Blk.new _ _ _
                    have hltnO : ∀ i, i < q1.heap.size → i < nO := fun i hi => by omega
                    have hnenO := fun i hi => hltnO i (own_lt5 hO (i := i) hi).1
                    clear hq8 hnO hltnO
                    replace hE := own_on hE hb
                    replace hO := own_on hO hb
                    replace hNE := hNE.on hb
                    replace hB : Below (H + 1 + 1) W2 q8 := hB.trans (hb.mono hsz)
                    replace hsz : H + 1 + 1 ≤ q8.heap.size := Nat.le_trans hsz hb.size
                    clear hb
                    clear hHeld
                    refine hK.out _ _ hB (fun hHeld => ?_)
                    clear hK K
                    try simp only [Act.put, List.setIfInBounds_toArray, List.set_cons_zero, List.set_cons_succ]
                    refine oneL (i := 6) rfl (by kernel_rfl) (fun K hK => ?_)
                    refine step_append_lies _ rfl (.tmp 55) (.tmp 60) 41 rfl (H + 1 + 1) tEn' iE _ 4 32 Try.underlying41 hiE hzE0 hzE1 hzE2 rfl (by decide) (.slice (some ⟨eb2, 0, none⟩) n ec) n (endsC EK) (by simp [Act.eval, Act.put]) hE ⟨nE, 0, none⟩ 1 1 [.int .i64 eb9.k, .int .i64 eb9.a, .int .i64 eb9.to, .int .i64 eb9.el] (by simp [Act.eval, Act.put]) rfl (news4 hNE) (by simp [Value.oneCell']) (by decide) (by unfold maxLen; omega) (by omega) hsz _ rfl ?_
                    intro gE capE q9 hown hgrow hgl hlt9
                    have hb : Below (H + 1 + 1) q8 q9 := below_grown (Below.refl _ q8) hgrow hsz (fun i e => (own_lt5 hE e).2)
                    replace hO := own_other hO hgrow (own_ne hE hO (by decide))
                    replace hNO := blk_grown hNO hgrow (own_blk_ne hE hNO (by decide))
                    replace hE := hown
                    replace hB : Below (H + 1 + 1) W2 q9 := hB.trans hb
                    replace hsz : H + 1 + 1 ≤ q9.heap.size := Nat.le_trans hsz hb.size
                    clear hb hgrow hown hgl hlt9 hNE
                    clear hHeld
                    refine hK.out _ _ hB (fun hHeld => ?_)
                    clear hK K
                    try simp only [Act.put, List.setIfInBounds_toArray, List.set_cons_zero, List.set_cons_succ]
                    refine oneL (i := 13) rfl (by kernel_rfl) (fun K hK => ?_)
                    refine step_append_lies _ rfl (.tmp 62) (.tmp 67) 31 rfl (H + 1 + 1) tI1 iO _ 1 8 Try.underlying31 hiO hzO0 hzO1 hzO2 rfl (by decide) (.slice (some ⟨ob9, 0, none⟩) n oc) n (ints ok) (by simp [Act.eval, Act.put]) hO ⟨nO, 0, none⟩ 1 1 [.int .i64 (o9 : Nat)] (by simp [Act.eval, Act.put]) rfl (news1 hNO) (by simp [Value.oneCell']) (by decide) (by unfold maxLen; omega) (by omega) hsz _ rfl ?_
                    intro gO capO q10 hown hgrow hgl hlt9
                    have hb : Below (H + 1 + 1) q9 q10 := below_grown (Below.refl _ q9) hgrow hsz (fun i e => (own_lt5 hO e).2)
                    replace hE := own_other hE hgrow (own_ne hO hE (by decide))
                    replace hO := hown
                    replace hB : Below (H + 1 + 1) W2 q10 := hB.trans hb
                    clear hb hgrow hown hgl hlt9 hNO
                    clear hHeld
                    refine hK.out _ _ hB (fun hHeld => ?_)
                    clear hK K
                    try simp only [Act.put, List.setIfInBounds_toArray, List.set_cons_zero, List.set_cons_succ]
                    refine tQ 14 hHeld ?_
                    try simp only [Act.put, List.setIfInBounds_toArray, List.set_cons_zero, List.set_cons_succ]
                    refine tQ 15 hHeld ?_
                    try simp only [Act.put, List.setIfInBounds_toArray, List.set_cons_zero, List.set_cons_succ]
                    refine wpAnyH_done (by kernel_rfl) ?_ _
                    have HFF := Lib.hid (And.intro hE (And.intro hO hB))
                    clear hE hO hB hsz hHeld
                    go_wp2_with fail
                    go_roundw
                    case rel =>
                      exact ⟨F2, EK ++ [eb9], ok ++ [o9], n + 1, HNX.out.1, by omega, by rw [List.length_append, HNX.out.2.2.2.2.1]; rfl, by omega, by omega, HNX.out.2.1, HNX.out.2.2.1, by rw [List.length_append, HNX.out.2.2.2.2.2.1]; rfl, HNX.out.2.2.2.1, by rw [endsC_snoc]; exact HFF.out.1, by rw [ints_snoc]; exact HFF.out.2.1, HFF.out.2.2⟩
                    case measure => show 401 - (n + 1) < 401 - n; omega
              · obtain ⟨e0, el⟩ := ocell hO HNX.out.2.2.2.2.2.2.2 rfl hbN
                go_simp
                clear e0 el
                clear hHeld
                refine hK.out _ _ hB (fun hHeld => ?_)
                clear hK K
                try simp only [Act.put, List.setIfInBounds_toArray, List.set_cons_zero, List.set_cons_succ]
                refine twoL (i := 5) (j := 12) rfl rfl (by kernel_rfl) (fun K hK => ?_) (fun K hK => ?_)
                · go_simp
                  obtain ⟨q11, hq11⟩ : ∃ x, x = q0.alloc (.cells #[.int .i64 eb9.k, .int .i64 eb9.a, .int .i64 eb9.to, .int .i64 eb9.el] tEn') := ⟨_, rfl⟩
                  obtain ⟨nE, hnE⟩ : ∃ x, x = q0.heap.size := ⟨_, rfl⟩
                  rw [← hq11, ← hnE]
                  have hb : Below q0.heap.size q0 q11 := by rw [hq11]; exact (Below.refl _ _).alloc (Nat.le_refl _) _
                  have hNE : Blk q11 nE tEn' #[.int .i64 eb9.k, .int .i64 eb9.a, .int .i64 eb9.to, .int .i64 eb9.el] := by rw [hq11, hnE]; exact Blk.new _ _ _
                  have hltnE : ∀ i, i < q0.heap.size → i < nE := fun i hi => by omega
                  have hnenE := fun i hi => hltnE i (own_lt5 hE (i := i) hi).1
                  clear hq11 hnE hltnE
                  replace hE := own_on hE hb
                  replace hO := own_on hO hb
                  replace hB : Below (H + 1 + 1) W2 q11 := hB.trans (hb.mono hsz)
                  replace hsz : H + 1 + 1 ≤ q11.heap.size := Nat.le_trans hsz hb.size
                  clear hb
                  clear hHeld
                  refine hK.out _ _ hB (fun hHeld => ?_)
                  clear hK K
                  try simp only [Act.put, List.setIfInBounds_toArray, List.set_cons_zero, List.set_cons_succ]
                  refine twoL (i := 6) (j := 12) rfl rfl (by kernel_rfl) (fun K hK => ?_) (fun K hK => ?_)
                  · refine step_append_lies _ rfl (.tmp 55) (.tmp 60) 41 rfl (H + 1 + 1) tEn' iE _ 4 32 Try.underlying41 hiE hzE0 hzE1 hzE2 rfl (by decide) (.slice (some ⟨eb2, 0, none⟩) n ec) n (endsC EK) (by simp [Act.eval, Act.put]) hE ⟨nE, 0, none⟩ 1 1 [.int .i64 eb9.k, .int .i64 eb9.a, .int .i64 eb9.to, .int .i64 eb9.el] (by simp [Act.eval, Act.put]) rfl (news4 hNE) (by simp [Value.oneCell']) (by decide) (by unfold maxLen; omega) (by omega) hsz _ rfl ?_
                    intro gE capE q12 hown hgrow hgl hlt9
                    have hb : Below (H + 1 + 1) q11 q12 := below_grown (Below.refl _ q11) hgrow hsz (fun i e => (own_lt5 hE e).2)
                    replace hO := own_other hO hgrow (own_ne hE hO (by decide))
                    replace hE := hown
                    replace hB : Below (H + 1 + 1) W2 q12 := hB.trans hb
                    replace hsz : H + 1 + 1 ≤ q12.heap.size := Nat.le_trans hsz hb.size
                    clear hb hgrow hown hgl hlt9 hNE
                    clear hHeld
                    refine hK.out _ _ hB (fun hHeld => ?_)
                    clear hK K
                    try simp only [Act.put, List.setIfInBounds_toArray, List.set_cons_zero, List.set_cons_succ]
                    refine oneL (i := 12) rfl (by kernel_rfl) (fun K hK => ?_)
                    go_simp
                    obtain ⟨q13, hq13⟩ : ∃ x, x = q12.alloc (.cells #[.int .i64 (o9 : Nat)] tI1) := ⟨_, rfl⟩
                    obtain ⟨nO, hnO⟩ : ∃ x, x = q12.heap.size := ⟨_, rfl⟩
                    rw [← hq13, ← hnO]
                    have hb : Below q12.heap.size q12 q13 := by rw [hq13]; exact (Below.refl _ _).alloc (Nat.le_refl _) _
                    have hNO : Blk q13 nO tI1 #[.int .i64 (o9 : Nat)] := by rw [hq13, hnO]; exact Blk.new _ _ _
                    have hltnO : ∀ i, i < q12.heap.size → i < nO := fun i hi => by omega
                    have hnenO := fun i hi => hltnO i (own_lt5 hO (i := i) hi).1
                    clear hq13 hnO hltnO
                    replace hE := own_on hE hb
                    replace hO := own_on hO hb
                    replace hB : Below (H + 1 + 1) W2 q13 := hB.trans (hb.mono hsz)
                    replace hsz : H + 1 + 1 ≤ q13.heap.size := Nat.le_trans hsz hb.size
                    clear hb
                    clear hHeld
                    refine hK.out _ _ hB (fun hHeld => ?_)
                    clear hK K
                    try simp only [Act.put, List.setIfInBounds_toArray, List.set_cons_zero, List.set_cons_succ]
                    refine oneL (i := 13) rfl (by kernel_rfl) (fun K hK => ?_)
                    refine step_append_lies _ rfl (.tmp 62) (.tmp 67) 31 rfl (H + 1 + 1) tI1 iO _ 1 8 Try.underlying31 hiO hzO0 hzO1 hzO2 rfl (by decide) (.slice (some ⟨ob9, 0, none⟩) n oc) n (ints ok) (by simp [Act.eval, Act.put]) hO ⟨nO, 0, none⟩ 1 1 [.int .i64 (o9 : Nat)] (by simp [Act.eval, Act.put]) rfl (news1 hNO) (by simp [Value.oneCell']) (by decide) (by unfold maxLen; omega) (by omega) hsz _ rfl ?_
                    intro gO capO q14 hown hgrow hgl hlt9
                    have hb : Below (H + 1 + 1) q13 q14 := below_grown (Below.refl _ q13) hgrow hsz (fun i e => (own_lt5 hO e).2)
                    replace hE := own_other hE hgrow (own_ne hO hE (by decide))
                    replace hO := hown
                    replace hB : Below (H + 1 + 1) W2 q14 := hB.trans hb
                    clear hb hgrow hown hgl hlt9 hNO
                    clear hHeld
                    refine hK.out _ _ hB (fun hHeld => ?_)
                    clear hK K
                    try simp only [Act.put, List.setIfInBounds_toArray, List.set_cons_zero, List.set_cons_succ]
                    refine tQ 14 hHeld ?_
                    try simp only [Act.put, List.setIfInBounds_toArray, List.set_cons_zero, List.set_cons_succ]
                    refine tQ 15 hHeld ?_
                    try simp only [Act.put, List.setIfInBounds_toArray, List.set_cons_zero, List.set_cons_succ]
                    refine wpAnyH_done (by kernel_rfl) ?_ _
                    have HFF := Lib.hid (And.intro hE (And.intro hO hB))
                    clear hE hO hB hsz hHeld
                    go_wp2_with fail
                    go_roundw
                    case rel =>
                      exact ⟨F2, EK ++ [eb9], ok ++ [o9], n + 1, HNX.out.1, by omega, by rw [List.length_append, HNX.out.2.2.2.2.1]; rfl, by omega, by omega, HNX.out.2.1, HNX.out.2.2.1, by rw [List.length_append, HNX.out.2.2.2.2.2.1]; rfl, HNX.out.2.2.2.1, by rw [endsC_snoc]; exact HFF.out.1, by rw [ints_snoc]; exact HFF.out.2.1, HFF.out.2.2⟩
                    case measure => show 401 - (n + 1) < 401 - n; omega
                  · go_simp
                    obtain ⟨q15, hq15⟩ : ∃ x, x = q11.alloc (.cells #[.int .i64 (o9 : Nat)] tI1) := ⟨_, rfl⟩
                    obtain ⟨nO, hnO⟩ : ∃ x, x = q11.heap.size := ⟨_, rfl⟩
                    rw [← hq15, ← hnO]
                    have hb : Below q11.heap.size q11 q15 := by rw [hq15]; exact (Below.refl _ _).alloc (Nat.le_refl _) _
                    have hNO : Blk q15 nO tI1 #[.int .i64 (o9 : Nat)] := by rw [hq15, hnO]; exact Blk.new _ _ _
                    have hltnO : ∀ i, i < q11.heap.size → i < nO := fun i hi => by omega
                    have hnenO := fun i hi => hltnO i (own_lt5 hO (i := i) hi).1
                    clear hq15 hnO hltnO
                    replace hE := own_on hE hb
                    replace hO := own_on hO hb
                    replace hNE := hNE.on hb
                    replace hB : Below (H + 1 + 1) W2 q15 := hB.trans (hb.mono hsz)
                    replace hsz : H + 1 + 1 ≤ q15.heap.size := Nat.le_trans hsz hb.size
                    clear hb
                    clear hHeld
                    refine hK.out _ _ hB (fun hHeld => ?_)
                    clear hK K
                    try simp only [Act.put, List.setIfInBounds_toArray, List.set_cons_zero, List.set_cons_succ]
                    refine oneL (i := 6) rfl (by kernel_rfl) (fun K hK => ?_)
                    refine step_append_lies _ rfl (.tmp 55) (.tmp 60) 41 rfl (H + 1 + 1) tEn' iE _ 4 32 Try.underlying41 hiE hzE0 hzE1 hzE2 rfl (by decide) (.slice (some ⟨eb2, 0, none⟩) n ec) n (endsC EK) (by simp [Act.eval, Act.put]) hE ⟨nE, 0, none⟩ 1 1 [.int .i64 eb9.k, .int .i64 eb9.a, .int .i64 eb9.to, .int .i64 eb9.el] (by simp [Act.eval, Act.put]) rfl (news4 hNE) (by simp [Value.oneCell']) (by decide) (by unfold maxLen; omega) (by omega) hsz _ rfl ?_
                    intro gE capE q16 hown hgrow hgl hlt9
                    have hb : Below (H + 1 + 1) q15 q16 := below_grown (Below.refl _ q15) hgrow hsz (fun i e => (own_lt5 hE e).2)
                    replace hO := own_other hO hgrow (own_ne hE hO (by decide))
                    replace hNO := blk_grown hNO hgrow (own_blk_ne hE hNO (by decide))
                    replace hE := hown
                    replace hB : Below (H + 1 + 1) W2 q16 := hB.trans hb
                    replace hsz : H + 1 + 1 ≤ q16.heap.size := Nat.le_trans hsz hb.size
                    clear hb hgrow hown hgl hlt9 hNE
                    clear hHeld
                    refine hK.out _ _ hB (fun hHeld => ?_)
                    clear hK K
                    try simp only [Act.put, List.setIfInBounds_toArray, List.set_cons_zero, List.set_cons_succ]
                    refine oneL (i := 13) rfl (by kernel_rfl) (fun K hK => ?_)
                    refine step_append_lies _ rfl (.tmp 62) (.tmp 67) 31 rfl (H + 1 + 1) tI1 iO _ 1 8 Try.underlying31 hiO hzO0 hzO1 hzO2 rfl (by decide) (.slice (some ⟨ob9, 0, none⟩) n oc) n (ints ok) (by simp [Act.eval, Act.put]) hO ⟨nO, 0, none⟩ 1 1 [.int .i64 (o9 : Nat)] (by simp [Act.eval, Act.put]) rfl (news1 hNO) (by simp [Value.oneCell']) (by decide) (by unfold maxLen; omega) (by omega) hsz _ rfl ?_
                    intro gO capO q17 hown hgrow hgl hlt9
                    have hb : Below (H + 1 + 1) q16 q17 := below_grown (Below.refl _ q16) hgrow hsz (fun i e => (own_lt5 hO e).2)
                    replace hE := own_other hE hgrow (own_ne hO hE (by decide))
                    replace hO := hown
                    replace hB : Below (H + 1 + 1) W2 q17 := hB.trans hb
                    clear hb hgrow hown hgl hlt9 hNO
                    clear hHeld
                    refine hK.out _ _ hB (fun hHeld => ?_)
                    clear hK K
                    try simp only [Act.put, List.setIfInBounds_toArray, List.set_cons_zero, List.set_cons_succ]
                    refine tQ 14 hHeld ?_
                    try simp only [Act.put, List.setIfInBounds_toArray, List.set_cons_zero, List.set_cons_succ]
                    refine tQ 15 hHeld ?_
                    try simp only [Act.put, List.setIfInBounds_toArray, List.set_cons_zero, List.set_cons_succ]
                    refine wpAnyH_done (by kernel_rfl) ?_ _
                    have HFF := Lib.hid (And.intro hE (And.intro hO hB))
                    clear hE hO hB hsz hHeld
                    go_wp2_with fail
                    go_roundw
                    case rel =>
                      exact ⟨F2, EK ++ [eb9], ok ++ [o9], n + 1, HNX.out.1, by omega, by rw [List.length_append, HNX.out.2.2.2.2.1]; rfl, by omega, by omega, HNX.out.2.1, HNX.out.2.2.1, by rw [List.length_append, HNX.out.2.2.2.2.2.1]; rfl, HNX.out.2.2.2.1, by rw [endsC_snoc]; exact HFF.out.1, by rw [ints_snoc]; exact HFF.out.2.1, HFF.out.2.2⟩
                    case measure => show 401 - (n + 1) < 401 - n; omega
                · go_simp
                  obtain ⟨q18, hq18⟩ : ∃ x, x = q0.alloc (.cells #[.int .i64 (o9 : Nat)] tI1) := ⟨_, rfl⟩
                  obtain ⟨nO, hnO⟩ : ∃ x, x = q0.heap.size := ⟨_, rfl⟩
                  rw [← hq18, ← hnO]
                  have hb : Below q0.heap.size q0 q18 := by rw [hq18]; exact (Below.refl _ _).alloc (Nat.le_refl _) _
                  have hNO : Blk q18 nO tI1 #[.int .i64 (o9 : Nat)] := by rw [hq18, hnO]; exact Blk.new _ _ _
                  have hltnO : ∀ i, i < q0.heap.size → i < nO := fun i hi => by omega
                  have hnenO := fun i hi => hltnO i (own_lt5 hO (i := i) hi).1
                  clear hq18 hnO hltnO
                  replace hE := own_on hE hb
                  replace hO := own_on hO hb
                  replace hB : Below (H + 1 + 1) W2 q18 := hB.trans (hb.mono hsz)
                  replace hsz : H + 1 + 1 ≤ q18.heap.size := Nat.le_trans hsz hb.size
                  clear hb
                  clear hHeld
                  refine hK.out _ _ hB (fun hHeld => ?_)
                  clear hK K
                  try simp only [Act.put, List.setIfInBounds_toArray, List.set_cons_zero, List.set_cons_succ]
                  refine oneL (i := 5) rfl (by kernel_rfl) (fun K hK => ?_)
                  go_simp
                  obtain ⟨q19, hq19⟩ : ∃ x, x = q18.alloc (.cells #[.int .i64 eb9.k, .int .i64 eb9.a, .int .i64 eb9.to, .int .i64 eb9.el] tEn') := ⟨_, rfl⟩
                  obtain ⟨nE, hnE⟩ : ∃ x, x = q18.heap.size := ⟨_, rfl⟩
                  rw [← hq19, ← hnE]
                  have hb : Below q18.heap.size q18 q19 := by rw [hq19]; exact (Below.refl _ _).alloc (Nat.le_refl _) _
                  have hNE : Blk q19 nE tEn' #[.int .i64 eb9.k, .int .i64 eb9.a, .int .i64 eb9.to, .int .i64 eb9.el] := by rw [hq19, hnE]; exact Blk.new _ _ _
                  have hltnE : ∀ i, i < q18.heap.size → i < nE := fun i hi => by omega
                  have hnenE := fun i hi => hltnE i (own_lt5 hE (i := i) hi).1
                  clear hq19 hnE hltnE
                  replace hE := own_on hE hb
                  replace hO := own_on hO hb
                  replace hNO := hNO.on hb
                  replace hB : Below (H + 1 + 1) W2 q19 := hB.trans (hb.mono hsz)
                  replace hsz : H + 1 + 1 ≤ q19.heap.size := Nat.le_trans hsz hb.size
                  clear hb
                  clear hHeld
                  refine hK.out _ _ hB (fun hHeld => ?_)
                  clear hK K
                  try simp only [Act.put, List.setIfInBounds_toArray, List.set_cons_zero, List.set_cons_succ]
                  refine oneL (i := 6) rfl (by kernel_rfl) (fun K hK => ?_)
                  refine step_append_lies _ rfl (.tmp 55) (.tmp 60) 41 rfl (H + 1 + 1) tEn' iE _ 4 32 Try.underlying41 hiE hzE0 hzE1 hzE2 rfl (by decide) (.slice (some ⟨eb2, 0, none⟩) n ec) n (endsC EK) (by simp [Act.eval, Act.put]) hE ⟨nE, 0, none⟩ 1 1 [.int .i64 eb9.k, .int .i64 eb9.a, .int .i64 eb9.to, .int .i64 eb9.el] (by simp [Act.eval, Act.put]) rfl (news4 hNE) (by simp [Value.oneCell']) (by decide) (by unfold maxLen; omega) (by omega) hsz _ rfl ?_
                  intro gE capE q20 hown hgrow hgl hlt9
                  have hb : Below (H + 1 + 1) q19 q20 := below_grown (Below.refl _ q19) hgrow hsz (fun i e => (own_lt5 hE e).2)
                  replace hO := own_other hO hgrow (own_ne hE hO (by decide))
                  replace hNO := blk_grown hNO hgrow (own_blk_ne hE hNO (by decide))
                  replace hE := hown
                  replace hB : Below (H + 1 + 1) W2 q20 := hB.trans hb
                  replace hsz : H + 1 + 1 ≤ q20.heap.size := Nat.le_trans hsz hb.size
                  clear hb hgrow hown hgl hlt9 hNE
                  clear hHeld
                  refine hK.out _ _ hB (fun hHeld => ?_)
                  clear hK K
                  try simp only [Act.put, List.setIfInBounds_toArray, List.set_cons_zero, List.set_cons_succ]
                  refine oneL (i := 13) rfl (by kernel_rfl) (fun K hK => ?_)
                  refine step_append_lies _ rfl (.tmp 62) (.tmp 67) 31 rfl (H + 1 + 1) tI1 iO _ 1 8 Try.underlying31 hiO hzO0 hzO1 hzO2 rfl (by decide) (.slice (some ⟨ob9, 0, none⟩) n oc) n (ints ok) (by simp [Act.eval, Act.put]) hO ⟨nO, 0, none⟩ 1 1 [.int .i64 (o9 : Nat)] (by simp [Act.eval, Act.put]) rfl (news1 hNO) (by simp [Value.oneCell']) (by decide) (by unfold maxLen; omega) (by omega) hsz _ rfl ?_
                  intro gO capO q21 hown hgrow hgl hlt9
                  have hb : Below (H + 1 + 1) q20 q21 := below_grown (Below.refl _ q20) hgrow hsz (fun i e => (own_lt5 hO e).2)
                  replace hE := own_other hE hgrow (own_ne hO hE (by decide))
                  replace hO := hown
                  replace hB : Below (H + 1 + 1) W2 q21 := hB.trans hb
                  clear hb hgrow hown hgl hlt9 hNO
                  clear hHeld
                  refine hK.out _ _ hB (fun hHeld => ?_)
                  clear hK K
                  try simp only [Act.put, List.setIfInBounds_toArray, List.set_cons_zero, List.set_cons_succ]
                  refine tQ 14 hHeld ?_
                  try simp only [Act.put, List.setIfInBounds_toArray, List.set_cons_zero, List.set_cons_succ]
                  refine tQ 15 hHeld ?_
                  try simp only [Act.put, List.setIfInBounds_toArray, List.set_cons_zero, List.set_cons_succ]
                  refine wpAnyH_done (by kernel_rfl) ?_ _
                  have HFF := Lib.hid (And.intro hE (And.intro hO hB))
                  clear hE hO hB hsz hHeld
                  go_wp2_with fail
                  go_roundw
                  case rel =>
                    exact ⟨F2, EK ++ [eb9], ok ++ [o9], n + 1, HNX.out.1, by omega, by rw [List.length_append, HNX.out.2.2.2.2.1]; rfl, by omega, by omega, HNX.out.2.1, HNX.out.2.2.1, by rw [List.length_append, HNX.out.2.2.2.2.2.1]; rfl, HNX.out.2.2.2.1, by rw [endsC_snoc]; exact HFF.out.1, by rw [ints_snoc]; exact HFF.out.2.1, HFF.out.2.2⟩
                  case measure => show 401 - (n + 1) < 401 - n; omega
            · obtain ⟨e0, el⟩ := ocell hO HNX.out.2.2.2.2.2.2.2 rfl hbN
              go_simp
              clear e0 el
              clear hHeld
              refine hK.out _ _ hB (fun hHeld => ?_)
              clear hK K
              try simp only [Act.put, List.setIfInBounds_toArray, List.set_cons_zero, List.set_cons_succ]
              refine twoL (i := 4) (j := 12) rfl rfl (by kernel_rfl) (fun K hK => ?_) (fun K hK => ?_)
              · obtain ⟨e0, e1, e2, e3, el⟩ := ecells hE HNX.out.2.2.2.2.2.2.1 rfl hbN
                go_simp
                clear e0 e1 e2 e3 el
                clear hHeld
                refine hK.out _ _ hB (fun hHeld => ?_)
                clear hK K
                try simp only [Act.put, List.setIfInBounds_toArray, List.set_cons_zero, List.set_cons_succ]
                refine twoL (i := 5) (j := 12) rfl rfl (by kernel_rfl) (fun K hK => ?_) (fun K hK => ?_)
                · go_simp
                  obtain ⟨q22, hq22⟩ : ∃ x, x = q0.alloc (.cells #[.int .i64 eb9.k, .int .i64 eb9.a, .int .i64 eb9.to, .int .i64 eb9.el] tEn') := ⟨_, rfl⟩
                  obtain ⟨nE, hnE⟩ : ∃ x, x = q0.heap.size := ⟨_, rfl⟩
                  rw [← hq22, ← hnE]
                  have hb : Below q0.heap.size q0 q22 := by rw [hq22]; exact (Below.refl _ _).alloc (Nat.le_refl _) _
                  have hNE : Blk q22 nE tEn' #[.int .i64 eb9.k, .int .i64 eb9.a, .int .i64 eb9.to, .int .i64 eb9.el] := by rw [hq22, hnE]; exact Blk.new _ _ _
                  have hltnE : ∀ i, i < q0.heap.size → i < nE := fun i hi => by omega
                  have hnenE := fun i hi => hltnE i (own_lt5 hE (i := i) hi).1
                  clear hq22 hnE hltnE
                  replace hE := own_on hE hb
                  replace hO := own_on hO hb
                  replace hB : Below (H + 1 + 1) W2 q22 := hB.trans (hb.mono hsz)
                  replace hsz : H + 1 + 1 ≤ q22.heap.size := Nat.le_trans hsz hb.size
                  clear hb
                  clear hHeld
                  refine hK.out _ _ hB (fun hHeld => ?_)
                  clear hK K
                  try simp only [Act.put, List.setIfInBounds_toArray, List.set_cons_zero, List.set_cons_succ]
                  refine twoL (i := 6) (j := 12) rfl rfl (by kernel_rfl) (fun K hK => ?_) (fun K hK => ?_)
                  · refine step_append_lies _ rfl (.tmp 55) (.tmp 60) 41 rfl (H + 1 + 1) tEn' iE _ 4 32 Try.underlying41 hiE hzE0 hzE1 hzE2 rfl (by decide) (.slice (some ⟨eb2, 0, none⟩) n ec) n (endsC EK) (by simp [Act.eval, Act.put]) hE ⟨nE, 0, none⟩ 1 1 [.int .i64 eb9.k, .int .i64 eb9.a, .int .i64 eb9.to, .int .i64 eb9.el] (by simp [Act.eval, Act.put]) rfl (news4 hNE) (by simp [Value.oneCell']) (by decide) (by unfold maxLen; omega) (by omega) hsz _ rfl ?_
                    intro gE capE q23 hown hgrow hgl hlt9
                    have hb : Below (H + 1 + 1) q22 q23 := below_grown (Below.refl _ q22) hgrow hsz (fun i e => (own_lt5 hE e).2)
                    replace hO := own_other hO hgrow (own_ne hE hO (by decide))
                    replace hE := hown
                    replace hB : Below (H + 1 + 1) W2 q23 := hB.trans hb
                    replace hsz : H + 1 + 1 ≤ q23.heap.size := Nat.le_trans hsz hb.size
                    clear hb hgrow hown hgl hlt9 hNE
                    clear hHeld
                    refine hK.out _ _ hB (fun hHeld => ?_)
                    clear hK K
                    try simp only [Act.put, List.setIfInBounds_toArray, List.set_cons_zero, List.set_cons_succ]
                    refine oneL (i := 12) rfl (by kernel_rfl) (fun K hK => ?_)
                    go_simp
                    obtain ⟨q24, hq24⟩ : ∃ x, x = q23.alloc (.cells #[.int .i64 (o9 : Nat)] tI1) := ⟨_, rfl⟩
                    obtain ⟨nO, hnO⟩ : ∃ x, x = q23.heap.size := ⟨_, rfl⟩
                    rw [← hq24, ← hnO]
                    have hb : Below q23.heap.size q23 q24 := by rw [hq24]; exact (Below.refl _ _).alloc (Nat.le_refl _) _
                    have hNO : Blk q24 nO tI1 #[.int .i64 (o9 : Nat)] := by rw [hq24, hnO]; exact Blk.new _ _ _
                    have hltnO : ∀ i, i < q23.heap.size → i < nO := fun i hi => by omega
                    have hnenO := fun i hi => hltnO i (own_lt5 hO (i := i) hi).1
                    clear hq24 hnO hltnO
                    replace hE := own_on hE hb
                    replace hO := own_on hO hb
                    replace hB : Below (H + 1 + 1) W2 q24 := hB.trans (hb.mono hsz)
                    replace hsz : H + 1 + 1 ≤ q24.heap.size := Nat.le_trans hsz hb.size
                    clear hb
                    clear hHeld
                    refine hK.out _ _ hB (fun hHeld => ?_)
                    clear hK K
                    try simp only [Act.put, List.setIfInBounds_toArray, List.set_cons_zero, List.set_cons_succ]
                    refine oneL (i := 13) rfl (by kernel_rfl) (fun K hK => ?_)
                    refine step_append_lies _ rfl (.tmp 62) (.tmp 67) 31 rfl (H + 1 + 1) tI1 iO _ 1 8 Try.underlying31 hiO hzO0 hzO1 hzO2 rfl (by decide) (.slice (some ⟨ob9, 0, none⟩) n oc) n (ints ok) (by simp [Act.eval, Act.put]) hO ⟨nO, 0, none⟩ 1 1 [.int .i64 (o9 : Nat)] (by simp [Act.eval, Act.put]) rfl (news1 hNO) (by simp [Value.oneCell']) (by decide) (by unfold maxLen; omega) (by omega) hsz _ rfl ?_
                    intro gO capO q25 hown hgrow hgl hlt9
                    have hb : Below (H + 1 + 1) q24 q25 := below_grown (Below.refl _ q24) hgrow hsz (fun i e => (own_lt5 hO e).2)
                    replace hE := own_other hE hgrow (own_ne hO hE (by decide))
                    replace hO := hown
                    replace hB : Below (H + 1 + 1) W2 q25 := hB.trans hb
                    clear hb hgrow hown hgl hlt9 hNO
                    clear hHeld
                    refine hK.out _ _ hB (fun hHeld => ?_)
                    clear hK K
                    try simp only [Act.put, List.setIfInBounds_toArray, List.set_cons_zero, List.set_cons_succ]
                    refine tQ 14 hHeld ?_
                    try simp only [Act.put, List.setIfInBounds_toArray, List.set_cons_zero, List.set_cons_succ]
                    refine tQ 15 hHeld ?_
                    try simp only [Act.put, List.setIfInBounds_toArray, List.set_cons_zero, List.set_cons_succ]
                    refine wpAnyH_done (by kernel_rfl) ?_ _
                    have HFF := Lib.hid (And.intro hE (And.intro hO hB))
                    clear hE hO hB hsz hHeld
                    go_wp2_with fail
                    go_roundw
                    case rel =>
                      exact ⟨F2, EK ++ [eb9], ok ++ [o9], n + 1, HNX.out.1, by omega, by rw [List.length_append, HNX.out.2.2.2.2.1]; rfl, by omega, by omega, HNX.out.2.1, HNX.out.2.2.1, by rw [List.length_append, HNX.out.2.2.2.2.2.1]; rfl, HNX.out.2.2.2.1, by rw [endsC_snoc]; exact HFF.out.1, by rw [ints_snoc]; exact HFF.out.2.1, HFF.out.2.2⟩
                    case measure => show 401 - (n + 1) < 401 - n; omega
                  · go_simp
                    obtain ⟨q26, hq26⟩ : ∃ x, x = q22.alloc (.cells #[.int .i64 (o9 : Nat)] tI1) := ⟨_, rfl⟩
                    obtain ⟨nO, hnO⟩ : ∃ x, x = q22.heap.size := ⟨_, rfl⟩
                    rw [← hq26, ← hnO]
                    have hb : Below q22.heap.size q22 q26 := by rw [hq26]; exact (Below.refl _ _).alloc (Nat.le_refl _) _
                    have hNO : Blk q26 nO tI1 #[.int .i64 (o9 : Nat)] := by rw [hq26, hnO]; exact Blk.new _ _ _
                    have hltnO : ∀ i, i < q22.heap.size → i < nO := fun i hi => by omega
                    have hnenO := fun i hi => hltnO i (own_lt5 hO (i := i) hi).1
                    clear hq26 hnO hltnO
                    replace hE := own_on hE hb
                    replace hO := own_on hO hb
                    replace hNE := hNE.on hb
                    replace hB : Below (H + 1 + 1) W2 q26 := hB.trans (hb.mono hsz)
                    replace hsz : H + 1 + 1 ≤ q26.heap.size := Nat.le_trans hsz hb.size
                    clear hb
                    clear hHeld
                    refine hK.out _ _ hB (fun hHeld => ?_)
                    clear hK K
                    try simp only [Act.put, List.setIfInBounds_toArray, List.set_cons_zero, List.set_cons_succ]
                    refine oneL (i := 6) rfl (by kernel_rfl) (fun K hK => ?_)
                    refine step_append_lies _ rfl (.tmp 55) (.tmp 60) 41 rfl (H + 1 + 1) tEn' iE _ 4 32 Try.underlying41 hiE hzE0 hzE1 hzE2 rfl (by decide) (.slice (some ⟨eb2, 0, none⟩) n ec) n (endsC EK) (by simp [Act.eval, Act.put]) hE ⟨nE, 0, none⟩ 1 1 [.int .i64 eb9.k, .int .i64 eb9.a, .int .i64 eb9.to, .int .i64 eb9.el] (by simp [Act.eval, Act.put]) rfl (news4 hNE) (by simp [Value.oneCell']) (by decide) (by unfold maxLen; omega) (by omega) hsz _ rfl ?_
                    intro gE capE q27 hown hgrow hgl hlt9
                    have hb : Below (H + 1 + 1) q26 q27 := below_grown (Below.refl _ q26) hgrow hsz (fun i e => (own_lt5 hE e).2)
                    replace hO := own_other hO hgrow (own_ne hE hO (by decide))
                    replace hNO := blk_grown hNO hgrow (own_blk_ne hE hNO (by decide))
                    replace hE := hown
                    replace hB : Below (H + 1 + 1) W2 q27 := hB.trans hb
                    replace hsz : H + 1 + 1 ≤ q27.heap.size := Nat.le_trans hsz hb.size
                    clear hb hgrow hown hgl hlt9 hNE
                    clear hHeld
                    refine hK.out _ _ hB (fun hHeld => ?_)
                    clear hK K
                    try simp only [Act.put, List.setIfInBounds_toArray, List.set_cons_zero, List.set_cons_succ]
                    refine oneL (i := 13) rfl (by kernel_rfl) (fun K hK => ?_)
                    refine step_append_lies _ rfl (.tmp 62) (.tmp 67) 31 rfl (H + 1 + 1) tI1 iO _ 1 8 Try.underlying31 hiO hzO0 hzO1 hzO2 rfl (by decide) (.slice (some ⟨ob9, 0, none⟩) n oc) n (ints ok) (by simp [Act.eval, Act.put]) hO ⟨nO, 0, none⟩ 1 1 [.int .i64 (o9 : Nat)] (by simp [Act.eval, Act.put]) rfl (news1 hNO) (by simp [Value.oneCell']) (by decide) (by unfold maxLen; omega) (by omega) hsz _ rfl ?_
                    intro gO capO q28 hown hgrow hgl hlt9
                    have hb : Below (H + 1 + 1) q27 q28 := below_grown (Below.refl _ q27) hgrow hsz (fun i e => (own_lt5 hO e).2)
                    replace hE := own_other hE hgrow (own_ne hO hE (by decide))
                    replace hO := hown
                    replace hB : Below (H + 1 + 1) W2 q28 := hB.trans hb
                    clear hb hgrow hown hgl hlt9 hNO
                    clear hHeld
                    refine hK.out _ _ hB (fun hHeld => ?_)
                    clear hK K
                    try simp only [Act.put, List.setIfInBounds_toArray, List.set_cons_zero, List.set_cons_succ]
                    refine tQ 14 hHeld ?_
                    try simp only [Act.put, List.setIfInBounds_toArray, List.set_cons_zero, List.set_cons_succ]
                    refine tQ 15 hHeld ?_
                    try simp only [Act.put, List.setIfInBounds_toArray, List.set_cons_zero, List.set_cons_succ]
                    refine wpAnyH_done (by kernel_rfl) ?_ _
                    have HFF := Lib.hid (And.intro hE (And.intro hO hB))
                    clear hE hO hB hsz hHeld
                    go_wp2_with fail
                    go_roundw
                    case rel =>
                      exact ⟨F2, EK ++ [eb9], ok ++ [o9], n + 1, HNX.out.1, by omega, by rw [List.length_append, HNX.out.2.2.2.2.1]; rfl, by omega, by omega, HNX.out.2.1, HNX.out.2.2.1, by rw [List.length_append, HNX.out.2.2.2.2.2.1]; rfl, HNX.out.2.2.2.1, by rw [endsC_snoc]; exact HFF.out.1, by rw [ints_snoc]; exact HFF.out.2.1, HFF.out.2.2⟩
                    case measure => show 401 - (n + 1) < 401 - n; omega
                · go_simp
                  obtain ⟨q29, hq29⟩ : ∃ x, x = q0.alloc (.cells #[.int .i64 (o9 : Nat)] tI1) := ⟨_, rfl⟩
                  obtain ⟨nO, hnO⟩ : ∃ x, x = q0.heap.size := ⟨_, rfl⟩
                  rw [← hq29, ← hnO]
                  have hb : Below q0.heap.size q0 q29 := by rw [hq29]; exact (Below.refl _ _).alloc (Nat.le_refl _) _
                  have hNO : Blk q29 nO tI1 #[.int .i64 (o9 : Nat)] := by rw [hq29, hnO]; exact Blk.new _ _ _
                  have hltnO : ∀ i, i < q0.heap.size → i < nO := fun i hi => by omega
                  have hnenO := fun i hi => hltnO i (own_lt5 hO (i := i) hi).1
                  clear hq29 hnO hltnO
                  replace hE := own_on hE hb
                  replace hO := own_on hO hb
                  replace hB : Below (H + 1 + 1) W2 q29 := hB.trans (hb.mono hsz)
                  replace hsz : H + 1 + 1 ≤ q29.heap.size := Nat.le_trans hsz hb.size
                  clear hb
                  clear hHeld
                  refine hK.out _ _ hB (fun hHeld => ?_)
                  clear hK K
                  try simp only [Act.put, List.setIfInBounds_toArray, List.set_cons_zero, List.set_cons_succ]
                  refine oneL (i := 5) rfl (by kernel_rfl) (fun K hK => ?_)
                  go_simp
                  obtain ⟨q30, hq30⟩ : ∃ x, x = q29.alloc (.cells #[.int .i64 eb9.k, .int .i64 eb9.a, .int .i64 eb9.to, .int .i64 eb9.el] tEn') := ⟨_, rfl⟩
                  obtain ⟨nE, hnE⟩ : ∃ x, x = q29.heap.size := ⟨_, rfl⟩
                  rw [← hq30, ← hnE]
                  have hb : Below q29.heap.size q29 q30 := by rw [hq30]; exact (Below.refl _ _).alloc (Nat.le_refl _) _
                  have hNE : Blk q30 nE tEn' #[.int .i64 eb9.k, .int .i64 eb9.a, .int .i64 eb9.to, .int .i64 eb9.el] := by rw [hq30, hnE]; exact Blk.new _ _ _
                  have hltnE : ∀ i, i < q29.heap.size → i < nE := fun i hi => by omega
                  have hnenE := fun i hi => hltnE i (own_lt5 hE (i := i) hi).1
                  clear hq30 hnE hltnE
                  replace hE := own_on hE hb
                  replace hO := own_on hO hb
                  replace hNO := hNO.on hb
                  replace hB : Below (H + 1 + 1) W2 q30 := hB.trans (hb.mono hsz)
                  replace hsz : H + 1 + 1 ≤ q30.heap.size := Nat.le_trans hsz hb.size
                  clear hb
                  clear hHeld
                  refine hK.out _ _ hB (fun hHeld => ?_)
                  clear hK K
                  try simp only [Act.put, List.setIfInBounds_toArray, List.set_cons_zero, List.set_cons_succ]
                  refine oneL (i := 6) rfl (by kernel_rfl) (fun K hK => ?_)
                  refine step_append_lies _ rfl (.tmp 55) (.tmp 60) 41 rfl (H + 1 + 1) tEn' iE _ 4 32 Try.underlying41 hiE hzE0 hzE1 hzE2 rfl (by decide) (.slice (some ⟨eb2, 0, none⟩) n ec) n (endsC EK) (by simp [Act.eval, Act.put]) hE ⟨nE, 0, none⟩ 1 1 [.int .i64 eb9.k, .int .i64 eb9.a, .int .i64 eb9.to, .int .i64 eb9.el] (by simp [Act.eval, Act.put]) rfl (news4 hNE) (by simp [Value.oneCell']) (by decide) (by unfold maxLen; omega) (by omega) hsz _ rfl ?_
                  intro gE capE q31 hown hgrow hgl hlt9
                  have hb : Below (H + 1 + 1) q30 q31 := below_grown (Below.refl _ q30) hgrow hsz (fun i e => (own_lt5 hE e).2)
                  replace hO := own_other hO hgrow (own_ne hE hO (by decide))
                  replace hNO := blk_grown hNO hgrow (own_blk_ne hE hNO (by decide))
                  replace hE := hown
                  replace hB : Below (H + 1 + 1) W2 q31 := hB.trans hb
                  replace hsz : H + 1 + 1 ≤ q31.heap.size := Nat.le_trans hsz hb.size
                  clear hb hgrow hown hgl hlt9 hNE
                  clear hHeld
                  refine hK.out _ _ hB (fun hHeld => ?_)
                  clear hK K
                  try simp only [Act.put, List.setIfInBounds_toArray, List.set_cons_zero, List.set_cons_succ]
                  refine oneL (i := 13) rfl (by kernel_rfl) (fun K hK => ?_)
                  refine step_append_lies _ rfl (.tmp 62) (.tmp 67) 31 rfl (H + 1 + 1) tI1 iO _ 1 8 Try.underlying31 hiO hzO0 hzO1 hzO2 rfl (by decide) (.slice (some ⟨ob9, 0, none⟩) n oc) n (ints ok) (by simp [Act.eval, Act.put]) hO ⟨nO, 0, none⟩ 1 1 [.int .i64 (o9 : Nat)] (by simp [Act.eval, Act.put]) rfl (news1 hNO) (by simp [Value.oneCell']) (by decide) (by unfold maxLen; omega) (by omega) hsz _ rfl ?_
                  intro gO capO q32 hown hgrow hgl hlt9
                  have hb : Below (H + 1 + 1) q31 q32 := below_grown (Below.refl _ q31) hgrow hsz (fun i e => (own_lt5 hO e).2)
                  replace hE := own_other hE hgrow (own_ne hO hE (by decide))
                  replace hO := hown
                  replace hB : Below (H + 1 + 1) W2 q32 := hB.trans hb
                  clear hb hgrow hown hgl hlt9 hNO
                  clear hHeld
                  refine hK.out _ _ hB (fun hHeld => ?_)
                  clear hK K
                  try simp only [Act.put, List.setIfInBounds_toArray, List.set_cons_zero, List.set_cons_succ]
                  refine tQ 14 hHeld ?_
                  try simp only [Act.put, List.setIfInBounds_toArray, List.set_cons_zero, List.set_cons_succ]
                  refine tQ 15 hHeld ?_
                  try simp only [Act.put, List.setIfInBounds_toArray, List.set_cons_zero, List.set_cons_succ]
                  refine wpAnyH_done (by kernel_rfl) ?_ _
                  have HFF := Lib.hid (And.intro hE (And.intro hO hB))
                  clear hE hO hB hsz hHeld
                  go_wp2_with fail
                  go_roundw
                  case rel =>
                    exact ⟨F2, EK ++ [eb9], ok ++ [o9], n + 1, HNX.out.1, by omega, by rw [List.length_append, HNX.out.2.2.2.2.1]; rfl, by omega, by omega, HNX.out.2.1, HNX.out.2.2.1, by rw [List.length_append, HNX.out.2.2.2.2.2.1]; rfl, HNX.out.2.2.2.1, by rw [endsC_snoc]; exact HFF.out.1, by rw [ints_snoc]; exact HFF.out.2.1, HFF.out.2.2⟩
                  case measure => show 401 - (n + 1) < 401 - n; omega
              · go_simp
                obtain ⟨q33, hq33⟩ : ∃ x, x = q0.alloc (.cells #[.int .i64 (o9 : Nat)] tI1) := ⟨_, rfl⟩
                obtain ⟨nO, hnO⟩ : ∃ x, x = q0.heap.size := ⟨_, rfl⟩
                rw [← hq33, ← hnO]
                have hb : Below q0.heap.size q0 q33 := by rw [hq33]; exact (Below.refl _ _).alloc (Nat.le_refl _) _
                have hNO : Blk q33 nO tI1 #[.int .i64 (o9 : Nat)] := by rw [hq33, hnO]; exact Blk.new _ _ _
                have hltnO : ∀ i, i < q0.heap.size → i < nO := fun i hi => by omega
                have hnenO := fun i hi => hltnO i (own_lt5 hO (i := i) hi).1
                clear hq33 hnO hltnO
                replace hE := own_on hE hb
                replace hO := own_on hO hb
                replace hB : Below (H + 1 + 1) W2 q33 := hB.trans (hb.mono hsz)
                replace hsz : H + 1 + 1 ≤ q33.heap.size := Nat.le_trans hsz hb.size
                clear hb
                clear hHeld
                refine hK.out _ _ hB (fun hHeld => ?_)
                clear hK K
                try simp only [Act.put, List.setIfInBounds_toArray, List.set_cons_zero, List.set_cons_succ]
                refine oneL (i := 4) rfl (by kernel_rfl) (fun K hK => ?_)
                obtain ⟨e0, e1, e2, e3, el⟩ := ecells hE HNX.out.2.2.2.2.2.2.1 rfl hbN
                go_simp
                clear e0 e1 e2 e3 el
                clear hHeld
                refine hK.out _ _ hB (fun hHeld => ?_)
                clear hK K
                try simp only [Act.put, List.setIfInBounds_toArray, List.set_cons_zero, List.set_cons_succ]
                refine oneL (i := 5) rfl (by kernel_rfl) (fun K hK => ?_)
                go_simp
                obtain ⟨q34, hq34⟩ : ∃ x, x = q33.alloc (.cells #[.int .i64 eb9.k, .int .i64 eb9.a, .int .i64 eb9.to, .int .i64 eb9.el] tEn') := ⟨_, rfl⟩
                obtain ⟨nE, hnE⟩ : ∃ x, x = q33.heap.size := ⟨_, rfl⟩
                rw [← hq34, ← hnE]
                have hb : Below q33.heap.size q33 q34 := by rw [hq34]; exact (Below.refl _ _).alloc (Nat.le_refl _) _
                have hNE : Blk q34 nE tEn' #[.int .i64 eb9.k, .int .i64 eb9.a, .int .i64 eb9.to, .int .i64 eb9.el] := by rw [hq34, hnE]; exact Blk.new _ _ _
                have hltnE : ∀ i, i < q33.heap.size → i < nE := fun i hi => by omega
                have hnenE := fun i hi => hltnE i (own_lt5 hE (i := i) hi).1
                clear hq34 hnE hltnE
                replace hE := own_on hE hb
                replace hO := own_on hO hb
                replace hNO := hNO.on hb
                replace hB : Below (H + 1 + 1) W2 q34 := hB.trans (hb.mono hsz)
                replace hsz : H + 1 + 1 ≤ q34.heap.size := Nat.le_trans hsz hb.size
                clear hb
                clear hHeld
                refine hK.out _ _ hB (fun hHeld => ?_)
                clear hK K
                try simp only [Act.put, List.setIfInBounds_toArray, List.set_cons_zero, List.set_cons_succ]
                refine oneL (i := 6) rfl (by kernel_rfl) (fun K hK => ?_)
                refine step_append_lies _ rfl (.tmp 55) (.tmp 60) 41 rfl (H + 1 + 1) tEn' iE _ 4 32 Try.underlying41 hiE hzE0 hzE1 hzE2 rfl (by decide) (.slice (some ⟨eb2, 0, none⟩) n ec) n (endsC EK) (by simp [Act.eval, Act.put]) hE ⟨nE, 0, none⟩ 1 1 [.int .i64 eb9.k, .int .i64 eb9.a, .int .i64 eb9.to, .int .i64 eb9.el] (by simp [Act.eval, Act.put]) rfl (news4 hNE) (by simp [Value.oneCell']) (by decide) (by unfold maxLen; omega) (by omega) hsz _ rfl ?_
                intro gE capE q35 hown hgrow hgl hlt9
                have hb : Below (H + 1 + 1) q34 q35 := below_grown (Below.refl _ q34) hgrow hsz (fun i e => (own_lt5 hE e).2)
                replace hO := own_other hO hgrow (own_ne hE hO (by decide))
                replace hNO := blk_grown hNO hgrow (own_blk_ne hE hNO (by decide))
                replace hE := hown
                replace hB : Below (H + 1 + 1) W2 q35 := hB.trans hb
                replace hsz : H + 1 + 1 ≤ q35.heap.size := Nat.le_trans hsz hb.size
                clear hb hgrow hown hgl hlt9 hNE
                clear hHeld
                refine hK.out _ _ hB (fun hHeld => ?_)
                clear hK K
                try simp only [Act.put, List.setIfInBounds_toArray, List.set_cons_zero, List.set_cons_succ]
                refine oneL (i := 13) rfl (by kernel_rfl) (fun K hK => ?_)
                refine step_append_lies _ rfl (.tmp 62) (.tmp 67) 31 rfl (H + 1 + 1) tI1 iO _ 1 8 Try.underlying31 hiO hzO0 hzO1 hzO2 rfl (by decide) (.slice (some ⟨ob9, 0, none⟩) n oc) n (ints ok) (by simp [Act.eval, Act.put]) hO ⟨nO, 0, none⟩ 1 1 [.int .i64 (o9 : Nat)] (by simp [Act.eval, Act.put]) rfl (news1 hNO) (by simp [Value.oneCell']) (by decide) (by unfold maxLen; omega) (by omega) hsz _ rfl ?_
                intro gO capO q36 hown hgrow hgl hlt9
                have hb : Below (H + 1 + 1) q35 q36 := below_grown (Below.refl _ q35) hgrow hsz (fun i e => (own_lt5 hO e).2)
                replace hE := own_other hE hgrow (own_ne hO hE (by decide))
                replace hO := hown
                replace hB : Below (H + 1 + 1) W2 q36 := hB.trans hb
                clear hb hgrow hown hgl hlt9 hNO
                clear hHeld
                refine hK.out _ _ hB (fun hHeld => ?_)
                clear hK K
                try simp only [Act.put, List.setIfInBounds_toArray, List.set_cons_zero, List.set_cons_succ]
                refine tQ 14 hHeld ?_
                try simp only [Act.put, List.setIfInBounds_toArray, List.set_cons_zero, List.set_cons_succ]
                refine tQ 15 hHeld ?_
                try simp only [Act.put, List.setIfInBounds_toArray, List.set_cons_zero, List.set_cons_succ]
                refine wpAnyH_done (by kernel_rfl) ?_ _
                have HFF := Lib.hid (And.intro hE (And.intro hO hB))
                clear hE hO hB hsz hHeld
                go_wp2_with fail
                go_roundw
                case rel =>
                  exact ⟨F2, EK ++ [eb9], ok ++ [o9], n + 1, HNX.out.1, by omega, by rw [List.length_append, HNX.out.2.2.2.2.1]; rfl, by omega, by omega, HNX.out.2.1, HNX.out.2.2.1, by rw [List.length_append, HNX.out.2.2.2.2.2.1]; rfl, HNX.out.2.2.2.1, by rw [endsC_snoc]; exact HFF.out.1, by rw [ints_snoc]; exact HFF.out.2.1, HFF.out.2.2⟩
                case measure => show 401 - (n + 1) < 401 - n; omega
end Go.Proofs.Ytjmlpbnejcfnhaa
