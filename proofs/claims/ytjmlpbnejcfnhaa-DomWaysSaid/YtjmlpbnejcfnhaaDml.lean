/-
  Layer dom: walk of sources.
-/
import Derived.Test.YtjmlpbnejcfnhaaDmk
namespace Go.Proofs.Ytjmlpbnejcfnhaa
open Go Go.RowKit Go.Maps
set_option linter.unusedVariables false
set_option linter.unusedSimpArgs false

/-- A visit's parts, as they are read. -/
structure WkP (w : World) (lo hi tb : Nat) (vals : List Value) (nv bv pv ov : Value) (T : List (List Nat)) (k : Wk) : Prop where
  t : TosV w lo hi tb vals T
  l : hi ≤ w.heap.size ∧ tb < w.heap.size
  n : RdV w w.heap.size nv k.num
  b : RdV w w.heap.size bv (nz k.blk)
  p : RdV w w.heap.size pv (nz k.par)
  o : RdV w w.heap.size ov (nz k.ord)
theorem WkP.on {w w' : World} {lo hi tb : Nat} {vals : List Value} {nv bv pv ov : Value} {T : List (List Nat)} {k : Wk} (h : WkP w lo hi tb vals nv bv pv ov T k) (hb : Below w.heap.size w w') : WkP w' lo hi tb vals nv bv pv ov T k :=
  ⟨h.t.keep (fun g _ hg => hb.block g (by have := h.l; omega)) (hb.block tb h.l.2), ⟨Nat.le_trans h.l.1 hb.size, Nat.lt_of_lt_of_le h.l.2 hb.size⟩, h.n.on hb, h.b.on hb, h.p.on hb, h.o.on hb⟩
theorem WkO.parts {w : World} {a : Array Value} {T : List (List Nat)} {k : Wk} (h : WkO w a T k) : ∃ lo hi tb vals nv bv pv ov, a = #[.slice (some ⟨tb, 0, none⟩) T.length T.length, nv, bv, pv, ov] ∧ WkP w lo hi tb vals nv bv pv ov T k := by
  obtain ⟨lo, hi, tb, vals, nv, bv, pv, ov, h1, h2, h3, h4, h5, h6, h7⟩ := h.x
  exact ⟨lo, hi, tb, vals, nv, bv, pv, ov, h1, h2, h3, h4, h5, h6, h7⟩
/-- One edge goes into its target's row. -/
def sstep (k : Wk) (n : Nat) (fr : List (List Nat)) (x : Nat) : List (List Nat) := fr.set (k.num.getD x 0).toNat (fr.getD (k.num.getD x 0).toNat [] ++ [n])
theorem srcStep_eq (T : List (List Nat)) (k : Wk) (n : Nat) (fr : List (List Nat)) : srcStep T k n fr = (T.getD (k.blk.getD n 0) []).foldl (sstep k n) fr := rfl
/-- Rows of numbers, all of them one's own, apart from one another. -/
structure SrcR (w : World) (B sb K : Nat) (vals : List Value) (fr : List (List Nat)) : Prop where
  len : vals.length = K
  fl : fr.length = K
  lt : sb < B
  blk : Blk w sb tIs vals.toArray
  row : ∀ (j : Nat) (v : Value) (l : List Nat), vals[j]? = some v → fr[j]? = some l → w.ownsRow B tI1 1 v l.length (ints l)
  ne : ∀ (i j : Nat) (v u : Value), i ≠ j → vals[i]? = some v → vals[j]? = some u → ∀ b, v.ownBlock = some b → u.ownBlock ≠ some b
theorem SrcR.same {w w' : World} {B sb K : Nat} {vals : List Value} {fr : List (List Nat)} (h : SrcR w B sb K vals fr) (k : ∀ i, sb ≤ i → i < w.heap.size → w'.heap[i]? = w.heap[i]?) : SrcR w' B sb K vals fr :=
  ⟨h.len, h.fl, h.lt, (k sb (Nat.le_refl _) h.blk.lt).trans h.blk, fun j v l h1 h2 => rowKeep (h.row j v l h1 h2) fun i hi => by
    have h3 := own_lt (h.row j v l h1 h2) hi
    have := h.lt
    exact k i (by omega) h3.1, h.ne⟩
theorem SrcR.alloc {w : World} {B sb K : Nat} {vals : List Value} {fr : List (List Nat)} (h : SrcR w B sb K vals fr) (o : Obj) : SrcR (w.alloc o) B sb K vals fr :=
  h.same fun i _ hi => ((Below.refl w.heap.size w).alloc (Nat.le_refl _) o).block i hi
theorem SrcR.app {w w' : World} {B sb K : Nat} {vals : List Value} {fr : List (List Nat)} (h : SrcR w B sb K vals fr) {j n g cap x : Nat} {v : Value} {l : List Nat} (hv : vals[j]? = some v) (hl : fr[j]? = some l) (hn : n = l.length)
    (hr : w'.ownsRow B tI1 1 (.slice (some ⟨g, 0, none⟩) (n + 1) cap) (n + 1) (ints l ++ [.int .i64 (x : Int)])) (hg : w.grownBy w' v.ownBlock) (hat : v.ownBlock = some g ∨ g = w.heap.size) :
    SrcR (w'.setCell ⟨sb, j, none⟩ (.slice (some ⟨g, 0, none⟩) (n + 1) cap)) B sb K (vals.set j (.slice (some ⟨g, 0, none⟩) (n + 1) cap)) (fr.set j (l ++ [x])) := by
  have hlt := h.lt
  have hj : j < vals.length := (List.getElem?_eq_some_iff.1 hv).1
  have hj2 : j < fr.length := (List.getElem?_eq_some_iff.1 hl).1
  subst hn
  have far : ∀ {n : Nat} {u : Value} {xs : List Value}, w'.ownsRow B tI1 1 u n xs → (w'.setCell ⟨sb, j, none⟩ (.slice (some ⟨g, 0, none⟩) (l.length + 1) cap)).ownsRow B tI1 1 u n xs := fun hp => rowKeep hp fun i hi => by
    have h3 := own_lt hp hi
    exact Below.heap_setCell w' _ _ i (by simp; omega)
  refine ⟨by simp [h.len], by simp [h.fl], hlt, ?_, fun i u r hu hr2 => ?_, fun i m u t him hu ht b hb => ?_⟩
  · have h2 := (blk_grown h.blk hg (fun e => by have := (own_lt (h.row j v l hv hl) e).2; omega)).set_ j (.slice (some ⟨g, 0, none⟩) (l.length + 1) cap)
    rw [List.setIfInBounds_toArray] at h2
    exact h2
  · by_cases e : j = i
    · subst e
      rw [List.getElem?_set_self hj] at hu
      rw [List.getElem?_set_self hj2] at hr2
      obtain rfl := Option.some.inj hu
      obtain rfl := Option.some.inj hr2
      rw [ints_snoc, List.length_append]
      exact far hr
    · rw [List.getElem?_set_ne e] at hu hr2
      exact far (row_other (h.row i u r hu hr2) hg (h.ne j i v u e hv hu))
  · by_cases e : j = i
    · subst e
      rw [List.getElem?_set_self hj] at hu
      rw [List.getElem?_set_ne him] at ht
      obtain rfl := Option.some.inj hu
      cases hb
      have hm : m < fr.length := by rw [h.fl, ← h.len]; exact (List.getElem?_eq_some_iff.1 ht).1
      exact own_new (h.row m t _ ht (List.getElem?_eq_getElem hm)) (h.ne j m v t him hv ht) hat
    · rw [List.getElem?_set_ne e] at hu
      by_cases e2 : j = m
      · subst e2
        rw [List.getElem?_set_self hj] at ht
        obtain rfl := Option.some.inj ht
        intro hb2
        cases hb2
        have hm : i < fr.length := by rw [h.fl, ← h.len]; exact (List.getElem?_eq_some_iff.1 hu).1
        exact own_new (h.row i u _ hu (List.getElem?_eq_getElem hm)) (h.ne j i v u e hv hu) hat hb
      · rw [List.getElem?_set_ne e2] at ht
        exact h.ne i m u t him hu ht b hb
theorem SrcR.none (W : World) (K : Nat) : SrcR (W.alloc (.cells (List.replicate K (Value.slice none 0 0)).toArray tIs)) (W.heap.size + 1) W.heap.size K (List.replicate K (.slice none 0 0)) (List.replicate K []) := by
  refine ⟨by simp, by simp, by omega, Blk.new W tIs _, fun j v l h1 h2 => ?_, fun i j v u _ h1 h2 b hb => ?_⟩
  · rw [List.getElem?_replicate] at h1 h2
    split at h1
    · rename_i e
      rw [if_pos e] at h2
      obtain rfl := Option.some.inj h1
      obtain rfl := Option.some.inj h2
      exact World.ownsRow_nil _ _ _ _
    · cases h1
  · rw [List.getElem?_replicate] at h1
    split at h1
    · obtain rfl := Option.some.inj h1
      cases hb
    · cases h1
/-- All that the visit has numbered lies within, and what it leads to is numbered. -/
structure WkC (T : List (List Nat)) (k : Wk) : Prop where
  ok : k.Ok T.length
  hK : k.blk.length ≤ 400
  hN : T.length ≤ 400
  cl : ∀ (i b : Nat), k.blk[i]? = some b → ∀ t ∈ T.getD b [], t ∈ k.blk
  two : ∀ (b : Nat), (T.getD b []).length ≤ 2
theorem WkC.num {T : List (List Nat)} {k : Wk} (h : WkC T k) {i b t : Nat} (hb : k.blk[i]? = some b) (ht : t ∈ T.getD b []) : ∃ j : Nat, k.num[t]? = some (j : Int) ∧ j < k.blk.length ∧ t < T.length := by
  obtain ⟨j, hj⟩ := List.mem_iff_getElem?.1 (h.cl i b hb t ht)
  exact ⟨j, (h.ok.b j t hj).2, (List.getElem?_eq_some_iff.1 hj).1, (h.ok.b j t hj).1⟩
theorem own_slice {w : World} {base n : Nat} {p : Value} {xs : List Value} (hp : w.ownsRow base tI1 1 p n xs) : ∃ A c, p = .slice A n c := by
  rcases hp.2 with ⟨rfl, e⟩ | ⟨g, cap, cur, rfl, _⟩
  · exact ⟨_, _, by rw [e]⟩
  · exact ⟨_, _, rfl⟩
theorem below_grown {B : Nat} {w W w2 : World} {r : Option Nat} (h : Below B w W) (hg : W.grownBy w2 r) (hB : B ≤ W.heap.size) (hr : ∀ i, r = some i → B ≤ i) : Below B w w2 :=
  h.trans ((Fr.grown (R := B) (S := fun _ => False) hg hB fun k hk => .inr (hr k hk)).below (Nat.le_refl _) (fun _ h => h.elim))
theorem getD_set_len {fr : List (List Nat)} {j n b : Nat} (hb : ∀ i, (fr.getD i []).length ≤ b) (hj : j < fr.length) (i : Nat) : ((fr.set j (fr.getD j [] ++ [n])).getD i []).length ≤ b + 1 := by
  by_cases e : j = i
  · subst e
    rw [List.getD_eq_getElem?_getD, List.getElem?_set_self hj]
    simpa using hb j
  · rw [List.getD_eq_getElem?_getD, List.getElem?_set_ne e, ← List.getD_eq_getElem?_getD]
    exact Nat.le_succ_of_le (hb i)
set_option maxHeartbeats 8000000 in
set_option maxRecDepth 100000 in
theorem sources_any {w : World} {a : Array Value} {T : List (List Nat)} {k : Wk} (h : WkO w a T k) (hc : WkC T k) :
    Calls Try.prog 67 #[.agg a] w fun e w' => ∃ sb vals, e = .returned (.slice (some ⟨sb, 0, none⟩) k.blk.length k.blk.length) ∧ w.heap.size ≤ sb ∧ SrcR w' (sb + 1) sb k.blk.length vals (srcsM T k) ∧ Below w.heap.size w w' := by
  obtain ⟨lo, hi, tb, vs, nv, bv, pv, ov, rfl, hp⟩ := h.parts
  have hp0 : WkP (w.alloc (.cells #[.slice (some ⟨tb, 0, none⟩) T.length T.length, nv, bv, pv, ov] tWk)) lo hi tb vs nv bv pv ov T k := hp.on ((Below.refl _ _).alloc (Nat.le_refl _) _)
  obtain ⟨nA, nc, rfl⟩ : ∃ A c, nv = .slice A T.length c := by
    obtain ⟨A, c, e, _⟩ := hp.n
    exact ⟨A, c, by rw [e, hc.ok.num]⟩
  obtain ⟨bA, bc, rfl⟩ : ∃ A c, bv = .slice A k.blk.length c := by
    obtain ⟨A, c, e, _⟩ := hp.b
    exact ⟨A, c, by rw [e]; simp [nz]⟩
  obtain ⟨N, hN⟩ : ∃ N, T.length = N := ⟨_, rfl⟩
  obtain ⟨K, hK⟩ : ∃ K, k.blk.length = K := ⟨_, rfl⟩
  have hKm : K ≤ 400 := by rw [← hK]; exact hc.hK
  have hNm : N ≤ 400 := by rw [← hN]; exact hc.hN
  rw [hN, hK] at hp0
  rw [hN, hK]
  have hmk := fun W => make_rows K (by omega) W
  have HC := Lib.hid (And.intro hc (And.intro hN hK))
  clear h hp hc
  go_enter Try.func67, Try.ntmps67
  have b1 : (w.alloc (.cells #[.slice (some ⟨tb, 0, none⟩) N N, .slice nA N nc, .slice bA K bc, pv, ov] tWk)).cell? ⟨w.heap.size, 1, none⟩ = some (.slice nA N nc) := (Blk.new w tWk _).cell 1
  have b2 : (w.alloc (.cells #[.slice (some ⟨tb, 0, none⟩) N N, .slice nA N nc, .slice bA K bc, pv, ov] tWk)).cell? ⟨w.heap.size, 2, none⟩ = some (.slice bA K bc) := (Blk.new w tWk _).cell 2
  have hbx := Blk.new w tWk #[.slice (some ⟨tb, 0, none⟩) N N, .slice nA N nc, .slice bA K bc, pv, ov]
  have hsz0 := size1 w (.cells #[.slice (some ⟨tb, 0, none⟩) N N, .slice nA N nc, .slice bA K bc, pv, ov] tWk)
  have hbl := hbx.lt
  go_upto_region 1 with (fail)
  go_wp2_with fail
  have hsr := SrcR.none (w.alloc (.cells #[.slice (some ⟨tb, 0, none⟩) N N, .slice nA N nc, .slice bA K bc, pv, ov] tWk)) K
  have hbe := (Below.refl _ (w.alloc (.cells #[.slice (some ⟨tb, 0, none⟩) N N, .slice nA N nc, .slice bA K bc, pv, ov] tWk))).alloc (Nat.le_refl _) (.cells (List.replicate K (Value.slice none 0 0)).toArray tIs)
  have hw0 : Below w.heap.size w (w.alloc (.cells #[.slice (some ⟨tb, 0, none⟩) N N, .slice nA N nc, .slice bA K bc, pv, ov] tWk)) := (Below.refl _ _).alloc (Nat.le_refl _) _
  generalize w.alloc (.cells #[.slice (some ⟨tb, 0, none⟩) N N, .slice nA N nc, .slice bA K bc, pv, ov] tWk) = W0 at *
  obtain ⟨sb, hsb⟩ : ∃ sb, W0.heap.size = sb := ⟨_, rfl⟩
  obtain ⟨cb, hcb⟩ : ∃ cb, w.heap.size = cb := ⟨_, rfl⟩
  rw [hsb] at hsr hbe hbl hsz0
  rw [hcb] at hbx b1 b2 hsz0 hbl hw0
  try simp only [hsb]
  try simp only [hcb]
  rw [← replA] at hsr hbe
  try simp only [← replA]
  generalize W0.alloc (.cells (Array.replicate K (Value.slice none 0 0)) tIs) = W1 at *
  have H0 := Lib.hid (And.intro hp0 (And.intro hbx (And.intro hsr (And.intro hbe (And.intro hsb (And.intro hw0 hcb))))))
  clear hp0 hbx hsr hbe hsb hmk b1 b2 hw0 hcb
  subst hsz0
  go_loopw [15] (fun v wr => ∃ (n : Nat) (vals : List Value), n ≤ K ∧ v = .int .i64 n ∧ SrcR wr (cb + 1 + 1) (cb + 1) K vals ((List.range n).foldl (fun fr n => srcStep T k n fr) (List.replicate K [])) ∧ Below (cb + 1) W0 wr ∧ (∀ j, (((List.range n).foldl (fun fr n => srcStep T k n fr) (List.replicate K [])).getD j []).length ≤ 2 * n)) (fun v _ => K - (intOf v).toNat)
  case atStart => exact ⟨0, _, by omega, rfl, H0.out.2.2.1, H0.out.2.2.2.1, fun j => by rw [List.getD_eq_getElem?_getD]; simp only [List.range_zero, List.foldl_nil, List.getElem?_replicate]; split <;> simp⟩
  case round =>
    obtain ⟨n, vals, hn, rfl, hsr, hbe, hlen⟩ := hrel
    obtain ⟨wo, hwo⟩ : ∃ x, x = wr := ⟨_, rfl⟩
    subst hwo
    obtain ⟨fr, hfr⟩ : ∃ fr, (List.range n).foldl (fun fr n => srcStep T k n fr) (List.replicate K []) = fr := ⟨_, rfl⟩
    rw [hfr] at hsr hlen
    by_cases hlt : n < K
    · obtain ⟨at_, hat⟩ : ∃ b, k.blk[n]? = some b := ⟨_, List.getElem?_eq_getElem (by rw [HC.out.2.2]; exact hlt)⟩
      obtain ⟨g1, o1, y1, rfl, hg1, hy1, hc1⟩ := H0.out.1.b.at hlt
      obtain rfl : y1 = (at_ : Int) := by
        unfold nz at hy1
        rw [List.getElem?_map, hat] at hy1
        exact (Option.some.inj hy1).symm
      have haN : at_ < N := by rw [← HC.out.2.1]; exact (HC.out.1.ok.b n at_ hat).1
      obtain ⟨rv, hvs, hrc, hrd⟩ := H0.out.1.t.at (a := at_) (by rw [HC.out.2.1]; exact haN)
      obtain ⟨rA, rc, rfl, hrl, hrm⟩ := hrd.sl
      obtain ⟨L, hL⟩ : ∃ L, T.getD at_ [] = L := ⟨_, rfl⟩
      rw [hL] at hrc hrd hrl hvs
      rw [show (nz L).length = L.length by simp [nz]] at hrc hrl hvs
      obtain ⟨ln, hln⟩ : ∃ x, L.length = x := ⟨_, rfl⟩
      rw [hln] at hrc hrl hvs
      have hln2 : ln ≤ 2 := by rw [← hln, ← hL]; exact HC.out.1.two at_
      have hg1s : g1 < (cb + 1) := by rw [← H0.out.2.2.2.2.1]; exact hg1
      have htbs : tb < (cb + 1) := by rw [← H0.out.2.2.2.2.1]; exact H0.out.1.l.2
      have hcbs : cb < (cb + 1) := hbl
      have HL : Hid (∀ W, Below (cb + 1) W0 W → W.cell? ⟨cb, 0, none⟩ = some (.slice (some ⟨tb, 0, none⟩) N N) ∧ W.cell? ⟨cb, 1, none⟩ = some (.slice nA N nc) ∧ W.cell? ⟨cb, 2, none⟩ = some (.slice (some ⟨g1, o1, none⟩) K bc) ∧ W.cell? ⟨g1, o1 + n, none⟩ = some (.int .i64 at_) ∧ W.cell? ⟨tb, at_, none⟩ = some (.slice rA ln rc) ∧ cb < W.heap.size ∧ g1 < W.heap.size ∧ tb < W.heap.size) := Lib.hid fun W hW => by
        have hb := H0.out.2.1.below hW hcbs
        have h1 := Nat.lt_of_lt_of_le (Nat.lt_of_lt_of_le hcbs (Nat.le_of_eq H0.out.2.2.2.2.1.symm)) hW.size
        have h2 := hW.size
        have h3 := H0.out.2.2.2.2.1
        exact ⟨hb.cell 0, hb.cell 1, hb.cell 2, (hW.cell (p := ⟨g1, o1 + n, none⟩) hg1s).trans hc1, (hW.cell (p := ⟨tb, at_, none⟩) htbs).trans hrc, h1, by omega, by omega⟩
      obtain ⟨c0, c1, c2, d1, d2, l0, l1, l2⟩ := HL.out wo hbe
      obtain ⟨R, hR⟩ : ∃ R, L.foldl (sstep k n) fr = R := ⟨_, rfl⟩
      have HR := Lib.hid (And.intro hsr (And.intro hbe (And.intro hlen (And.intro hfr (And.intro hat (And.intro hL (And.intro hln (And.intro hR hvs))))))))
      have HRD := Lib.hid hrd
      clear hsr hbe hlen hfr hat hL hln hR hvs hrd hc1 hrc hy1 hg1
      go_wp2_with fail
      go_loopw [26] (fun v wq => ∃ (m : Nat) (vals2 : List Value) (fr2 : List (List Nat)), m ≤ ln ∧ v = .int .i64 m ∧ SrcR wq (cb + 1 + 1) (cb + 1) K vals2 fr2 ∧ Below (cb + 1) W0 wq ∧ (∀ j, (fr2.getD j []).length ≤ 2 * n + m) ∧ (L.drop m).foldl (sstep k n) fr2 = R) (fun v _ => ln - (intOf v).toNat)
      case atStart => exact ⟨0, vals, fr, by omega, rfl, HR.out.1, HR.out.2.1, HR.out.2.2.1, HR.out.2.2.2.2.2.2.2.1⟩
      case round =>
        obtain ⟨m, vals2, fr2, hm, rfl, hsr, hbe, hlen, hfold⟩ := hrel
        obtain ⟨wq, hwq⟩ : ∃ x, x = wr := ⟨_, rfl⟩
        subst hwq
        obtain ⟨c0, c1, c2, d1, d2, l0, l1, l2⟩ := HL.out wq hbe
        by_cases hml : m < ln
        · have hm2 : m < L.length := by rw [HR.out.2.2.2.2.2.2.1]; exact hml
          have hx9 := List.getElem?_eq_getElem hm2
          rw [← List.getElem_cons_drop hm2, List.foldl_cons] at hfold
          obtain ⟨j, hnj, hjK, hxN⟩ := HC.out.1.num HR.out.2.2.2.2.1 (t := L[m]) (by rw [HR.out.2.2.2.2.2.1]; exact List.getElem_mem hm2)
          rw [HC.out.2.1] at hxN
          rw [HC.out.2.2] at hjK
          generalize L[m] = x at *
          have hx0 : (nz L)[m]? = some (x : Int) := by unfold nz; rw [List.getElem?_map, hx9]; rfl
          obtain ⟨g2, o2, cc2, hv2, -, hg2, hc2⟩ := HRD.out.at hx0
          simp only [Value.slice.injEq] at hv2
          obtain ⟨rfl, -, -⟩ := hv2
          obtain ⟨g3, o3, y3, rfl, hg3, hy3, hc3⟩ := H0.out.1.n.at hxN
          obtain rfl : y3 = (j : Int) := by rw [hnj] at hy3; exact (Option.some.inj hy3).symm
          obtain ⟨l, hl⟩ : ∃ l, fr2[j]? = some l := ⟨_, List.getElem?_eq_getElem (by rw [hsr.fl]; exact hjK)⟩
          obtain ⟨rv, hrv⟩ : ∃ v, vals2[j]? = some v := ⟨_, List.getElem?_eq_getElem (by rw [hsr.len]; exact hjK)⟩
          obtain ⟨vA, vc, rfl⟩ := own_slice (hsr.row j rv l hrv hl)
          have hfs : fr2.getD j [] = l := by rw [List.getD_eq_getElem?_getD, hl]; rfl
          have hll : l.length ≤ 2 * n + m := by rw [← hfs]; exact hlen j
          obtain ⟨rn, hrn⟩ : ∃ x, l.length = x := ⟨_, rfl⟩
          rw [hrn] at hll hrv
          have hstep : sstep k n fr2 x = fr2.set j (fr2.getD j [] ++ [n]) := by
            unfold sstep
            rw [List.getD_eq_getElem?_getD (l := k.num), hnj]
            rfl
          rw [hstep] at hfold
          have hg2s : g2 < (cb + 1) := by have h1 := H0.out.1.l.1; have h2 := H0.out.2.2.2.2.1; omega
          have hg3s : g3 < (cb + 1) := by rw [← H0.out.2.2.2.2.1]; exact hg3
          have e0 : wq.cell? ⟨cb + 1, j, none⟩ = some (.slice vA rn vc) := by
            rw [hsr.blk.cell, List.getElem?_toArray]
            exact hrv
          have e1 : wq.cell? ⟨g2, o2 + m, none⟩ = some (.int .i64 x) := (hbe.cell (p := ⟨g2, o2 + m, none⟩) hg2s).trans hc2
          have e2 : wq.cell? ⟨g3, o3 + x, none⟩ = some (.int .i64 j) := (hbe.cell (p := ⟨g3, o3 + x, none⟩) hg3s).trans hc3
          have el := hsr.blk.lt
          have hg2l : g2 < wq.heap.size := World.block_lt_of_cell? wq _ e1
          have hg3l : g3 < wq.heap.size := World.block_lt_of_cell? wq _ e2
          have hsq : (cb + 1) ≤ wq.heap.size := Nat.le_of_lt el
          have hsr1 : SrcR (wq.alloc (.cells #[.int .i64 (n : Int)] tI1)).drew (cb + 1 + 1) (cb + 1) K vals2 fr2 := (hsr.alloc _).same fun _ _ _ => rfl
          have hbe1 : Below (cb + 1) W0 (wq.alloc (.cells #[.int .i64 (n : Int)] tI1)).drew := (hbe.alloc hsq _).trans (below_drewN _ _ 1)
          have hrow := hsr1.row j _ l hrv hl
          rw [hrn] at hrow
          have hnew : Blk (wq.alloc (.cells #[.int .i64 (n : Int)] tI1)).drew wq.heap.size tI1 #[.int .i64 (n : Int)] := Blk.new wq tI1 _
          have hsz1 : (cb + 1) + 1 ≤ (wq.alloc (.cells #[.int .i64 (n : Int)] tI1)).drew.heap.size := by show (cb + 1) + 1 ≤ (wq.alloc _).heap.size; simp; omega
          have HA := Lib.hid (And.intro hrow (And.intro hnew (And.intro hsz1 (And.intro hsr1 hbe1))))
          have HG2 : Hid (∀ W, Below (cb + 1) W0 W → W.cell? ⟨cb, 1, none⟩ = some (.slice (some ⟨g3, o3, none⟩) N nc) ∧ W.cell? ⟨g3, o3 + x, none⟩ = some (.int .i64 j) ∧ cb < W.heap.size ∧ g3 < W.heap.size) := Lib.hid fun W hW => ⟨(HL.out W hW).2.1, (hW.cell (p := ⟨g3, o3 + x, none⟩) hg3s).trans hc3, (HL.out W hW).2.2.2.2.2.1, by have h1 := (HL.out W hW).2.2.2.2.2.2.1; have h2 := hW.size; have h3 := H0.out.2.2.2.2.1; omega⟩
          have HQ := Lib.hid (And.intro hsr (And.intro hbe (And.intro hlen (And.intro hfold (And.intro hl (And.intro hrv (And.intro hrn hfs)))))))
          obtain ⟨i0, hi0, hz0, hz1, hz2⟩ := info_parts intInfo
          clear hsr hbe hlen hfold hx9 hnj hx0 hc2 hg2 hy3 hg3 hc3 hl hrv hrn hfs hstep hsr1 hbe1 hrow hnew
          go_upto_region 8 with (fail)
          -- REGION 8
          refine wp_region_held_drew (S := (fun (Wx : World) => Wx.cell? ⟨cb, 1, none⟩ = some (.slice (some ⟨g3, o3, none⟩) N nc) ∧ Wx.cell? ⟨g3, o3 + x, none⟩ = some (.int .i64 (j : Int)) ∧ cb < Wx.heap.size ∧ g3 < Wx.heap.size)) (by kernel_rfl) (by exact HG2.out _ (HQ.out.2.1.trans (below_drewN _ _ 1))) (fun hHeld => ?_)
          refine tQ 0 hHeld ?_
          refine tQ 1 hHeld ?_
          refine tQ 2 hHeld ?_
          refine tQ 3 hHeld ?_
          refine tQ 4 hHeld ?_
          refine tQ 5 hHeld ?_
          refine tQ 6 hHeld ?_
          refine tQ 7 hHeld ?_
          refine tQ 8 hHeld ?_
          refine tQ 9 hHeld ?_
          refine tQ 10 hHeld ?_
          refine tQ 11 hHeld ?_
          refine tQ 12 hHeld ?_
          refine tQ 14 hHeld ?_
          refine twoL (i := 13) (j := 15) rfl rfl (by kernel_rfl) (fun K hK => ?_) (fun K hK => ?_)
          · go_simp
            clear hHeld
            refine hK.out _ _ ?_ (fun hHeld => ?_)
            · first | exact HG2.out _ HA.out.2.2.2.2 | exact HG2.out _ (HQ.out.2.1.trans (below_drewN _ _ 1))
            clear hK K
            try simp only [Act.put, List.setIfInBounds_toArray, List.set_cons_zero, List.set_cons_succ]
            refine oneL (i := 15) rfl (by kernel_rfl) (fun K hK => ?_)
            go_simp
            clear hHeld
            refine hK.out _ _ ?_ (fun hHeld => ?_)
            · exact HG2.out _ HA.out.2.2.2.2
            clear hK K
            try simp only [Act.put, List.setIfInBounds_toArray, List.set_cons_zero, List.set_cons_succ]
            refine oneL (i := 16) rfl (by kernel_rfl) (fun K hK => ?_)
            refine step_append_lies _ rfl (.tmp 43) (.tmp 45) 31 rfl (cb + 1 + 1) tI1 i0 _ 1 8 Try.underlying31 hi0 hz0 hz1 hz2 rfl (by decide) (.slice vA rn vc) rn (ints l) (by simp [Act.eval, Act.put]) HA.out.1 ⟨wq.heap.size, 0, none⟩ 1 1 [.int .i64 (n : Int)] (by simp [Act.eval, Act.put]) rfl (news1 HA.out.2.1) (by simp [Value.oneCell']) (by decide) (by unfold maxLen; omega) (by omega) HA.out.2.2.1 _ rfl ?_
            intro g9 cap9 w2 hown hgrow hgl hlt9
            have hb2 := below_grown HA.out.2.2.2.2 hgrow (by have h9 := HA.out.2.2.1; omega) (fun i e => by have h9 := (own_lt HA.out.1 e).2; omega)
            have hbk := blk_grown HA.out.2.2.2.1.blk hgrow (fun e => by have h9 := (own_lt HA.out.1 e).2; omega)
            have f2 := hbk.frozen j
            have l9 := hbk.lt
            have q5 : w2.cell? ⟨cb + 1, j, none⟩ = some (.slice vA rn vc) := by
              rw [hbk.cell, List.getElem?_toArray]
              exact HQ.out.2.2.2.2.2.1
            have HG := Lib.hid (And.intro hown (And.intro hgrow (And.intro hgl hb2)))
            clear hown hgrow hgl hb2 hbk
            clear hHeld
            refine hK.out _ _ ?_ (fun hHeld => ?_)
            · exact HG2.out _ HG.out.2.2.2
            clear hK K
            try simp only [Act.put, List.setIfInBounds_toArray, List.set_cons_zero, List.set_cons_succ]
            refine tQ 17 hHeld ?_
            refine oneL (i := 18) rfl (by kernel_rfl) (fun K hK => ?_)
            go_simp
            clear hHeld
            refine hK.out _ _ ?_ (fun hHeld => ?_)
            · exact HG2.out _ (HG.out.2.2.2.setCell (p := ⟨cb + 1, j, none⟩) (by simp) _)
            clear hK K
            try simp only [Act.put, List.setIfInBounds_toArray, List.set_cons_zero, List.set_cons_succ]
            refine wpAnyH_done (by kernel_rfl) ?_ _
            have hjf : j < fr2.length := (List.getElem?_eq_some_iff.1 HQ.out.2.2.2.2.1).1
            have hs9 := HA.out.2.2.2.1.app HQ.out.2.2.2.2.2.1 HQ.out.2.2.2.2.1 HQ.out.2.2.2.2.2.2.1.symm HG.out.1 HG.out.2.1 HG.out.2.2.1
            have hb9 : Below (cb + 1) W0 (w2.setCell ⟨cb + 1, j, none⟩ (.slice (some ⟨g9, 0, none⟩) (rn + 1) cap9)) := HG.out.2.2.2.setCell (p := ⟨cb + 1, j, none⟩) (by simp) _
            have hl9 : ∀ i, ((fr2.set j (l ++ [n])).getD i []).length ≤ 2 * n + (m + 1) := by
              rw [← HQ.out.2.2.2.2.2.2.2]
              exact getD_set_len HQ.out.2.2.1 hjf
            have hf9 := HQ.out.2.2.2.1
            rw [HQ.out.2.2.2.2.2.2.2] at hf9
            have HF := Lib.hid (And.intro hs9 (And.intro hb9 (And.intro hl9 hf9)))
            clear hs9 hb9 hl9 hf9 HQ HA
            go_wp2_with fail
            go_roundw
            case rel => exact ⟨m + 1, _, _, by omega, by go_num, HF.out.1, HF.out.2.1, HF.out.2.2.1, HF.out.2.2.2⟩
            case measure => simp [intOf]; omega
          · go_simp
            clear hHeld
            refine hK.out _ _ ?_ (fun hHeld => ?_)
            · exact HG2.out _ HA.out.2.2.2.2
            clear hK K
            try simp only [Act.put, List.setIfInBounds_toArray, List.set_cons_zero, List.set_cons_succ]
            refine oneL (i := 13) rfl (by kernel_rfl) (fun K hK => ?_)
            go_simp
            clear hHeld
            refine hK.out _ _ ?_ (fun hHeld => ?_)
            · first | exact HG2.out _ HA.out.2.2.2.2 | exact HG2.out _ (HQ.out.2.1.trans (below_drewN _ _ 1))
            clear hK K
            try simp only [Act.put, List.setIfInBounds_toArray, List.set_cons_zero, List.set_cons_succ]
            refine oneL (i := 16) rfl (by kernel_rfl) (fun K hK => ?_)
            refine step_append_lies _ rfl (.tmp 43) (.tmp 45) 31 rfl (cb + 1 + 1) tI1 i0 _ 1 8 Try.underlying31 hi0 hz0 hz1 hz2 rfl (by decide) (.slice vA rn vc) rn (ints l) (by simp [Act.eval, Act.put]) HA.out.1 ⟨wq.heap.size, 0, none⟩ 1 1 [.int .i64 (n : Int)] (by simp [Act.eval, Act.put]) rfl (news1 HA.out.2.1) (by simp [Value.oneCell']) (by decide) (by unfold maxLen; omega) (by omega) HA.out.2.2.1 _ rfl ?_
            intro g9 cap9 w2 hown hgrow hgl hlt9
            have hb2 := below_grown HA.out.2.2.2.2 hgrow (by have h9 := HA.out.2.2.1; omega) (fun i e => by have h9 := (own_lt HA.out.1 e).2; omega)
            have hbk := blk_grown HA.out.2.2.2.1.blk hgrow (fun e => by have h9 := (own_lt HA.out.1 e).2; omega)
            have f2 := hbk.frozen j
            have l9 := hbk.lt
            have q5 : w2.cell? ⟨cb + 1, j, none⟩ = some (.slice vA rn vc) := by
              rw [hbk.cell, List.getElem?_toArray]
              exact HQ.out.2.2.2.2.2.1
            have HG := Lib.hid (And.intro hown (And.intro hgrow (And.intro hgl hb2)))
            clear hown hgrow hgl hb2 hbk
            clear hHeld
            refine hK.out _ _ ?_ (fun hHeld => ?_)
            · exact HG2.out _ HG.out.2.2.2
            clear hK K
            try simp only [Act.put, List.setIfInBounds_toArray, List.set_cons_zero, List.set_cons_succ]
            refine tQ 17 hHeld ?_
            refine oneL (i := 18) rfl (by kernel_rfl) (fun K hK => ?_)
            go_simp
            clear hHeld
            refine hK.out _ _ ?_ (fun hHeld => ?_)
            · exact HG2.out _ (HG.out.2.2.2.setCell (p := ⟨cb + 1, j, none⟩) (by simp) _)
            clear hK K
            try simp only [Act.put, List.setIfInBounds_toArray, List.set_cons_zero, List.set_cons_succ]
            refine wpAnyH_done (by kernel_rfl) ?_ _
            have hjf : j < fr2.length := (List.getElem?_eq_some_iff.1 HQ.out.2.2.2.2.1).1
            have hs9 := HA.out.2.2.2.1.app HQ.out.2.2.2.2.2.1 HQ.out.2.2.2.2.1 HQ.out.2.2.2.2.2.2.1.symm HG.out.1 HG.out.2.1 HG.out.2.2.1
            have hb9 : Below (cb + 1) W0 (w2.setCell ⟨cb + 1, j, none⟩ (.slice (some ⟨g9, 0, none⟩) (rn + 1) cap9)) := HG.out.2.2.2.setCell (p := ⟨cb + 1, j, none⟩) (by simp) _
            have hl9 : ∀ i, ((fr2.set j (l ++ [n])).getD i []).length ≤ 2 * n + (m + 1) := by
              rw [← HQ.out.2.2.2.2.2.2.2]
              exact getD_set_len HQ.out.2.2.1 hjf
            have hf9 := HQ.out.2.2.2.1
            rw [HQ.out.2.2.2.2.2.2.2] at hf9
            have HF := Lib.hid (And.intro hs9 (And.intro hb9 (And.intro hl9 hf9)))
            clear hs9 hb9 hl9 hf9 HQ HA
            go_wp2_with fail
            go_roundw
            case rel => exact ⟨m + 1, _, _, by omega, by go_num, HF.out.1, HF.out.2.1, HF.out.2.2.1, HF.out.2.2.2⟩
            case measure => simp [intOf]; omega
          -- END 8
        · obtain rfl : m = ln := by omega
          rw [← HR.out.2.2.2.2.2.2.1, List.drop_length, List.foldl_nil] at hfold
          subst hfold
          have hnx : (List.range (n + 1)).foldl (fun fr n => srcStep T k n fr) (List.replicate K []) = fr2 := by
            rw [List.range_succ, List.foldl_append, HR.out.2.2.2.1, List.foldl_cons, List.foldl_nil, srcStep_eq, List.getD_eq_getElem?_getD (l := k.blk), HR.out.2.2.2.2.1]
            show List.foldl (sstep k n) fr (T.getD at_ []) = fr2
            rw [HR.out.2.2.2.2.2.1]
            exact HR.out.2.2.2.2.2.2.2.1
          have HF := Lib.hid (And.intro hsr (And.intro hbe (And.intro hlen hnx)))
          clear hsr hbe hlen hnx
          go_wp2_with fail
          go_roundw
          case rel => exact ⟨n + 1, vals2, by omega, by go_num, by rw [HF.out.2.2.2]; exact HF.out.1, HF.out.2.1, fun i => by rw [HF.out.2.2.2]; have := HF.out.2.2.1 i; omega⟩
          case measure => simp [intOf]; omega
    · obtain rfl : n = K := by omega
      have hM : srcsM T k = fr := by unfold srcsM; rw [hK]; exact hfr
      have hbw : Below cb w wo := H0.out.2.2.2.2.2.1.trans (hbe.mono (by omega))
      have HF := Lib.hid (And.intro hsr (And.intro hbw hM))
      clear hsr hbe hlen hfr hM hbw
      go_wp2_with fail
      go_ret
      exact ⟨cb + 1, vals, rfl, by have h9 := H0.out.2.2.2.2.2.2; omega, by rw [HF.out.2.2]; exact HF.out.1, by rw [H0.out.2.2.2.2.2.2]; exact HF.out.2.1⟩
end Go.Proofs.Ytjmlpbnejcfnhaa
