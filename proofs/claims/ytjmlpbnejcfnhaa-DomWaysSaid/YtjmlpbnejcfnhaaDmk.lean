/-
  Layer dom: walk of newWalk.
-/
import Derived.Test.YtjmlpbnejcfnhaaDmi
import Derived.Test.YtjmlpbnejcfnhaaRg
import Derived.Deep.RegionWith
import Derived.Deep.RegionHeld3
import Derived.Deep.DeepCutAuto
import Derived.Laws.EntriesVeiled
import Derived.Laws.CopyOwn
import Derived.Laws.Tables
import Derived.Test.YtjmlpbnejcfnhaaDmj
import Derived.Test.YtjmlpbnejcfnhaaDmb
namespace Go.Proofs.Ytjmlpbnejcfnhaa
open Go Go.RowKit Go.Maps
set_option linter.unusedVariables false
set_option linter.unusedSimpArgs false

abbrev tIss : TypeId := 61
theorem isInfo : (Try.prog.info? tIs).map (fun i => (i.zero, i.size, i.bytes)) = some (some (.slice none 0 0), 1, 24) := by kernel_rfl
theorem made_nils (n : Nat) : madeCells (Value.slice none 0 0).cells (n * 1) = (List.replicate n (Value.slice none 0 0)).toArray := by
  apply Array.ext'
  apply List.ext_getElem?
  intro j
  by_cases hj : j < n
  · simp [madeCells, Value.cells, Nat.mod_one, List.getElem?_replicate, hj]
  · simp [madeCells, Value.cells, Nat.mod_one, List.getElem?_replicate, hj]
theorem make_rows (n : Nat) (hn : n ≤ 1000) (W : World) : (Instr.makeSlice tIss (.int .i64 n) (.int .i64 n)).run Try.prog W = .ok (.slice (some ⟨W.heap.size, 0, none⟩) n n) (W.alloc (.cells (List.replicate n (Value.slice none 0 0)).toArray tIs)) := by
  obtain ⟨ib, hib, hbz0, hbz1, hbz2⟩ := info_parts isInfo
  have hb : (ib.bytes : Int) * (n : Int) ≤ 281474976710656 := by rw [hbz2]; omega
  have hr := run_make (P := Try.prog) W tIss tIs ib (.slice none 0 0) Try.underlying61 hib hbz0 .i64 .i64 n n (by omega) (Int.le_refl _) hb (by omega)
  simp only [Int.toNat_natCast, hbz1, made_nils] at hr
  exact hr
theorem alloc_at (W : World) (o : Obj) (b : Nat) : (W.alloc o).heap[b]? = if b = W.heap.size then some o else W.heap[b]? := by
  by_cases h : b = W.heap.size
  · subst h; rw [if_pos rfl]; exact World.alloc_heap_new W o
  · rw [if_neg h]
    by_cases h2 : b < W.heap.size
    · exact ((Below.refl W.heap.size W).alloc (Nat.le_refl _) o).block b h2
    · rw [Array.getElem?_eq_none (by simp; omega), Array.getElem?_eq_none (by omega)]
theorem drew_heap (W : World) : W.drew.heap = W.heap := rfl
theorem cellD {W : World} {p : Addr} {v : Option Value} (h : W.cell? p = v) : W.drew.cell? p = v := h
theorem bAl {B : Nat} {w W : World} (h : Below B w W) (hB : B ≤ W.heap.size) (o : Obj) : Below B w (W.alloc o) := h.alloc hB o
theorem newB1 (w : World) (r o1 o2 : Obj) (d : Nat) : Below (w.heap.size + 1) (w.alloc r) (((((w.alloc r).alloc o1).drew).alloc o2).drewN d) := Below.trans (((Below.refl _ (w.alloc r)).alloc (by simp) o1).trans (Below.trans (below_drewN _ _ 1) ((Below.refl _ _).alloc (by simp) o2))) (below_drewN _ _ d)
theorem newB2 (w : World) (r o1 o2 o3 : Obj) (d : Nat) : Below (w.heap.size + 1) (w.alloc r) ((((((w.alloc r).alloc o1).alloc o2).drew).alloc o3).drewN d) := Below.trans ((((Below.refl _ (w.alloc r)).alloc (by simp) o1).alloc (by simp) o2).trans (Below.trans (below_drewN _ _ 1) ((Below.refl _ _).alloc (by simp) o3))) (below_drewN _ _ d)
theorem newB3 (w : World) (r o1 o2 o3 o4 : Obj) (d : Nat) : Below (w.heap.size + 1) (w.alloc r) (((((((w.alloc r).alloc o1).alloc o2).alloc o3).drew).alloc o4).drewN d) := Below.trans (((((Below.refl _ (w.alloc r)).alloc (by simp) o1).alloc (by simp) o2).alloc (by simp) o3).trans (Below.trans (below_drewN _ _ 1) ((Below.refl _ _).alloc (by simp) o4))) (below_drewN _ _ d)
theorem replA (n : Nat) (v : Value) : Array.replicate n v = (List.replicate n v).toArray := by simp
abbrev nil5 : Array Value := #[.slice none 0 0, .slice none 0 0, .slice none 0 0, .slice none 0 0, .slice none 0 0]
theorem own_form {w : World} {base n : Nat} {p : Value} {xs : List Value} (hp : w.ownsRow base tI1 1 p n xs) : ∃ A n c, p = .slice A n c := by
  rcases hp.2 with ⟨rfl, _⟩ | ⟨g, cap, cur, rfl, _⟩
  · exact ⟨_, _, _, rfl⟩
  · exact ⟨_, _, _, rfl⟩
theorem wkInf : (Try.prog.info? tWk).map (·.size) = some 5 := by kernel_rfl
theorem bN {W : World} {t : TypeId} {cs : Array Value} {b : Nat} (h : b = W.heap.size) : Blk (W.alloc (.cells cs t)) b t cs := by subst h; exact Blk.new W t cs
abbrev st5 (W : World) (b : Nat) (v0 v1 v2 v3 v4 : Value) : World := ((((W.setCell ⟨b, 0, none⟩ v0).setCell ⟨b, 1, none⟩ v1).setCell ⟨b, 2, none⟩ v2).setCell ⟨b, 3, none⟩ v3).setCell ⟨b, 4, none⟩ v4
theorem st5_blk {W : World} {b : Nat} {v0 v1 v2 v3 v4 : Value} (h : Blk W b tWk nil5) : Blk (st5 W b v0 v1 v2 v3 v4) b tWk #[v0, v1, v2, v3, v4] := ((((h.set_ 0 v0).set_ 1 v1).set_ 2 v2).set_ 3 v3).set_ 4 v4
theorem st5_far {W : World} {b c : Nat} {t : TypeId} {cs : Array Value} {v0 v1 v2 v3 v4 : Value} (h : Blk W c t cs) (hne : c ≠ b) : Blk (st5 W b v0 v1 v2 v3 v4) c t cs :=
  ((((h.far (p := ⟨b, 0, none⟩) hne v0).far (p := ⟨b, 1, none⟩) hne v1).far (p := ⟨b, 2, none⟩) hne v2).far (p := ⟨b, 3, none⟩) hne v3).far (p := ⟨b, 4, none⟩) hne v4
theorem st5_below {B : Nat} {w0 W : World} {b : Nat} {v0 v1 v2 v3 v4 : Value} (h : Below B w0 W) (hB : B ≤ b) : Below B w0 (st5 W b v0 v1 v2 v3 v4) :=
  ((((h.setCell (p := ⟨b, 0, none⟩) hB v0).setCell (p := ⟨b, 1, none⟩) hB v1).setCell (p := ⟨b, 2, none⟩) hB v2).setCell (p := ⟨b, 3, none⟩) hB v3).setCell (p := ⟨b, 4, none⟩) hB v4
theorem st5_size {W : World} {b : Nat} {v0 v1 v2 v3 v4 : Value} : (st5 W b v0 v1 v2 v3 v4).heap.size = W.heap.size := by simp
theorem rwRep {W : World} {b n : Nat} (h : Blk W b tI1 (intC (repC (-1) n n))) (hn : n ≤ 1000 := by omega) : RwI W b (.slice (some ⟨b, 0, none⟩) n n) (List.replicate n (-1)) :=
  ⟨n, [], by simp, by simp, by unfold maxLen; omega, by rw [repC_full] at h; rw [List.append_nil]; exact h⟩
/-- A visit that has been made, as it is read. -/
structure WkO (w : World) (a : Array Value) (T : List (List Nat)) (k : Wk) : Prop where
  x : ∃ lo hi tb vals nv bv pv ov, a = #[.slice (some ⟨tb, 0, none⟩) T.length T.length, nv, bv, pv, ov] ∧ TosV w lo hi tb vals T ∧ (hi ≤ w.heap.size ∧ tb < w.heap.size) ∧ RdV w w.heap.size nv k.num ∧ RdV w w.heap.size bv (nz k.blk) ∧ RdV w w.heap.size pv (nz k.par) ∧ RdV w w.heap.size ov (nz k.ord)
theorem WkO.on {w w' : World} {a : Array Value} {T : List (List Nat)} {k : Wk} (h : WkO w a T k) (hb : Below w.heap.size w w') : WkO w' a T k := by
  obtain ⟨lo, hi, tb, vals, nv, bv, pv, ov, h1, h2, h3, h4, h5, h6, h7⟩ := h.x
  exact ⟨lo, hi, tb, vals, nv, bv, pv, ov, h1, h2.keep (fun g _ hg => hb.block g (by omega)) (hb.block tb h3.2), ⟨Nat.le_trans h3.1 hb.size, Nat.lt_of_lt_of_le h3.2 hb.size⟩, h4.on hb, h5.on hb, h6.on hb, h7.on hb⟩
/-- The same, whatever becomes of the blocks that were there before. -/
structure WkF (w0 w : World) (a : Array Value) (T : List (List Nat)) (k : Wk) : Prop where
  x : ∀ W : World, (∀ g, w0.heap.size ≤ g → g < w.heap.size → W.heap[g]? = w.heap[g]?) → w.heap.size ≤ W.heap.size → WkO W a T k
theorem WkF.o {w0 w : World} {a : Array Value} {T : List (List Nat)} {k : Wk} (h : WkF w0 w a T k) : WkO w a T k := h.x w (fun _ _ _ => rfl) (Nat.le_refl _)
theorem RdI.low {w : World} {lo lo' hi : Nat} {v : Value} {l : List Int} (h : RdI w lo' hi v l) (hh : lo ≤ lo') : RdI w lo hi v l := by
  obtain ⟨A, c, h1, h2, h3, h4⟩ := h
  refine ⟨A, c, h1, h2, h3, h4.imp id ?_⟩
  rintro ⟨g, o, e, h5, h6, h7⟩
  exact ⟨g, o, e, by omega, h6, h7⟩
theorem nz_tosN {es : List Eb} (hok : endsOk es = true) {e : Eb} (he : e ∈ es) : nz (tosN e) = tosM e := by
  unfold nz tosN
  rw [List.map_map]
  refine (List.map_congr_left fun t ht => ?_).trans (List.map_id _)
  unfold endsOk at hok
  rw [List.all_eq_true] at hok
  have h2 := hok e he
  rw [List.all_eq_true] at h2
  have h3 := h2 t ht
  simp at h3
  simp; omega
theorem tosN_ok {es : List Eb} (hok : endsOk es = true) : RowsOk es.length (es.map tosN) := by
  refine ⟨by simp, fun r hr b hb => ?_⟩
  obtain ⟨e, he, rfl⟩ := List.mem_map.1 hr
  unfold tosN at hb
  obtain ⟨t, ht, rfl⟩ := List.mem_map.1 hb
  unfold endsOk at hok
  rw [List.all_eq_true] at hok
  have h2 := hok e he
  rw [List.all_eq_true] at h2
  have h3 := h2 t ht
  simp at h3
  omega
/-- The rows of successors while they are laid. -/
structure TosK (w : World) (lo tb n k : Nat) (es : List Eb) (vals : List Value) : Prop where
  len : vals.length = k
  blk : Blk w tb tIs (vals ++ List.replicate (n - k) (Value.slice none 0 0)).toArray
  row : ∀ (a : Nat) (v : Value) (e : Eb), vals[a]? = some v → es[a]? = some e → RdI w lo w.heap.size v (tosM e)
theorem RdI.farC {w : World} {lo hi : Nat} {v : Value} {l : List Int} (h : RdI w lo hi v l) {p : Addr} (hp : p.block < lo) (u : Value) : RdI (w.setCell p u) lo hi v l := h.keep fun g h1 _ => Below.heap_setCell w p u g (by omega)
theorem TosK.next {wr W4 w5 : World} {lo tb n k : Nat} {es : List Eb} {vals : List Value} (h : TosK wr lo tb n k es vals) (hk : k < n) (hlo : lo ≤ wr.heap.size) (htl : tb < lo) (hB4 : Below wr.heap.size wr W4) (hB5 : Below W4.heap.size W4 w5) {e : Eb} (he : es[k]? = some e) {v : Value} (hrd : RdI w5 W4.heap.size w5.heap.size v (tosM e)) :
    TosK (w5.setCell ⟨tb, k, none⟩ v) lo tb n (k + 1) es (vals ++ [v]) := by
  have hs4 := hB4.size
  have hs5 := hB5.size
  have hB : Below wr.heap.size wr w5 := hB4.trans (hB5.mono hs4)
  have hb : Blk w5 tb tIs _ := (hB.block tb (by omega)).trans h.blk
  refine ⟨by simp [h.len], ?_, fun a u x ha hx => ?_⟩
  · have h2 := hb.set_ k v
    rw [List.setIfInBounds_toArray, List.set_append_right _ _ (by rw [h.len]; exact Nat.le_refl _), h.len, Nat.sub_self, show n - k = (n - (k + 1)) + 1 by omega, List.replicate_succ, List.set_cons_zero] at h2
    rw [List.append_assoc]
    exact h2
  · have hsz : (w5.setCell ⟨tb, k, none⟩ v).heap.size = w5.heap.size := by simp
    rw [hsz]
    by_cases e1 : a < k
    · rw [List.getElem?_append_left (by rw [h.len]; exact e1)] at ha
      exact (((h.row a u x ha hx).keep fun g _ hg => hB.block g hg).more (by omega)).farC (p := ⟨tb, k, none⟩) htl v
    · have e2 : a = k := by
        have := (List.getElem?_eq_some_iff.1 ha).1
        simp [h.len] at this
        omega
      subst e2
      have e3 : u = v := by
        rw [List.getElem?_append_right (by rw [h.len]; exact Nat.le_refl _), h.len, Nat.sub_self] at ha
        exact (Option.some.inj ha).symm
      have e4 : x = e := by rw [hx] at he; exact Option.some.inj he
      rw [e3, e4]
      exact (hrd.low (by omega)).farC (p := ⟨tb, a, none⟩) htl v
set_option maxHeartbeats 4000000 in
set_option maxRecDepth 100000 in
theorem newWalk_any {w : World} {es : List Eb} {eb : Nat} {ev : Value} (he : RwE w eb ev es) (h0 : 0 < es.length) (hm : es.length ≤ 400) (hok : endsOk es = true) :
    Calls Try.prog 34 #[ev] w fun e w' => ∃ a, e = .returned (.agg a) ∧ WkF w w' a (es.map tosN) (walkM (es.map tosN)) ∧ Below w.heap.size w w' := by
  obtain ⟨cap, rfl, hlc, hcm⟩ := he.sl
  obtain ⟨n, hn⟩ : ∃ n, es.length = n := ⟨_, rfl⟩
  rw [hn] at hlc hm h0 ⊢
  have HE := Lib.hid (And.intro he (And.intro hn hok))
  have hmk := fun W => make_rows n (by omega) W
  have HREP : Hid (∀ (W : World) (g c : Nat), g < W.heap.size → W.cell? ⟨g, 0, none⟩ = some (.int .i64 (-1)) → Calls Try.prog 46 #[.slice (some ⟨g, 0, none⟩) 1 c, .int .i64 n] W fun e w' => e = .returned (.slice (some ⟨W.heap.size, 0, none⟩) n n) ∧ ∃ d, w' = (W.alloc (.cells (intC (repC (-1) n n)) tI1)).drewN d) := Lib.hid fun W g c h1 h2 => irepeat_any (-1) n (by omega) (by omega) h1 h2
  clear he hn hok hcm
  go_enter Try.func34, Try.ntmps34
  go_upto_region 1 with (fail)
  go_cut [3] (fun s3 wx => ∃ tb nb wb nv, s3 = .pointer (some ⟨wb, 0, none⟩) ∧ Blk wx tb tIs (List.replicate n (Value.slice none 0 0)).toArray ∧ RwI wx nb nv (List.replicate n (-1)) ∧ Blk wx wb tWk #[.slice (some ⟨tb, 0, none⟩) n n, nv, .slice none 0 0, .slice none 0 0, .slice none 0 0] ∧ (tb ≠ nb ∧ tb ≠ wb ∧ nb ≠ wb) ∧ (w.heap.size < tb ∧ w.heap.size < nb ∧ w.heap.size < wb) ∧ Below (w.heap.size + 1) (w.alloc (.cells #[.slice none 0 0, .slice none 0 0, .slice none 0 0, .slice none 0 0, .slice none 0 0] tWk)) wx)
  case first =>
    refine wp_region_held_drew (S := fun _ => True) (by kernel_rfl) trivial (fun hHeld => ?_)
    refine tQ 0 hHeld ?_
    refine tQ 1 hHeld ?_
    refine tQ 4 hHeld ?_
    refine tQ 5 hHeld ?_
    try simp only [Act.put, List.setIfInBounds_toArray, List.set_cons_zero, List.set_cons_succ]
    refine threeL (i := 2) (j := 3) (k := 8) rfl rfl rfl (by kernel_rfl) (fun K hK => ?_) (fun K hK => ?_) (fun K hK => ?_)
    · go_simp
      clear hHeld
      refine hK.out _ _ trivial (fun hHeld => ?_)
      clear hK K
      try simp only [Act.put, List.setIfInBounds_toArray, List.set_cons_zero, List.set_cons_succ]
      refine twoL (i := 3) (j := 8) rfl rfl (by kernel_rfl) (fun K hK => ?_) (fun K hK => ?_)
      · go_simp
        clear hHeld
        refine hK.out _ _ trivial (fun hHeld => ?_)
        clear hK K
        try simp only [Act.put, List.setIfInBounds_toArray, List.set_cons_zero, List.set_cons_succ]
        refine twoL (i := 6) (j := 8) rfl rfl (by kernel_rfl) (fun K hK => ?_) (fun K hK => ?_)
        · go_simp
          refine Calls.mono (HREP.out _ _ _ (by simp) (cellD (by rw [World.cell?_alloc_at _ _ _ _ (by simp)]; rfl))) ?_
          rintro e w5 ⟨rfl, d, hw5⟩
          have bR : Blk w5 (w.heap.size + 1 + 1 + 1) tI1 (intC (repC (-1) n n)) := by rw [hw5]; show (World.alloc _ _).heap[w.heap.size + 1 + 1 + 1]? = _; rw [alloc_at, if_pos (by simp)]
          have hz5 : w5.heap.size = w.heap.size + 1 + 1 + 1 + 1 := by rw [hw5]; simp [World.drewN]
          have bT : Blk w5 (w.heap.size + 1) tIs (List.replicate n (Value.slice none 0 0)).toArray := by rw [hw5]; show (World.alloc _ _).heap[w.heap.size + 1]? = _; rw [alloc_at, if_neg (by simp), drew_heap, alloc_at, if_neg (by simp), alloc_at, if_pos (by simp), replA]
          have hb5 : Below (w.heap.size + 1) (w.alloc (.cells nil5 tWk)) w5 := by rw [hw5]; exact newB2 _ _ _ _ _ _
          have HB := Lib.hid hb5
          have HX := Lib.hid (And.intro bR (And.intro bT trivial))
          clear bR hb5 hw5 bT
          have HZ := Lib.hid hz5
          clear hHeld
          refine hK.out _ _ trivial (fun hHeld => ?_)
          clear hK K
          try simp only [Act.put, List.setIfInBounds_toArray, List.set_cons_zero, List.set_cons_succ]
          refine tQ 7 hHeld ?_
          try simp only [Act.put, List.setIfInBounds_toArray, List.set_cons_zero, List.set_cons_succ]
          refine oneL (i := 8) rfl (by kernel_rfl) (fun K hK => ?_)
          go_simp
          clear hHeld
          refine hK.out _ _ trivial (fun hHeld => ?_)
          clear hK K
          try simp only [Act.put, List.setIfInBounds_toArray, List.set_cons_zero, List.set_cons_succ]
          refine oneL (i := 9) rfl (by kernel_rfl) (fun K hK => ?_)
          go_simp
          clear hHeld
          refine hK.out _ _ trivial (fun hHeld => ?_)
          clear hK K
          try simp only [Act.put, List.setIfInBounds_toArray, List.set_cons_zero, List.set_cons_succ]
          refine wpAnyH_done (by kernel_rfl) ?_ _
          go_wp2_with fail
          go_meet
          exact ⟨w.heap.size + 1, w.heap.size + 1 + 1 + 1, w.heap.size + 1 + 1 + 1 + 1, .slice (some ⟨w.heap.size + 1 + 1 + 1, 0, none⟩) n n, rfl, HX.out.2.1.alloc _, rwRep (HX.out.1.alloc _), bN HZ.out.symm, ⟨by omega, by omega, by omega⟩, ⟨by omega, by omega, by omega⟩, HB.out.alloc (by rw [HZ.out]; omega) _⟩
        · go_simp
          clear hHeld
          refine hK.out _ _ trivial (fun hHeld => ?_)
          clear hK K
          try simp only [Act.put, List.setIfInBounds_toArray, List.set_cons_zero, List.set_cons_succ]
          refine oneL (i := 6) rfl (by kernel_rfl) (fun K hK => ?_)
          go_simp
          refine Calls.mono (HREP.out _ _ _ (by simp) (cellD (by rw [World.cell?_alloc_past _ _ _ (by simp), World.cell?_alloc_at _ _ _ _ (by simp)]; rfl))) ?_
          rintro e w5 ⟨rfl, d, hw5⟩
          have bR : Blk w5 (w.heap.size + 1 + 1 + 1 + 1) tI1 (intC (repC (-1) n n)) := by rw [hw5]; show (World.alloc _ _).heap[w.heap.size + 1 + 1 + 1 + 1]? = _; rw [alloc_at, if_pos (by simp)]
          have hz5 : w5.heap.size = w.heap.size + 1 + 1 + 1 + 1 + 1 := by rw [hw5]; simp [World.drewN]
          have bT : Blk w5 (w.heap.size + 1) tIs (List.replicate n (Value.slice none 0 0)).toArray := by rw [hw5]; show (World.alloc _ _).heap[w.heap.size + 1]? = _; rw [alloc_at, if_neg (by simp), drew_heap, alloc_at, if_neg (by simp), alloc_at, if_neg (by simp), alloc_at, if_pos (by simp), replA]
          have bA : Blk w5 (w.heap.size + 1 + 1 + 1) tWk nil5 := by rw [hw5]; show (World.alloc _ _).heap[w.heap.size + 1 + 1 + 1]? = _; rw [alloc_at, if_neg (by simp), drew_heap, alloc_at, if_pos (by simp)]
          have hb5 : Below (w.heap.size + 1) (w.alloc (.cells nil5 tWk)) w5 := by rw [hw5]; exact newB3 _ _ _ _ _ _ _
          have HB := Lib.hid hb5
          have a0 : w5.cell? ⟨w.heap.size + 1 + 1 + 1, 0, none⟩ = some (.slice none 0 0) := bA.cell 0
          have a1 : w5.cell? ⟨w.heap.size + 1 + 1 + 1, 1, none⟩ = some (.slice none 0 0) := bA.cell 1
          have a2 : w5.cell? ⟨w.heap.size + 1 + 1 + 1, 2, none⟩ = some (.slice none 0 0) := bA.cell 2
          have a3 : w5.cell? ⟨w.heap.size + 1 + 1 + 1, 3, none⟩ = some (.slice none 0 0) := bA.cell 3
          have a4 : w5.cell? ⟨w.heap.size + 1 + 1 + 1, 4, none⟩ = some (.slice none 0 0) := bA.cell 4
          have f0 := bA.frozen 0
          have f1 := bA.frozen 1
          have f2 := bA.frozen 2
          have f3 := bA.frozen 3
          have f4 := bA.frozen 4
          have al := bA.lt
          have HX := Lib.hid (And.intro bR (And.intro bT bA))
          clear bR hb5 hw5 bT bA
          have HZ := Lib.hid hz5
          clear hHeld
          refine hK.out _ _ trivial (fun hHeld => ?_)
          clear hK K
          try simp only [Act.put, List.setIfInBounds_toArray, List.set_cons_zero, List.set_cons_succ]
          refine tQ 7 hHeld ?_
          try simp only [Act.put, List.setIfInBounds_toArray, List.set_cons_zero, List.set_cons_succ]
          refine oneL (i := 9) rfl (by kernel_rfl) (fun K hK => ?_)
          go_simp
          clear hHeld
          refine hK.out _ _ trivial (fun hHeld => ?_)
          clear hK K
          try simp only [Act.put, List.setIfInBounds_toArray, List.set_cons_zero, List.set_cons_succ]
          refine wpAnyH_done (by kernel_rfl) ?_ _
          go_wp2_with fail
          go_meet
          exact ⟨w.heap.size + 1, w.heap.size + 1 + 1 + 1 + 1, w.heap.size + 1 + 1 + 1, .slice (some ⟨w.heap.size + 1 + 1 + 1 + 1, 0, none⟩) n n, rfl, st5_far HX.out.2.1 (by omega), rwRep (st5_far HX.out.1 (by omega)), st5_blk HX.out.2.2, ⟨by omega, by omega, by omega⟩, ⟨by omega, by omega, by omega⟩, st5_below HB.out (by omega)⟩
      · go_simp
        clear hHeld
        refine hK.out _ _ trivial (fun hHeld => ?_)
        clear hK K
        try simp only [Act.put, List.setIfInBounds_toArray, List.set_cons_zero, List.set_cons_succ]
        refine oneL (i := 3) rfl (by kernel_rfl) (fun K hK => ?_)
        go_simp
        clear hHeld
        refine hK.out _ _ trivial (fun hHeld => ?_)
        clear hK K
        try simp only [Act.put, List.setIfInBounds_toArray, List.set_cons_zero, List.set_cons_succ]
        refine oneL (i := 6) rfl (by kernel_rfl) (fun K hK => ?_)
        go_simp
        refine Calls.mono (HREP.out _ _ _ (by simp) (cellD (by rw [World.cell?_alloc_at _ _ _ _ (by simp)]; rfl))) ?_
        rintro e w5 ⟨rfl, d, hw5⟩
        have bR : Blk w5 (w.heap.size + 1 + 1 + 1 + 1) tI1 (intC (repC (-1) n n)) := by rw [hw5]; show (World.alloc _ _).heap[w.heap.size + 1 + 1 + 1 + 1]? = _; rw [alloc_at, if_pos (by simp)]
        have hz5 : w5.heap.size = w.heap.size + 1 + 1 + 1 + 1 + 1 := by rw [hw5]; simp [World.drewN]
        have bT : Blk w5 (w.heap.size + 1) tIs (List.replicate n (Value.slice none 0 0)).toArray := by rw [hw5]; show (World.alloc _ _).heap[w.heap.size + 1]? = _; rw [alloc_at, if_neg (by simp), drew_heap, alloc_at, if_neg (by simp), alloc_at, if_neg (by simp), alloc_at, if_pos (by simp), replA]
        have bA : Blk w5 (w.heap.size + 1 + 1) tWk nil5 := by rw [hw5]; show (World.alloc _ _).heap[w.heap.size + 1 + 1]? = _; rw [alloc_at, if_neg (by simp), drew_heap, alloc_at, if_neg (by simp), alloc_at, if_pos (by simp)]
        have hb5 : Below (w.heap.size + 1) (w.alloc (.cells nil5 tWk)) w5 := by rw [hw5]; exact newB3 _ _ _ _ _ _ _
        have HB := Lib.hid hb5
        have a0 : w5.cell? ⟨w.heap.size + 1 + 1, 0, none⟩ = some (.slice none 0 0) := bA.cell 0
        have a1 : w5.cell? ⟨w.heap.size + 1 + 1, 1, none⟩ = some (.slice none 0 0) := bA.cell 1
        have a2 : w5.cell? ⟨w.heap.size + 1 + 1, 2, none⟩ = some (.slice none 0 0) := bA.cell 2
        have a3 : w5.cell? ⟨w.heap.size + 1 + 1, 3, none⟩ = some (.slice none 0 0) := bA.cell 3
        have a4 : w5.cell? ⟨w.heap.size + 1 + 1, 4, none⟩ = some (.slice none 0 0) := bA.cell 4
        have f0 := bA.frozen 0
        have f1 := bA.frozen 1
        have f2 := bA.frozen 2
        have f3 := bA.frozen 3
        have f4 := bA.frozen 4
        have al := bA.lt
        have HX := Lib.hid (And.intro bR (And.intro bT bA))
        clear bR hb5 hw5 bT bA
        have HZ := Lib.hid hz5
        clear hHeld
        refine hK.out _ _ trivial (fun hHeld => ?_)
        clear hK K
        try simp only [Act.put, List.setIfInBounds_toArray, List.set_cons_zero, List.set_cons_succ]
        refine tQ 7 hHeld ?_
        try simp only [Act.put, List.setIfInBounds_toArray, List.set_cons_zero, List.set_cons_succ]
        refine oneL (i := 9) rfl (by kernel_rfl) (fun K hK => ?_)
        go_simp
        clear hHeld
        refine hK.out _ _ trivial (fun hHeld => ?_)
        clear hK K
        try simp only [Act.put, List.setIfInBounds_toArray, List.set_cons_zero, List.set_cons_succ]
        refine wpAnyH_done (by kernel_rfl) ?_ _
        go_wp2_with fail
        go_meet
        exact ⟨w.heap.size + 1, w.heap.size + 1 + 1 + 1 + 1, w.heap.size + 1 + 1, .slice (some ⟨w.heap.size + 1 + 1 + 1 + 1, 0, none⟩) n n, rfl, st5_far HX.out.2.1 (by omega), rwRep (st5_far HX.out.1 (by omega)), st5_blk HX.out.2.2, ⟨by omega, by omega, by omega⟩, ⟨by omega, by omega, by omega⟩, st5_below HB.out (by omega)⟩
    · go_simp
      clear hHeld
      refine hK.out _ _ trivial (fun hHeld => ?_)
      clear hK K
      try simp only [Act.put, List.setIfInBounds_toArray, List.set_cons_zero, List.set_cons_succ]
      refine threeL (i := 2) (j := 6) (k := 8) rfl rfl rfl (by kernel_rfl) (fun K hK => ?_) (fun K hK => ?_) (fun K hK => ?_)
      · go_simp
        clear hHeld
        refine hK.out _ _ trivial (fun hHeld => ?_)
        clear hK K
        try simp only [Act.put, List.setIfInBounds_toArray, List.set_cons_zero, List.set_cons_succ]
        refine twoL (i := 6) (j := 8) rfl rfl (by kernel_rfl) (fun K hK => ?_) (fun K hK => ?_)
        · go_simp
          refine Calls.mono (HREP.out _ _ _ (by simp) (cellD (by rw [World.cell?_alloc_past _ _ _ (by simp), World.cell?_alloc_at _ _ _ _ (by simp)]; rfl))) ?_
          rintro e w5 ⟨rfl, d, hw5⟩
          have bR : Blk w5 (w.heap.size + 1 + 1 + 1) tI1 (intC (repC (-1) n n)) := by rw [hw5]; show (World.alloc _ _).heap[w.heap.size + 1 + 1 + 1]? = _; rw [alloc_at, if_pos (by simp)]
          have hz5 : w5.heap.size = w.heap.size + 1 + 1 + 1 + 1 := by rw [hw5]; simp [World.drewN]
          have bT : Blk w5 (w.heap.size + 1 + 1) tIs (List.replicate n (Value.slice none 0 0)).toArray := by rw [hw5]; show (World.alloc _ _).heap[w.heap.size + 1 + 1]? = _; rw [alloc_at, if_neg (by simp), drew_heap, alloc_at, if_pos (by simp), replA]
          have hb5 : Below (w.heap.size + 1) (w.alloc (.cells nil5 tWk)) w5 := by rw [hw5]; exact newB2 _ _ _ _ _ _
          have HB := Lib.hid hb5
          have HX := Lib.hid (And.intro bR (And.intro bT trivial))
          clear bR hb5 hw5 bT
          have HZ := Lib.hid hz5
          clear hHeld
          refine hK.out _ _ trivial (fun hHeld => ?_)
          clear hK K
          try simp only [Act.put, List.setIfInBounds_toArray, List.set_cons_zero, List.set_cons_succ]
          refine tQ 7 hHeld ?_
          try simp only [Act.put, List.setIfInBounds_toArray, List.set_cons_zero, List.set_cons_succ]
          refine oneL (i := 8) rfl (by kernel_rfl) (fun K hK => ?_)
          go_simp
          clear hHeld
          refine hK.out _ _ trivial (fun hHeld => ?_)
          clear hK K
          try simp only [Act.put, List.setIfInBounds_toArray, List.set_cons_zero, List.set_cons_succ]
          refine oneL (i := 9) rfl (by kernel_rfl) (fun K hK => ?_)
          go_simp
          clear hHeld
          refine hK.out _ _ trivial (fun hHeld => ?_)
          clear hK K
          try simp only [Act.put, List.setIfInBounds_toArray, List.set_cons_zero, List.set_cons_succ]
          refine wpAnyH_done (by kernel_rfl) ?_ _
          go_wp2_with fail
          go_meet
          exact ⟨w.heap.size + 1 + 1, w.heap.size + 1 + 1 + 1, w.heap.size + 1 + 1 + 1 + 1, .slice (some ⟨w.heap.size + 1 + 1 + 1, 0, none⟩) n n, rfl, HX.out.2.1.alloc _, rwRep (HX.out.1.alloc _), bN HZ.out.symm, ⟨by omega, by omega, by omega⟩, ⟨by omega, by omega, by omega⟩, HB.out.alloc (by rw [HZ.out]; omega) _⟩
        · go_simp
          clear hHeld
          refine hK.out _ _ trivial (fun hHeld => ?_)
          clear hK K
          try simp only [Act.put, List.setIfInBounds_toArray, List.set_cons_zero, List.set_cons_succ]
          refine oneL (i := 6) rfl (by kernel_rfl) (fun K hK => ?_)
          go_simp
          refine Calls.mono (HREP.out _ _ _ (by simp) (cellD (by rw [World.cell?_alloc_past _ _ _ (by simp), World.cell?_alloc_past _ _ _ (by simp), World.cell?_alloc_at _ _ _ _ (by simp)]; rfl))) ?_
          rintro e w5 ⟨rfl, d, hw5⟩
          have bR : Blk w5 (w.heap.size + 1 + 1 + 1 + 1) tI1 (intC (repC (-1) n n)) := by rw [hw5]; show (World.alloc _ _).heap[w.heap.size + 1 + 1 + 1 + 1]? = _; rw [alloc_at, if_pos (by simp)]
          have hz5 : w5.heap.size = w.heap.size + 1 + 1 + 1 + 1 + 1 := by rw [hw5]; simp [World.drewN]
          have bT : Blk w5 (w.heap.size + 1 + 1) tIs (List.replicate n (Value.slice none 0 0)).toArray := by rw [hw5]; show (World.alloc _ _).heap[w.heap.size + 1 + 1]? = _; rw [alloc_at, if_neg (by simp), drew_heap, alloc_at, if_neg (by simp), alloc_at, if_pos (by simp), replA]
          have bA : Blk w5 (w.heap.size + 1 + 1 + 1) tWk nil5 := by rw [hw5]; show (World.alloc _ _).heap[w.heap.size + 1 + 1 + 1]? = _; rw [alloc_at, if_neg (by simp), drew_heap, alloc_at, if_pos (by simp)]
          have hb5 : Below (w.heap.size + 1) (w.alloc (.cells nil5 tWk)) w5 := by rw [hw5]; exact newB3 _ _ _ _ _ _ _
          have HB := Lib.hid hb5
          have a0 : w5.cell? ⟨w.heap.size + 1 + 1 + 1, 0, none⟩ = some (.slice none 0 0) := bA.cell 0
          have a1 : w5.cell? ⟨w.heap.size + 1 + 1 + 1, 1, none⟩ = some (.slice none 0 0) := bA.cell 1
          have a2 : w5.cell? ⟨w.heap.size + 1 + 1 + 1, 2, none⟩ = some (.slice none 0 0) := bA.cell 2
          have a3 : w5.cell? ⟨w.heap.size + 1 + 1 + 1, 3, none⟩ = some (.slice none 0 0) := bA.cell 3
          have a4 : w5.cell? ⟨w.heap.size + 1 + 1 + 1, 4, none⟩ = some (.slice none 0 0) := bA.cell 4
          have f0 := bA.frozen 0
          have f1 := bA.frozen 1
          have f2 := bA.frozen 2
          have f3 := bA.frozen 3
          have f4 := bA.frozen 4
          have al := bA.lt
          have HX := Lib.hid (And.intro bR (And.intro bT bA))
          clear bR hb5 hw5 bT bA
          have HZ := Lib.hid hz5
          clear hHeld
          refine hK.out _ _ trivial (fun hHeld => ?_)
          clear hK K
          try simp only [Act.put, List.setIfInBounds_toArray, List.set_cons_zero, List.set_cons_succ]
          refine tQ 7 hHeld ?_
          try simp only [Act.put, List.setIfInBounds_toArray, List.set_cons_zero, List.set_cons_succ]
          refine oneL (i := 9) rfl (by kernel_rfl) (fun K hK => ?_)
          go_simp
          clear hHeld
          refine hK.out _ _ trivial (fun hHeld => ?_)
          clear hK K
          try simp only [Act.put, List.setIfInBounds_toArray, List.set_cons_zero, List.set_cons_succ]
          refine wpAnyH_done (by kernel_rfl) ?_ _
          go_wp2_with fail
          go_meet
          exact ⟨w.heap.size + 1 + 1, w.heap.size + 1 + 1 + 1 + 1, w.heap.size + 1 + 1 + 1, .slice (some ⟨w.heap.size + 1 + 1 + 1 + 1, 0, none⟩) n n, rfl, st5_far HX.out.2.1 (by omega), rwRep (st5_far HX.out.1 (by omega)), st5_blk HX.out.2.2, ⟨by omega, by omega, by omega⟩, ⟨by omega, by omega, by omega⟩, st5_below HB.out (by omega)⟩
      · go_simp
        refine Calls.mono (HREP.out _ _ _ (by simp) (cellD (by rw [World.cell?_alloc_at _ _ _ _ (by simp)]; rfl))) ?_
        rintro e w5 ⟨rfl, d, hw5⟩
        have bR : Blk w5 (w.heap.size + 1 + 1) tI1 (intC (repC (-1) n n)) := by rw [hw5]; show (World.alloc _ _).heap[w.heap.size + 1 + 1]? = _; rw [alloc_at, if_pos (by simp)]
        have hz5 : w5.heap.size = w.heap.size + 1 + 1 + 1 := by rw [hw5]; simp [World.drewN]
        have hb5 : Below (w.heap.size + 1) (w.alloc (.cells nil5 tWk)) w5 := by rw [hw5]; exact newB1 _ _ _ _ _
        have HB := Lib.hid hb5
        have HX := Lib.hid (And.intro bR (And.intro trivial trivial))
        clear bR hb5 hw5
        have HZ := Lib.hid hz5
        clear hHeld
        refine hK.out _ _ trivial (fun hHeld => ?_)
        clear hK K
        try simp only [Act.put, List.setIfInBounds_toArray, List.set_cons_zero, List.set_cons_succ]
        refine twoL (i := 2) (j := 8) rfl rfl (by kernel_rfl) (fun K hK => ?_) (fun K hK => ?_)
        · go_simp
          clear hHeld
          refine hK.out _ _ trivial (fun hHeld => ?_)
          clear hK K
          try simp only [Act.put, List.setIfInBounds_toArray, List.set_cons_zero, List.set_cons_succ]
          refine tQ 7 hHeld ?_
          try simp only [Act.put, List.setIfInBounds_toArray, List.set_cons_zero, List.set_cons_succ]
          refine oneL (i := 8) rfl (by kernel_rfl) (fun K hK => ?_)
          go_simp
          clear hHeld
          refine hK.out _ _ trivial (fun hHeld => ?_)
          clear hK K
          try simp only [Act.put, List.setIfInBounds_toArray, List.set_cons_zero, List.set_cons_succ]
          refine oneL (i := 9) rfl (by kernel_rfl) (fun K hK => ?_)
          go_simp
          clear hHeld
          refine hK.out _ _ trivial (fun hHeld => ?_)
          clear hK K
          try simp only [Act.put, List.setIfInBounds_toArray, List.set_cons_zero, List.set_cons_succ]
          refine wpAnyH_done (by kernel_rfl) ?_ _
          go_wp2_with fail
          go_meet
          exact ⟨w.heap.size + 1 + 1 + 1, w.heap.size + 1 + 1, w.heap.size + 1 + 1 + 1 + 1, .slice (some ⟨w.heap.size + 1 + 1, 0, none⟩) n n, rfl, by rw [← replA]; exact (bN HZ.out.symm).alloc _, rwRep ((HX.out.1.alloc _).alloc _), bN (by rw [size1, HZ.out]), ⟨by omega, by omega, by omega⟩, ⟨by omega, by omega, by omega⟩, (HB.out.alloc (by rw [HZ.out]; omega) _).alloc (by rw [size1, HZ.out]; omega) _⟩
        · go_simp
          clear hHeld
          refine hK.out _ _ trivial (fun hHeld => ?_)
          clear hK K
          try simp only [Act.put, List.setIfInBounds_toArray, List.set_cons_zero, List.set_cons_succ]
          refine oneL (i := 2) rfl (by kernel_rfl) (fun K hK => ?_)
          go_simp
          clear hHeld
          refine hK.out _ _ trivial (fun hHeld => ?_)
          clear hK K
          try simp only [Act.put, List.setIfInBounds_toArray, List.set_cons_zero, List.set_cons_succ]
          refine tQ 7 hHeld ?_
          try simp only [Act.put, List.setIfInBounds_toArray, List.set_cons_zero, List.set_cons_succ]
          refine oneL (i := 9) rfl (by kernel_rfl) (fun K hK => ?_)
          go_simp
          clear hHeld
          refine hK.out _ _ trivial (fun hHeld => ?_)
          clear hK K
          try simp only [Act.put, List.setIfInBounds_toArray, List.set_cons_zero, List.set_cons_succ]
          refine wpAnyH_done (by kernel_rfl) ?_ _
          go_wp2_with fail
          go_meet
          exact ⟨w.heap.size + 1 + 1 + 1 + 1, w.heap.size + 1 + 1, w.heap.size + 1 + 1 + 1, .slice (some ⟨w.heap.size + 1 + 1, 0, none⟩) n n, rfl, by rw [← replA]; exact bN (by rw [size1, HZ.out]), rwRep ((HX.out.1.alloc _).alloc _), (bN HZ.out.symm).alloc _, ⟨by omega, by omega, by omega⟩, ⟨by omega, by omega, by omega⟩, (HB.out.alloc (by rw [HZ.out]; omega) _).alloc (by rw [size1, HZ.out]; omega) _⟩
      · go_simp
        clear hHeld
        refine hK.out _ _ trivial (fun hHeld => ?_)
        clear hK K
        try simp only [Act.put, List.setIfInBounds_toArray, List.set_cons_zero, List.set_cons_succ]
        refine twoL (i := 2) (j := 6) rfl rfl (by kernel_rfl) (fun K hK => ?_) (fun K hK => ?_)
        · go_simp
          clear hHeld
          refine hK.out _ _ trivial (fun hHeld => ?_)
          clear hK K
          try simp only [Act.put, List.setIfInBounds_toArray, List.set_cons_zero, List.set_cons_succ]
          refine oneL (i := 6) rfl (by kernel_rfl) (fun K hK => ?_)
          go_simp
          refine Calls.mono (HREP.out _ _ _ (by simp) (cellD (by rw [World.cell?_alloc_past _ _ _ (by simp), World.cell?_alloc_past _ _ _ (by simp), World.cell?_alloc_at _ _ _ _ (by simp)]; rfl))) ?_
          rintro e w5 ⟨rfl, d, hw5⟩
          have bR : Blk w5 (w.heap.size + 1 + 1 + 1 + 1) tI1 (intC (repC (-1) n n)) := by rw [hw5]; show (World.alloc _ _).heap[w.heap.size + 1 + 1 + 1 + 1]? = _; rw [alloc_at, if_pos (by simp)]
          have hz5 : w5.heap.size = w.heap.size + 1 + 1 + 1 + 1 + 1 := by rw [hw5]; simp [World.drewN]
          have bA : Blk w5 (w.heap.size + 1 + 1) tWk nil5 := by rw [hw5]; show (World.alloc _ _).heap[w.heap.size + 1 + 1]? = _; rw [alloc_at, if_neg (by simp), drew_heap, alloc_at, if_neg (by simp), alloc_at, if_pos (by simp)]
          have bT : Blk w5 (w.heap.size + 1 + 1 + 1) tIs (List.replicate n (Value.slice none 0 0)).toArray := by rw [hw5]; show (World.alloc _ _).heap[w.heap.size + 1 + 1 + 1]? = _; rw [alloc_at, if_neg (by simp), drew_heap, alloc_at, if_pos (by simp), replA]
          have hb5 : Below (w.heap.size + 1) (w.alloc (.cells nil5 tWk)) w5 := by rw [hw5]; exact newB3 _ _ _ _ _ _ _
          have HB := Lib.hid hb5
          have a0 : w5.cell? ⟨w.heap.size + 1 + 1, 0, none⟩ = some (.slice none 0 0) := bA.cell 0
          have a1 : w5.cell? ⟨w.heap.size + 1 + 1, 1, none⟩ = some (.slice none 0 0) := bA.cell 1
          have a2 : w5.cell? ⟨w.heap.size + 1 + 1, 2, none⟩ = some (.slice none 0 0) := bA.cell 2
          have a3 : w5.cell? ⟨w.heap.size + 1 + 1, 3, none⟩ = some (.slice none 0 0) := bA.cell 3
          have a4 : w5.cell? ⟨w.heap.size + 1 + 1, 4, none⟩ = some (.slice none 0 0) := bA.cell 4
          have f0 := bA.frozen 0
          have f1 := bA.frozen 1
          have f2 := bA.frozen 2
          have f3 := bA.frozen 3
          have f4 := bA.frozen 4
          have al := bA.lt
          have HX := Lib.hid (And.intro bR (And.intro bT bA))
          clear bR hb5 hw5 bT bA
          have HZ := Lib.hid hz5
          clear hHeld
          refine hK.out _ _ trivial (fun hHeld => ?_)
          clear hK K
          try simp only [Act.put, List.setIfInBounds_toArray, List.set_cons_zero, List.set_cons_succ]
          refine tQ 7 hHeld ?_
          try simp only [Act.put, List.setIfInBounds_toArray, List.set_cons_zero, List.set_cons_succ]
          refine oneL (i := 9) rfl (by kernel_rfl) (fun K hK => ?_)
          go_simp
          clear hHeld
          refine hK.out _ _ trivial (fun hHeld => ?_)
          clear hK K
          try simp only [Act.put, List.setIfInBounds_toArray, List.set_cons_zero, List.set_cons_succ]
          refine wpAnyH_done (by kernel_rfl) ?_ _
          go_wp2_with fail
          go_meet
          exact ⟨w.heap.size + 1 + 1 + 1, w.heap.size + 1 + 1 + 1 + 1, w.heap.size + 1 + 1, .slice (some ⟨w.heap.size + 1 + 1 + 1 + 1, 0, none⟩) n n, rfl, st5_far HX.out.2.1 (by omega), rwRep (st5_far HX.out.1 (by omega)), st5_blk HX.out.2.2, ⟨by omega, by omega, by omega⟩, ⟨by omega, by omega, by omega⟩, st5_below HB.out (by omega)⟩
        · go_simp
          refine Calls.mono (HREP.out _ _ _ (by simp) (cellD (by rw [World.cell?_alloc_past _ _ _ (by simp), World.cell?_alloc_at _ _ _ _ (by simp)]; rfl))) ?_
          rintro e w5 ⟨rfl, d, hw5⟩
          have bR : Blk w5 (w.heap.size + 1 + 1 + 1) tI1 (intC (repC (-1) n n)) := by rw [hw5]; show (World.alloc _ _).heap[w.heap.size + 1 + 1 + 1]? = _; rw [alloc_at, if_pos (by simp)]
          have hz5 : w5.heap.size = w.heap.size + 1 + 1 + 1 + 1 := by rw [hw5]; simp [World.drewN]
          have bA : Blk w5 (w.heap.size + 1 + 1) tWk nil5 := by rw [hw5]; show (World.alloc _ _).heap[w.heap.size + 1 + 1]? = _; rw [alloc_at, if_neg (by simp), drew_heap, alloc_at, if_pos (by simp)]
          have hb5 : Below (w.heap.size + 1) (w.alloc (.cells nil5 tWk)) w5 := by rw [hw5]; exact newB2 _ _ _ _ _ _
          have HB := Lib.hid hb5
          have a0 : w5.cell? ⟨w.heap.size + 1 + 1, 0, none⟩ = some (.slice none 0 0) := bA.cell 0
          have a1 : w5.cell? ⟨w.heap.size + 1 + 1, 1, none⟩ = some (.slice none 0 0) := bA.cell 1
          have a2 : w5.cell? ⟨w.heap.size + 1 + 1, 2, none⟩ = some (.slice none 0 0) := bA.cell 2
          have a3 : w5.cell? ⟨w.heap.size + 1 + 1, 3, none⟩ = some (.slice none 0 0) := bA.cell 3
          have a4 : w5.cell? ⟨w.heap.size + 1 + 1, 4, none⟩ = some (.slice none 0 0) := bA.cell 4
          have f0 := bA.frozen 0
          have f1 := bA.frozen 1
          have f2 := bA.frozen 2
          have f3 := bA.frozen 3
          have f4 := bA.frozen 4
          have al := bA.lt
          have HX := Lib.hid (And.intro bR (And.intro trivial bA))
          clear bR hb5 hw5 bA
          have HZ := Lib.hid hz5
          clear hHeld
          refine hK.out _ _ trivial (fun hHeld => ?_)
          clear hK K
          try simp only [Act.put, List.setIfInBounds_toArray, List.set_cons_zero, List.set_cons_succ]
          refine oneL (i := 2) rfl (by kernel_rfl) (fun K hK => ?_)
          go_simp
          clear hHeld
          refine hK.out _ _ trivial (fun hHeld => ?_)
          clear hK K
          try simp only [Act.put, List.setIfInBounds_toArray, List.set_cons_zero, List.set_cons_succ]
          refine tQ 7 hHeld ?_
          try simp only [Act.put, List.setIfInBounds_toArray, List.set_cons_zero, List.set_cons_succ]
          refine oneL (i := 9) rfl (by kernel_rfl) (fun K hK => ?_)
          go_simp
          clear hHeld
          refine hK.out _ _ trivial (fun hHeld => ?_)
          clear hK K
          try simp only [Act.put, List.setIfInBounds_toArray, List.set_cons_zero, List.set_cons_succ]
          refine wpAnyH_done (by kernel_rfl) ?_ _
          go_wp2_with fail
          go_meet
          exact ⟨w.heap.size + 1 + 1 + 1 + 1, w.heap.size + 1 + 1 + 1, w.heap.size + 1 + 1, .slice (some ⟨w.heap.size + 1 + 1 + 1, 0, none⟩) n n, rfl, by rw [← replA]; exact bN (by rw [st5_size, HZ.out]), rwRep ((st5_far HX.out.1 (by omega)).alloc _), (st5_blk HX.out.2.2).alloc _, ⟨by omega, by omega, by omega⟩, ⟨by omega, by omega, by omega⟩, (st5_below HB.out (by omega)).alloc (by rw [st5_size, HZ.out]; omega) _⟩
    · go_simp
      clear hHeld
      refine hK.out _ _ trivial (fun hHeld => ?_)
      clear hK K
      try simp only [Act.put, List.setIfInBounds_toArray, List.set_cons_zero, List.set_cons_succ]
      refine twoL (i := 2) (j := 3) rfl rfl (by kernel_rfl) (fun K hK => ?_) (fun K hK => ?_)
      · go_simp
        clear hHeld
        refine hK.out _ _ trivial (fun hHeld => ?_)
        clear hK K
        try simp only [Act.put, List.setIfInBounds_toArray, List.set_cons_zero, List.set_cons_succ]
        refine oneL (i := 3) rfl (by kernel_rfl) (fun K hK => ?_)
        go_simp
        clear hHeld
        refine hK.out _ _ trivial (fun hHeld => ?_)
        clear hK K
        try simp only [Act.put, List.setIfInBounds_toArray, List.set_cons_zero, List.set_cons_succ]
        refine oneL (i := 6) rfl (by kernel_rfl) (fun K hK => ?_)
        go_simp
        refine Calls.mono (HREP.out _ _ _ (by simp) (cellD (by rw [World.cell?_alloc_at _ _ _ _ (by simp)]; rfl))) ?_
        rintro e w5 ⟨rfl, d, hw5⟩
        have bR : Blk w5 (w.heap.size + 1 + 1 + 1 + 1) tI1 (intC (repC (-1) n n)) := by rw [hw5]; show (World.alloc _ _).heap[w.heap.size + 1 + 1 + 1 + 1]? = _; rw [alloc_at, if_pos (by simp)]
        have hz5 : w5.heap.size = w.heap.size + 1 + 1 + 1 + 1 + 1 := by rw [hw5]; simp [World.drewN]
        have bA : Blk w5 (w.heap.size + 1) tWk nil5 := by rw [hw5]; show (World.alloc _ _).heap[w.heap.size + 1]? = _; rw [alloc_at, if_neg (by simp), drew_heap, alloc_at, if_neg (by simp), alloc_at, if_neg (by simp), alloc_at, if_pos (by simp)]
        have bT : Blk w5 (w.heap.size + 1 + 1) tIs (List.replicate n (Value.slice none 0 0)).toArray := by rw [hw5]; show (World.alloc _ _).heap[w.heap.size + 1 + 1]? = _; rw [alloc_at, if_neg (by simp), drew_heap, alloc_at, if_neg (by simp), alloc_at, if_pos (by simp), replA]
        have hb5 : Below (w.heap.size + 1) (w.alloc (.cells nil5 tWk)) w5 := by rw [hw5]; exact newB3 _ _ _ _ _ _ _
        have HB := Lib.hid hb5
        have a0 : w5.cell? ⟨w.heap.size + 1, 0, none⟩ = some (.slice none 0 0) := bA.cell 0
        have a1 : w5.cell? ⟨w.heap.size + 1, 1, none⟩ = some (.slice none 0 0) := bA.cell 1
        have a2 : w5.cell? ⟨w.heap.size + 1, 2, none⟩ = some (.slice none 0 0) := bA.cell 2
        have a3 : w5.cell? ⟨w.heap.size + 1, 3, none⟩ = some (.slice none 0 0) := bA.cell 3
        have a4 : w5.cell? ⟨w.heap.size + 1, 4, none⟩ = some (.slice none 0 0) := bA.cell 4
        have f0 := bA.frozen 0
        have f1 := bA.frozen 1
        have f2 := bA.frozen 2
        have f3 := bA.frozen 3
        have f4 := bA.frozen 4
        have al := bA.lt
        have HX := Lib.hid (And.intro bR (And.intro bT bA))
        clear bR hb5 hw5 bT bA
        have HZ := Lib.hid hz5
        clear hHeld
        refine hK.out _ _ trivial (fun hHeld => ?_)
        clear hK K
        try simp only [Act.put, List.setIfInBounds_toArray, List.set_cons_zero, List.set_cons_succ]
        refine tQ 7 hHeld ?_
        try simp only [Act.put, List.setIfInBounds_toArray, List.set_cons_zero, List.set_cons_succ]
        refine oneL (i := 9) rfl (by kernel_rfl) (fun K hK => ?_)
        go_simp
        clear hHeld
        refine hK.out _ _ trivial (fun hHeld => ?_)
        clear hK K
        try simp only [Act.put, List.setIfInBounds_toArray, List.set_cons_zero, List.set_cons_succ]
        refine wpAnyH_done (by kernel_rfl) ?_ _
        go_wp2_with fail
        go_meet
        exact ⟨w.heap.size + 1 + 1, w.heap.size + 1 + 1 + 1 + 1, w.heap.size + 1, .slice (some ⟨w.heap.size + 1 + 1 + 1 + 1, 0, none⟩) n n, rfl, st5_far HX.out.2.1 (by omega), rwRep (st5_far HX.out.1 (by omega)), st5_blk HX.out.2.2, ⟨by omega, by omega, by omega⟩, ⟨by omega, by omega, by omega⟩, st5_below HB.out (by omega)⟩
      · go_simp
        clear hHeld
        refine hK.out _ _ trivial (fun hHeld => ?_)
        clear hK K
        try simp only [Act.put, List.setIfInBounds_toArray, List.set_cons_zero, List.set_cons_succ]
        refine twoL (i := 2) (j := 6) rfl rfl (by kernel_rfl) (fun K hK => ?_) (fun K hK => ?_)
        · go_simp
          clear hHeld
          refine hK.out _ _ trivial (fun hHeld => ?_)
          clear hK K
          try simp only [Act.put, List.setIfInBounds_toArray, List.set_cons_zero, List.set_cons_succ]
          refine oneL (i := 6) rfl (by kernel_rfl) (fun K hK => ?_)
          go_simp
          refine Calls.mono (HREP.out _ _ _ (by simp) (cellD (by rw [World.cell?_alloc_past _ _ _ (by simp), World.cell?_alloc_at _ _ _ _ (by simp)]; rfl))) ?_
          rintro e w5 ⟨rfl, d, hw5⟩
          have bR : Blk w5 (w.heap.size + 1 + 1 + 1 + 1) tI1 (intC (repC (-1) n n)) := by rw [hw5]; show (World.alloc _ _).heap[w.heap.size + 1 + 1 + 1 + 1]? = _; rw [alloc_at, if_pos (by simp)]
          have hz5 : w5.heap.size = w.heap.size + 1 + 1 + 1 + 1 + 1 := by rw [hw5]; simp [World.drewN]
          have bA : Blk w5 (w.heap.size + 1) tWk nil5 := by rw [hw5]; show (World.alloc _ _).heap[w.heap.size + 1]? = _; rw [alloc_at, if_neg (by simp), drew_heap, alloc_at, if_neg (by simp), alloc_at, if_neg (by simp), alloc_at, if_pos (by simp)]
          have bT : Blk w5 (w.heap.size + 1 + 1 + 1) tIs (List.replicate n (Value.slice none 0 0)).toArray := by rw [hw5]; show (World.alloc _ _).heap[w.heap.size + 1 + 1 + 1]? = _; rw [alloc_at, if_neg (by simp), drew_heap, alloc_at, if_pos (by simp), replA]
          have hb5 : Below (w.heap.size + 1) (w.alloc (.cells nil5 tWk)) w5 := by rw [hw5]; exact newB3 _ _ _ _ _ _ _
          have HB := Lib.hid hb5
          have a0 : w5.cell? ⟨w.heap.size + 1, 0, none⟩ = some (.slice none 0 0) := bA.cell 0
          have a1 : w5.cell? ⟨w.heap.size + 1, 1, none⟩ = some (.slice none 0 0) := bA.cell 1
          have a2 : w5.cell? ⟨w.heap.size + 1, 2, none⟩ = some (.slice none 0 0) := bA.cell 2
          have a3 : w5.cell? ⟨w.heap.size + 1, 3, none⟩ = some (.slice none 0 0) := bA.cell 3
          have a4 : w5.cell? ⟨w.heap.size + 1, 4, none⟩ = some (.slice none 0 0) := bA.cell 4
          have f0 := bA.frozen 0
          have f1 := bA.frozen 1
          have f2 := bA.frozen 2
          have f3 := bA.frozen 3
          have f4 := bA.frozen 4
          have al := bA.lt
          have HX := Lib.hid (And.intro bR (And.intro bT bA))
          clear bR hb5 hw5 bT bA
          have HZ := Lib.hid hz5
          clear hHeld
          refine hK.out _ _ trivial (fun hHeld => ?_)
          clear hK K
          try simp only [Act.put, List.setIfInBounds_toArray, List.set_cons_zero, List.set_cons_succ]
          refine tQ 7 hHeld ?_
          try simp only [Act.put, List.setIfInBounds_toArray, List.set_cons_zero, List.set_cons_succ]
          refine oneL (i := 9) rfl (by kernel_rfl) (fun K hK => ?_)
          go_simp
          clear hHeld
          refine hK.out _ _ trivial (fun hHeld => ?_)
          clear hK K
          try simp only [Act.put, List.setIfInBounds_toArray, List.set_cons_zero, List.set_cons_succ]
          refine wpAnyH_done (by kernel_rfl) ?_ _
          go_wp2_with fail
          go_meet
          exact ⟨w.heap.size + 1 + 1 + 1, w.heap.size + 1 + 1 + 1 + 1, w.heap.size + 1, .slice (some ⟨w.heap.size + 1 + 1 + 1 + 1, 0, none⟩) n n, rfl, st5_far HX.out.2.1 (by omega), rwRep (st5_far HX.out.1 (by omega)), st5_blk HX.out.2.2, ⟨by omega, by omega, by omega⟩, ⟨by omega, by omega, by omega⟩, st5_below HB.out (by omega)⟩
        · go_simp
          refine Calls.mono (HREP.out _ _ _ (by simp) (cellD (by rw [World.cell?_alloc_at _ _ _ _ (by simp)]; rfl))) ?_
          rintro e w5 ⟨rfl, d, hw5⟩
          have bR : Blk w5 (w.heap.size + 1 + 1 + 1) tI1 (intC (repC (-1) n n)) := by rw [hw5]; show (World.alloc _ _).heap[w.heap.size + 1 + 1 + 1]? = _; rw [alloc_at, if_pos (by simp)]
          have hz5 : w5.heap.size = w.heap.size + 1 + 1 + 1 + 1 := by rw [hw5]; simp [World.drewN]
          have bA : Blk w5 (w.heap.size + 1) tWk nil5 := by rw [hw5]; show (World.alloc _ _).heap[w.heap.size + 1]? = _; rw [alloc_at, if_neg (by simp), drew_heap, alloc_at, if_neg (by simp), alloc_at, if_pos (by simp)]
          have hb5 : Below (w.heap.size + 1) (w.alloc (.cells nil5 tWk)) w5 := by rw [hw5]; exact newB2 _ _ _ _ _ _
          have HB := Lib.hid hb5
          have a0 : w5.cell? ⟨w.heap.size + 1, 0, none⟩ = some (.slice none 0 0) := bA.cell 0
          have a1 : w5.cell? ⟨w.heap.size + 1, 1, none⟩ = some (.slice none 0 0) := bA.cell 1
          have a2 : w5.cell? ⟨w.heap.size + 1, 2, none⟩ = some (.slice none 0 0) := bA.cell 2
          have a3 : w5.cell? ⟨w.heap.size + 1, 3, none⟩ = some (.slice none 0 0) := bA.cell 3
          have a4 : w5.cell? ⟨w.heap.size + 1, 4, none⟩ = some (.slice none 0 0) := bA.cell 4
          have f0 := bA.frozen 0
          have f1 := bA.frozen 1
          have f2 := bA.frozen 2
          have f3 := bA.frozen 3
          have f4 := bA.frozen 4
          have al := bA.lt
          have HX := Lib.hid (And.intro bR (And.intro trivial bA))
          clear bR hb5 hw5 bA
          have HZ := Lib.hid hz5
          clear hHeld
          refine hK.out _ _ trivial (fun hHeld => ?_)
          clear hK K
          try simp only [Act.put, List.setIfInBounds_toArray, List.set_cons_zero, List.set_cons_succ]
          refine oneL (i := 2) rfl (by kernel_rfl) (fun K hK => ?_)
          go_simp
          clear hHeld
          refine hK.out _ _ trivial (fun hHeld => ?_)
          clear hK K
          try simp only [Act.put, List.setIfInBounds_toArray, List.set_cons_zero, List.set_cons_succ]
          refine tQ 7 hHeld ?_
          try simp only [Act.put, List.setIfInBounds_toArray, List.set_cons_zero, List.set_cons_succ]
          refine oneL (i := 9) rfl (by kernel_rfl) (fun K hK => ?_)
          go_simp
          clear hHeld
          refine hK.out _ _ trivial (fun hHeld => ?_)
          clear hK K
          try simp only [Act.put, List.setIfInBounds_toArray, List.set_cons_zero, List.set_cons_succ]
          refine wpAnyH_done (by kernel_rfl) ?_ _
          go_wp2_with fail
          go_meet
          exact ⟨w.heap.size + 1 + 1 + 1 + 1, w.heap.size + 1 + 1 + 1, w.heap.size + 1, .slice (some ⟨w.heap.size + 1 + 1 + 1, 0, none⟩) n n, rfl, by rw [← replA]; exact bN (by rw [st5_size, HZ.out]), rwRep ((st5_far HX.out.1 (by omega)).alloc _), (st5_blk HX.out.2.2).alloc _, ⟨by omega, by omega, by omega⟩, ⟨by omega, by omega, by omega⟩, (st5_below HB.out (by omega)).alloc (by rw [st5_size, HZ.out]; omega) _⟩
  case rest =>
    obtain ⟨tb, nb, wb, nv, rfl, hbt, hrn, hbw, hne, hlo, hbel⟩ := hcut
    obtain ⟨lo, hlo'⟩ : ∃ lo, wc.heap.size = lo := ⟨_, rfl⟩
    have hlt : tb < lo ∧ nb < lo ∧ wb < lo := by rw [← hlo']; exact ⟨hbt.lt, hrn.lt, hbw.lt⟩
    have HC := Lib.hid (And.intro hbt (And.intro hrn (And.intro hbw (And.intro hbel hlo'))))
    clear hbt hrn hbw hbel hlo'
    go_wp2_with fail
    go_loopw [17] (fun v wr => ∃ (k : Nat) (vals : List Value), k ≤ n ∧ v = .int .i64 k ∧ TosK wr lo tb n k es vals ∧ RwI wr nb nv (List.replicate n (-1)) ∧ Blk wr wb tWk #[.slice (some ⟨tb, 0, none⟩) n n, nv, .slice none 0 0, .slice none 0 0, .slice none 0 0] ∧ lo ≤ wr.heap.size ∧ Below (w.heap.size + 1) (w.alloc (.cells nil5 tWk)) wr) (fun v _ => n - (intOf v).toNat)
    case atStart => exact ⟨0, [], by omega, rfl, ⟨rfl, HC.out.1, fun a v e h => by simp at h⟩, HC.out.2.1, HC.out.2.2.1, by rw [HC.out.2.2.2.2]; exact Nat.le_refl _, HC.out.2.2.2.1⟩
    case round =>
      obtain ⟨k, vals, hk, rfl, htk, hrn, hbw, hls, hbel⟩ := hrel
      have heb : eb < w.heap.size := HE.out.1.lt
      have hew : RwE wr eb (.slice (some ⟨eb, 0, none⟩) n cap) es := by
        have h1 := HE.out.1
        rw [HE.out.2.1] at h1
        have h2 : RwE (w.alloc (.cells nil5 tWk)) eb _ es := h1.on ((Below.refl _ _).alloc (Nat.le_refl _) _)
        exact h2.below hbel (by omega)
      by_cases hlt2 : k < n
      · have hke : k < es.length := by rw [HE.out.2.1]; exact hlt2
        have hx9 := List.getElem?_eq_getElem hke
        have hmem := List.getElem_mem hke
        generalize es[k] = e at *
        obtain ⟨x0, x1, x2, x3⟩ := hew.cells hx9
        have xl := hew.lt
        have hnz := nz_tosN HE.out.2.2 hmem
        obtain ⟨k0, a0, to0, el0⟩ := e
        simp only at x0 x1 x2 x3
        have y0 : wr.cell? ⟨wb, 0, none⟩ = some (.slice (some ⟨tb, 0, none⟩) n n) := hbw.cell 0
        have z0 : wr.cell? ⟨tb, k, none⟩ = some (.slice none 0 0) := by
          rw [htk.blk.cell, List.getElem?_toArray, List.getElem?_append_right (by rw [htk.len]; exact Nat.le_refl _), htk.len, Nat.sub_self, List.getElem?_replicate, if_pos (by omega)]
        have zf := htk.blk.frozen k
        have yl := hbw.lt
        have zl := htk.blk.lt
        have HR := Lib.hid (And.intro htk (And.intro hrn (And.intro hbw (And.intro hls (And.intro hbel (And.intro hx9 hnz))))))
        clear htk hrn hbw hbel hew hx9 hmem hnz
        go_upto_region 5 with (fail)
        have hB4 : Below wr.heap.size wr (wr.alloc (.cells #[.int .i64 k0, .int .i64 a0, .int .i64 to0, .int .i64 el0] tEn')) := (Below.refl _ _).alloc (Nat.le_refl _) _
        have hb4 := Blk.new wr tEn' #[.int .i64 k0, .int .i64 a0, .int .i64 to0, .int .i64 el0]
        obtain ⟨H, hH⟩ : ∃ H, wr.heap.size = H := ⟨_, rfl⟩
        rw [hH] at hb4
        generalize hW4 : wr.alloc (.cells #[.int .i64 k0, .int .i64 a0, .int .i64 to0, .int .i64 el0] tEn') = W4 at *
        try simp only [hH]
        have q0 : W4.cell? ⟨H, 0, none⟩ = some (.int .i64 k0) := hb4.cell 0
        have q1 : W4.cell? ⟨H, 1, none⟩ = some (.int .i64 a0) := hb4.cell 1
        have q2 : W4.cell? ⟨H, 2, none⟩ = some (.int .i64 to0) := hb4.cell 2
        have q3 : W4.cell? ⟨H, 3, none⟩ = some (.int .i64 el0) := hb4.cell 3
        have ql := hb4.lt
        have y4 : W4.cell? ⟨wb, 0, none⟩ = some (.slice (some ⟨tb, 0, none⟩) n n) := (hB4.cell (p := ⟨wb, 0, none⟩) yl).trans y0
        have yl4 : wb < W4.heap.size := Nat.lt_of_lt_of_le yl hB4.size
        have zl4 : tb < W4.heap.size := Nat.lt_of_lt_of_le zl hB4.size
        have z4 : W4.cell? ⟨tb, k, none⟩ = some (.slice none 0 0) := (hB4.cell (p := ⟨tb, k, none⟩) zl).trans z0
        have hbt4 : Blk W4 tb tIs (vals ++ List.replicate (n - k) (Value.slice none 0 0)).toArray := HR.out.1.blk.on hB4
        have HBT := Lib.hid hbt4
        clear hbt4
        have hHt : H ≠ tb := by omega
        have hwt : wb ≠ tb := by omega
        have HS : Hid (∀ Wx, Go.Proofs.Ytjmlpbnejcfnhaa.Fr W4.heap.size (fun b => b = tb) W4 Wx → Wx.cell? ⟨wb, 0, none⟩ = some (.slice (some ⟨tb, 0, none⟩) n n) ∧ Wx.cell? ⟨H, 0, none⟩ = some (.int .i64 k0) ∧ Wx.cell? ⟨H, 1, none⟩ = some (.int .i64 a0) ∧ Wx.cell? ⟨H, 2, none⟩ = some (.int .i64 to0) ∧ Wx.cell? ⟨H, 3, none⟩ = some (.int .i64 el0) ∧ H < Wx.heap.size ∧ wb < Wx.heap.size ∧ tb < Wx.heap.size) := Lib.hid fun Wx h => by
          have e : ∀ {b i : Nat} {v : Value}, b < W4.heap.size → b ≠ tb → W4.cell? ⟨b, i, none⟩ = some v → Wx.cell? ⟨b, i, none⟩ = some v := fun h1 h2 h3 => by
            unfold World.cell? at h3 ⊢
            simp only [h.block _ h1 h2]
            exact h3
          have := h.size
          exact ⟨e yl4 hwt y4, e ql hHt q0, e ql hHt q1, e ql hHt q2, e ql hHt q3, by omega, by omega, by omega⟩
        have HTOS : Hid (∀ W, Calls Try.prog 15 #[.agg #[.int .i64 k0, .int .i64 a0, .int .i64 to0, .int .i64 el0]] W fun r w' => ∃ v, r = .returned v ∧ RdI w' W.heap.size w'.heap.size v (tosM ⟨k0, a0, to0, el0⟩) ∧ Below W.heap.size W w') := Lib.hid fun W => tos_any ⟨k0, a0, to0, el0⟩ W
        have J : Go.Proofs.Ytjmlpbnejcfnhaa.Fr W4.heap.size (fun b => b = tb) W4 W4 := Fr.refl _
        have HB4 := Lib.hid (And.intro hB4 (And.intro hb4 hH))
        clear hB4 hb4 hH hW4 x0 x1 x2 x3 xl y0 z0 zf yl zl
        go_region_held3 (fun Wx => Wx.cell? ⟨wb, 0, none⟩ = some (.slice (some ⟨tb, 0, none⟩) n n) ∧ Wx.cell? ⟨H, 0, none⟩ = some (.int .i64 k0) ∧ Wx.cell? ⟨H, 1, none⟩ = some (.int .i64 a0) ∧ Wx.cell? ⟨H, 2, none⟩ = some (.int .i64 to0) ∧ Wx.cell? ⟨H, 3, none⟩ = some (.int .i64 el0) ∧ H < Wx.heap.size ∧ wb < Wx.heap.size ∧ tb < Wx.heap.size)
            (first | exact HS.out _ J | exact HS.out _ (J.trans (Fr.drewN 1)) | exact HS.out _ (J.trans (Fr.set (.inl rfl))))
            (first | (go_at_call 15; (with_reducible refine Calls.mono (HTOS.out _) ?_); rintro e w5 ⟨v, rfl, hrd, hb5⟩; have hb5' : Below W4.heap.size W4 w5 := Below.trans (below_drewN _ W4 1) hb5; have J : Go.Proofs.Ytjmlpbnejcfnhaa.Fr W4.heap.size (fun b => b = tb) W4 w5 := Fr.of hb5' (Nat.le_refl _); have z5 : w5.cell? ⟨tb, k, none⟩ = some (.slice none 0 0) := (hb5'.cell (p := ⟨tb, k, none⟩) zl4).trans z4; have bt5 : Blk w5 tb tIs _ := (hb5'.block _ zl4).trans HBT.out; have f5 := bt5.frozen k; have l5 := bt5.lt; have BT5 := Lib.hid bt5; clear bt5; have H5 := Lib.hid (And.intro hrd hb5'); obtain ⟨vA, vc, rfl, -, -⟩ := hrd.sl; clear hrd hb5 hb5'))
        all_goals
          have hsz4 : lo ≤ W4.heap.size := Nat.le_trans HR.out.2.2.2.1 HB4.out.1.size
          have hsz5 := H5.out.2.size
          have hlt9 := hlt
          have hB45 := HB4.out.1.trans (H5.out.2.mono HB4.out.1.size)
          have hn9 := HR.out.1.next hlt2 HR.out.2.2.2.1 hlt9.1 HB4.out.1 H5.out.2 HR.out.2.2.2.2.2.1 H5.out.1
          have hr9 := (HR.out.2.1.on hB45).far (p := ⟨tb, k, none⟩) (fun e => hne.1 e.symm) (.slice vA (tosM ⟨k0, a0, to0, el0⟩).length vc)
          have hw9 := (HR.out.2.2.1.on hB45).far (p := ⟨tb, k, none⟩) (fun e => hne.2.1 e.symm) (.slice vA (tosM ⟨k0, a0, to0, el0⟩).length vc)
          have hb9 := (HR.out.2.2.2.2.1.trans (hB45.mono (by have := HR.out.2.2.2.1; omega))).setCell (p := ⟨tb, k, none⟩) (show w.heap.size + 1 ≤ tb by omega) (.slice vA (tosM ⟨k0, a0, to0, el0⟩).length vc)
          have hs9 : lo ≤ (w5.setCell ⟨tb, k, none⟩ (.slice vA (tosM ⟨k0, a0, to0, el0⟩).length vc)).heap.size := by simp; omega
          have HF := Lib.hid (And.intro hn9 (And.intro hr9 (And.intro hw9 (And.intro hs9 hb9))))
          clear hn9 hr9 hw9 hs9 hb9 hB45 hsz4 hsz5 hlt9
          go_wp2_with fail
          exact ⟨⟨k + 1, _, by omega, by go_num, HF.out.1, HF.out.2.1, HF.out.2.2.1, HF.out.2.2.2.1, HF.out.2.2.2.2⟩, by simp [intOf]; omega⟩
      · obtain rfl : k = n := by omega
        have hbt := htk.blk
        rw [Nat.sub_self, List.replicate_zero, List.append_nil] at hbt
        obtain ⟨hi, hhi⟩ : ∃ hi, wr.heap.size = hi := ⟨_, rfl⟩
        have hts : TosV wr lo hi tb vals (es.map tosN) := by
          refine ⟨by rw [htk.len, List.length_map, HE.out.2.1], fun a v r h1 h2 => ?_, hbt⟩
          rw [List.getElem?_map] at h2
          rcases he : es[a]? with _ | e
          · rw [he] at h2; cases h2
          · rw [he] at h2
            obtain rfl := Option.some.inj h2
            rw [nz_tosN HE.out.2.2 (List.mem_of_getElem? he), ← hhi]
            exact htk.row a v e h1 he
        have HR := Lib.hid (And.intro hts (And.intro hrn (And.intro hbw (And.intro hls (And.intro hbel hhi)))))
        clear htk hrn hbw hls hbel hbt hts hhi hew
        go_upto_region 10 with (fail)
        have hT := tosN_ok HE.out.2.2
        rw [HE.out.2.1] at hT
        have hT1 := hT.1
        obtain ⟨T, hTe⟩ : ∃ T, es.map tosN = T := ⟨_, rfl⟩
        rw [hTe] at hT hT1 HR
        have hvn := Blk.new wr tVi #[.func (.func 47) #[] #[.pointer (some ⟨wb, 0, none⟩), .pointer (some ⟨wr.heap.size, 0, none⟩)]]
        have hbW : Below wr.heap.size wr (wr.alloc (.cells #[.func (.func 47) #[] #[.pointer (some ⟨wb, 0, none⟩), .pointer (some ⟨wr.heap.size, 0, none⟩)]] tVi)) := (Below.refl _ _).alloc (Nat.le_refl _) _
        have hszW : (wr.alloc (.cells #[.func (.func 47) #[] #[.pointer (some ⟨wb, 0, none⟩), .pointer (some ⟨wr.heap.size, 0, none⟩)]] tVi)).heap.size = wr.heap.size + 1 := size1 _ _
        generalize wr.alloc (.cells #[.func (.func 47) #[] #[.pointer (some ⟨wb, 0, none⟩), .pointer (some ⟨wr.heap.size, 0, none⟩)]] tVi) = WV at *
        rw [HR.out.2.2.2.2.2] at hvn hszW hbW ⊢
        have hlh : lo ≤ hi := by rw [← HR.out.2.2.2.2.2]; exact HR.out.2.2.2.1
        obtain ⟨X, hXe⟩ : ∃ X : VX, X = ⟨lo, hi, tb, nb, wb, hi, vals, T⟩ := ⟨_, rfl⟩
        have hX : X.ok := by subst hXe; exact ⟨hlt.1, hlt.2.1, hlt.2.2, hlh, rfl, by omega⟩
        have hroN : Ro3 WV hi (.slice none 0 0) (.slice none 0 0) (.slice none 0 0) [] [] [] := ⟨World.ownsRow_nil _ _ _ _, World.ownsRow_nil _ _ _ _, World.ownsRow_nil _ _ _ _, fun i h => (by cases h), fun i h => (by cases h), fun i h => (by cases h)⟩
        have hbWr : Below wr.heap.size wr WV := by rw [HR.out.2.2.2.2.2]; exact hbW
        have hk0 : WkV X WV (wk0 k) := by
          subst hXe
          refine ⟨⟨nv, _, _, _, ?_, HR.out.2.1.on hbWr, hroN⟩, HR.out.1.keep (fun g _ hg => hbW.block g hg) (hbW.block tb (by show tb < hi; omega)), hvn⟩
          have h1 := HR.out.2.2.1.on hbWr
          simp only [hT1]
          exact h1
        have hneg : (wk0 k).num.getD 0 0 < 0 := by rw [List.getD_eq_getElem?_getD]; simp [wk0, List.getElem?_replicate, h0]
        have hun : (wk0 k).un ≤ k := by refine Nat.le_trans List.countP_le_length ?_; simp [wk0]
        have hXT : X.T = T := by subst hXe; rfl
        have hwbk : WkB k k (wk0 k) := ⟨by simpa [wk0] using hun, rfl, by simpa [wk0] using hun, by simp [wk0]⟩
        have HV : Hid (Calls Try.prog 47 #[.int .i64 0, .int .i64 0, .pointer (some ⟨wb, 0, none⟩), .pointer (some ⟨hi, 0, none⟩)] WV fun e w' => e = .returned (.tuple #[]) ∧ WkV X w' (visW T k 0 0 (wk0 k)) ∧ X.Fr WV w') := Lib.hid (by
          have h9 := visit_all hX (N := k) (by rw [hXT]; exact hT) hm k k 0 0 (wk0 k) WV hk0 hneg hun hwbk (by omega) h0 (by omega)
          rw [hXT] at h9
          subst hXe
          exact h9)
        have v0 : WV.cell? ⟨hi, 0, none⟩ = some (.func (.func 47) #[] #[.pointer (some ⟨wb, 0, none⟩), .pointer (some ⟨hi, 0, none⟩)]) := hvn.cell 0
        have vl := hvn.lt
        have hvis := walk_vis hT h0
        have hvb := (visW_b (T := T) k k 0 0 (wk0 k) hwbk hneg).o
        have hwe := walkM_eq hT h0
        have HX := Lib.hid (And.intro hX (And.intro hXe (And.intro hXT (And.intro hT (And.intro hvis (And.intro hbW (And.intro hTe (And.intro hT1 (And.intro hvb hwe)))))))))
        clear hX hXT hT hvis hvb hwe hbW hbWr hvn hroN hk0 hneg hun hwbk hTe hT1 hszW
        go_wp2_with fail
        refine HV.out.mono ?_
        rintro e w8 ⟨rfl, hk8, hf8⟩
        obtain ⟨s8, hs8⟩ : ∃ s8, visW T k 0 0 (wk0 k) = s8 := ⟨_, rfl⟩
        rw [hs8] at hk8
        have hvis := HX.out.2.2.2.2.1
        rw [hs8] at hvis
        obtain ⟨nv8, bv8, pv8, ov8, hw8, hn8, hr8⟩ := hk8.x
        obtain ⟨ncap8, rfl, -, -⟩ := hn8.sl
        obtain ⟨bA8, bn8, bc8, rfl⟩ := own_form hr8.b
        obtain ⟨pA8, pn8, pc8, rfl⟩ := own_form hr8.p
        obtain ⟨oA8, on8, oc8, rfl⟩ := own_form hr8.o
        generalize hnl8 : s8.num.length = nn8 at *
        obtain ⟨oo, hoo⟩ := hvis.fi
        have hol : 0 < s8.ord.length := by rw [hoo]; simp
        have hoN : s8.ord.length ≤ 1000000 := by
          have h9 := HX.out.2.2.2.2.2.2.2.2.1
          rw [hs8] at h9
          omega
        obtain ⟨ob, hob, hro⟩ := RwI.of_row (l := nz s8.ord) hr8.o (by simp [nz]) hol
        have hXf := HX.out.2.1
        subst hXf
        simp only at hw8 hn8 hr8 hob hf8
        have c4 : w8.cell? ⟨wb, 4, none⟩ = some (.slice oA8 on8 oc8) := hw8.cell 4
        have cl := hw8.lt
        have HREV := Lib.hid (ireverse_any hro (by simpa [nz] using hoN))
        have H8 := Lib.hid (And.intro hk8 (And.intro hf8 (And.intro hw8 (And.intro hn8 (And.intro hr8 (And.intro hob (And.intro hro hs8)))))))
        clear hk8 hf8 hw8 hn8 hr8 hob hro hs8 hvis hoo hol hoN HV
        go_wp2_with fail
        refine HREV.out.mono ?_
        rintro e w9 ⟨rfl, hr9, ho9⟩
        have hbr : ob ≠ wb := by have : hi ≤ ob := H8.out.2.2.2.2.2.1; omega
        have hhw : w.heap.size < hi := by omega
        -- the walk's box, and the result's, behind the reversing
        have hz9 : hi ≤ w8.heap.size := by have h9 := H8.out.1.v.lt; exact Nat.le_of_lt h9
        have hw9 : Blk w9 wb tWk _ := (ho9.block wb (by omega) (fun e => hbr e.symm)).trans H8.out.2.2.1
        have hres : Blk (w.alloc (.cells nil5 tWk)) w.heap.size tWk nil5 := Blk.new w tWk nil5
        have hresr : Blk wr w.heap.size tWk nil5 := hres.below HR.out.2.2.2.2.1 (by omega)
        have hresW : Blk WV w.heap.size tWk nil5 := hresr.below HX.out.2.2.2.2.2.1 hhw
        have hres8 : Blk w8 w.heap.size tWk nil5 := (H8.out.2.1.block w.heap.size hhw (by rintro (e | e) <;> (simp only at e; omega))).trans hresW
        have hres9 : Blk w9 w.heap.size tWk nil5 := (ho9.block w.heap.size (by omega) (fun e => by have h9 : hi ≤ ob := H8.out.2.2.2.2.2.1; have e' : w.heap.size = ob := e; omega)).trans hres8
        have H9 := Lib.hid (And.intro hr9 (And.intro ho9 (And.intro hw9 hres9)))
        have b1 := hw9
        have b2 := hres9
        clear hr9 ho9 hres hresr hresW hres8 HREV
        go_upto_region 12 with (fail)
        have hr4 := setRow_heap w9 w.heap.size nil5 #[.slice (some ⟨tb, 0, none⟩) T.length T.length, .slice (some ⟨nb, 0, none⟩) nn8 ncap8, .slice bA8 bn8 bc8, .slice pA8 pn8 pc8, .slice oA8 on8 oc8] tWk (0, 0) b2
        have HE4 := Lib.hid (And.intro hr4 (Go.below_setRow (B := w.heap.size) (w0 := w9) (Below.refl _ _) (Nat.le_refl _) #[.slice (some ⟨tb, 0, none⟩) T.length T.length, .slice (some ⟨nb, 0, none⟩) nn8 ncap8, .slice bA8 bn8 bc8, .slice pA8 pn8 pc8, .slice oA8 on8 oc8]))
        clear hr4
        refine wp_region_list ?_
        refine wpList_load_row rfl tWk _ rfl wb rfl tWk _ (0, 0) _ b1 Try.underlying63 rfl wkInf ?_
        refine wpList_store_row rfl tWk _ _ rfl w.heap.size _ rfl rfl tWk nil5 b2 wkInf rfl (by simp [Value.oneCell']) ?_
        refine wpList_nil ?_
        go_wp2_with fail
        refine bodyPost_ret (results_cell_row rfl _ _ w.heap.size tWk _ (0, 0) _ rfl HE4.out.1 Try.underlying63 rfl wkInf) rfl ?_
        -- the end
        obtain ⟨hr9, ho9, hw9', hres9'⟩ := H9.out
        have hs9 := ho9.size
        have hfin : ∀ g, g ≠ w.heap.size → (w9.setRow w.heap.size #[.slice (some ⟨tb, 0, none⟩) T.length T.length, .slice (some ⟨nb, 0, none⟩) nn8 ncap8, .slice bA8 bn8 bc8, .slice pA8 pn8 pc8, .slice oA8 on8 oc8]).heap[g]? = w9.heap[g]? := fun g hg => setRow_other w9 w.heap.size g _ hg
        have hsr : (w9.setRow w.heap.size #[.slice (some ⟨tb, 0, none⟩) T.length T.length, .slice (some ⟨nb, 0, none⟩) nn8 ncap8, .slice bA8 bn8 bc8, .slice pA8 pn8 pc8, .slice oA8 on8 oc8]).heap.size = w9.heap.size := by simp
        have hhz : hi ≤ w8.heap.size := by omega
        -- rows behind
        have hk1 : walkM T = { s8 with ord := s8.ord.reverse } := by
          have h9 := HX.out.2.2.2.2.2.2.2.2.2
          rw [H8.out.2.2.2.2.2.2.2] at h9
          exact h9
        have far8 : ∀ (W : World), (∀ g, w.heap.size ≤ g → g < (w9.setRow w.heap.size #[.slice (some ⟨tb, 0, none⟩) T.length T.length, .slice (some ⟨nb, 0, none⟩) nn8 ncap8, .slice bA8 bn8 bc8, .slice pA8 pn8 pc8, .slice oA8 on8 oc8]).heap.size → W.heap[g]? = (w9.setRow w.heap.size #[.slice (some ⟨tb, 0, none⟩) T.length T.length, .slice (some ⟨nb, 0, none⟩) nn8 ncap8, .slice bA8 bn8 bc8, .slice pA8 pn8 pc8, .slice oA8 on8 oc8]).heap[g]?) → ∀ {v : Value} {l : List Int}, w8.ownsRow hi tI1 1 v l.length (l.map (Value.int .i64)) → v.ownBlock ≠ some ob → RdV W W.heap.size v l := fun W hW _ _ h hne => rdV_row (base := hi) (rowKeep h fun i hi' => by
          have h1 := own_lt h hi'
          rw [hW i (by omega) (by rw [hsr]; omega), hfin i (by omega)]
          exact ho9.block i h1.1 (fun e => hne (by rw [hi', e])))
        have hlb := H8.out.2.2.2.2.2.1
        have hro := H8.out.2.2.2.2.2.2.1
        have hr8 := H8.out.2.2.2.2.1
        have hnum := H8.out.2.2.2.1
        obtain ⟨ocap, hoe, -, -⟩ := hro.sl
        have hoB : (Value.slice oA8 on8 oc8).ownBlock = some ob := by rw [hoe]; rfl
        have hlh9 : lo ≤ hi := hlh
        have eB : s8.blk.length = (nz s8.blk).length := by simp [nz]
        have eP : s8.par.length = (nz s8.par).length := by simp [nz]
        have hb9 := hr8.b
        have hp9 := hr8.p
        rw [eB] at hb9
        rw [eP] at hp9
        have erv : (nz s8.ord).reverse = nz s8.ord.reverse := by simp [nz]
        have hTe9 := HX.out.2.2.2.2.2.2.1
        rw [hTe9, hk1]
        have hobz : ob < w9.heap.size := hr9.lt
        have hnbz : nb < w8.heap.size := hnum.lt
        refine ⟨_, rfl, ⟨fun W hW hWs => ?_⟩, ?_⟩
        · have hw9 : ∀ g, w.heap.size < g → g < w9.heap.size → W.heap[g]? = w9.heap[g]? := fun g h1 h2 => (hW g (by omega) (by rw [hsr]; exact h2)).trans (hfin g (by omega))
          rw [hsr] at hWs
          have kb := far8 W hW (l := nz s8.blk) hb9 fun e => hr8.bo ob e hoB
          have kp := far8 W hW (l := nz s8.par) hp9 fun e => hr8.po ob e hoB
          have kn := ((hnum.keep (ho9.block nb (by omega) (fun e => by have e' : nb = ob := e; omega))).keep (hw9 nb (by omega) (by omega))).rd
          have ko := (hr9.keep (hw9 ob (by omega) hobz)).rd
          rw [erv] at ko
          have kt := (H8.out.1.t.keep (fun g h1 h2 => (hw9 g (by have h1' : lo ≤ g := h1; omega) (by have h2' : g < hi := h2; omega)).trans (ho9.block g (by have h2' : g < hi := h2; omega) (fun e => by have e' : g = ob := e; have h2' : g < hi := h2; omega))) ((hw9 tb (by omega) (by omega)).trans (ho9.block tb (by omega) (fun e => by have e' : tb = ob := e; omega))))
          exact ⟨lo, hi, tb, vals, _, _, _, _, rfl, kt, ⟨by omega, by omega⟩, kn, kb, kp, ko⟩
        have g1 : Below w.heap.size w (w.alloc (.cells nil5 tWk)) := (Below.refl _ _).alloc (Nat.le_refl _) _
        have g2 : Below w.heap.size (w.alloc (.cells nil5 tWk)) wr := HR.out.2.2.2.2.1.mono (by omega)
        have g3 : Below w.heap.size wr WV := HX.out.2.2.2.2.2.1.mono (by omega)
        have g4 : Below w.heap.size WV w8 := H8.out.2.1.below (by show w.heap.size ≤ hi; omega) (fun j hj => by
          rcases hj with hj | hj
          · have e' : j = nb := hj
            omega
          · have e' : j = wb := hj
            omega)
        have g5 : Below w.heap.size w8 w9 := ho9.below (by omega) (fun j hj => by have e' : j = ob := hj; omega)
        exact g1.trans (g2.trans (g3.trans (g4.trans (g5.trans HE4.out.2))))
end Go.Proofs.Ytjmlpbnejcfnhaa
