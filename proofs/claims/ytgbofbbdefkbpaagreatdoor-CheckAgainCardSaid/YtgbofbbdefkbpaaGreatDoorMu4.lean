/-
  Programs that are read, checked or not, copied (mortisekit). A program that is read, checked or not, copied as a whole (mortisekit). A program without what a check says (mortiselaw04): a copy, Types, Refs and Vars written over.
-/
import Derived.Test.YtgbofbbdefkbpaaGreatDoorMu3
import Derived.Deep.RegionHeld3
/-! Cmd -/
namespace Go.Proofs.YtgbofbbdefkbpaaGreatDoor
open Go Go.RowKit Go.Maps
set_option linter.unusedVariables false
set_option linter.unusedSimpArgs false

set_option maxHeartbeats 2000000 in
set_option maxRecDepth 100000 in
theorem cI_any (l : List Int) (n : Nat) (hn : l.length = n) (hn2 : n ≤ 1000000) (A : Option Addr) (c : Nat) (w : World) (h1 : RdS w (.slice A n c) n (ints l)) :
    Calls Tryz.prog 86 #[.slice A n c] w fun e w' => ∃ v, e = .returned v ∧ w'.ownsRow w.heap.size tInt 1 v n (ints l) ∧ Below w.heap.size w w' := by
  obtain ⟨i0, hi, hz0, hz1, hz2⟩ := info_pk infoIn
  go_enter Tryz.func86, Tryz.ntmps86
  go_wp2
  go_loopw [3, 4] (fun v3 v wr => ∃ k : Nat, k ≤ n ∧ v = .int .i64 k ∧ wr.ownsRow w.heap.size tInt 1 v3 k (ints (l.take k)) ∧ Below w.heap.size w wr) (fun _ v _ => n - (intOf v).toNat)
  case atStart => exact ⟨0, by omega, rfl, World.ownsRow_nil _ _ _ _, Below.refl _ _⟩
  case round =>
    obtain ⟨k, hk, rfl, hrow, hb⟩ := hrel
    by_cases hlt : k < n
    · obtain ⟨t, ht⟩ : ∃ t, l[k]? = some t := ⟨_, List.getElem?_eq_getElem (by omega)⟩
      have u0 : (ints l)[k]? = some (.int .i64 t) := by simp [ints, ht]
      obtain ⟨g, o, rfl, hg, hx⟩ := (h1.on hb).get (fun e => by rw [e] at u0; cases u0)
      have x0 : wr.cell? ⟨g, o + k, none⟩ = _ := hx _ _ u0
      have htk : ints (l.take (k + 1)) = ints (l.take k) ++ [.int .i64 t] := by
        rw [List.take_add_one, ht]
        simp [ints]
      have HT := Lib.hid htk
      clear htk ht u0 hx h1
      go_wp2_with (at_builtin; refine appK tInt 40 i0 _ 1 8 Tryz.underlying40 hi hz0 hz1 hz2 rfl (by omega) (by omega) w.heap.size w wr _ rfl _ k _ #[.int .i64 t] rfl (by simp [Value.oneCell']) _ _ rfl rfl rfl rfl hrow hb (Nat.le_refl _) (by omega) ?_; intro v' w1 hr1 hb1 hg1 hsh)
      go_roundw
      case rel => exact ⟨k + 1, by omega, by go_num, by rw [HT.out]; assumption, by assumption⟩
      case measure => simp [intOf]; omega
    · obtain rfl : k = n := by omega
      rw [← hn, List.take_length] at hrow
      go_wp2
      go_ret
      exact ⟨_, rfl, by rw [← hn]; exact hrow, hb⟩
set_option maxHeartbeats 2000000 in
set_option maxRecDepth 100000 in
theorem cP_any (ps : List Pm) (n : Nat) (hn : ps.length = n) (hn2 : n ≤ 1000000) (A : Option Addr) (c : Nat) (w : World) (h1 : RdS w (.slice A n c) n (ps.flatMap pmC')) :
    Calls Tryz.prog 85 #[.slice A n c] w fun e w' => ∃ v, e = .returned v ∧ w'.ownsRow w.heap.size tPr 2 v n (ps.flatMap pmC') ∧ Below w.heap.size w w' := by
  obtain ⟨i0, hi, hz0, hz1, hz2⟩ := info_pk infoClP
  go_enter Tryz.func85, Tryz.ntmps85
  go_wp2
  go_loopw [3, 4] (fun v3 v wr => ∃ k : Nat, k ≤ n ∧ v = .int .i64 k ∧ wr.ownsRow w.heap.size tPr 2 v3 k ((ps.take k).flatMap pmC') ∧ Below w.heap.size w wr) (fun _ v _ => n - (intOf v).toNat)
  case atStart => exact ⟨0, by omega, rfl, World.ownsRow_nil _ _ _ _, Below.refl _ _⟩
  case round =>
    obtain ⟨k, hk, rfl, hrow, hb⟩ := hrel
    by_cases hlt : k < n
    · obtain ⟨t, ht⟩ : ∃ t, ps[k]? = some t := ⟨_, List.getElem?_eq_getElem (by omega)⟩
      have hu : ∀ j, j < 2 → (ps.flatMap pmC')[k * 2 + j]? = (pmC' t)[j]? := fun j hj => by rw [flat_at' pmC' 2 (fun _ => rfl) ps k j hj, ht]; rfl
      have u0 : (ps.flatMap pmC')[k * 2]? = some (.string (str t.s)) := hu 0 (by omega)
      have u1 : (ps.flatMap pmC')[k * 2 + 1]? = some (.int .i64 t.ty) := hu 1 (by omega)
      obtain ⟨g, o, rfl, hg, hx⟩ := (h1.on hb).get (fun e => by rw [e] at u0; cases u0)
      have x0 : wr.cell? ⟨g, o + k * 2, none⟩ = _ := hx _ _ u0
      have x1 : wr.cell? ⟨g, o + k * 2 + 1, none⟩ = _ := hx _ _ u1
      have htk : (ps.take (k + 1)).flatMap pmC' = (ps.take k).flatMap pmC' ++ [.string (str t.s), .int .i64 t.ty] := by
        rw [List.take_add_one, ht]
        simp [pmC']
      have HT := Lib.hid htk
      clear htk ht hu u0 u1 hx h1
      go_wp2_with (at_builtin; refine appK tPr 39 i0 _ 2 24 Tryz.underlying39 hi hz0 hz1 hz2 rfl (by omega) (by omega) w.heap.size w wr _ rfl _ k _ #[.string (str t.s), .int .i64 t.ty] rfl (by simp [Value.oneCell']) _ _ rfl rfl rfl rfl hrow hb (Nat.le_refl _) (by omega) ?_; intro v' w1 hr1 hb1 hg1 hsh)
      go_roundw
      case rel => exact ⟨k + 1, by omega, by go_num, by rw [HT.out]; assumption, by assumption⟩
      case measure => simp [intOf]; omega
    · obtain rfl : k = n := by omega
      rw [← hn, List.take_length] at hrow
      go_wp2
      go_ret
      exact ⟨_, rfl, by rw [← hn]; exact hrow, hb⟩
set_option maxHeartbeats 2000000 in
set_option maxRecDepth 100000 in
theorem cG_any (gs : List Gl) (n : Nat) (hn : gs.length = n) (hn2 : n ≤ 1000000) (A : Option Addr) (c : Nat) (w : World) (h1 : RdS w (.slice A n c) n (gs.flatMap glC)) :
    Calls Tryz.prog 19 #[.slice A n c] w fun e w' => ∃ v, e = .returned v ∧ w'.ownsRow w.heap.size tGb 4 v n (gs.flatMap glC) ∧ Below w.heap.size w w' := by
  obtain ⟨i0, hi, hz0, hz1, hz2⟩ := info_pk infoClG
  go_enter Tryz.func19, Tryz.ntmps19
  go_wp2
  go_loopw [3, 4] (fun v3 v wr => ∃ k : Nat, k ≤ n ∧ v = .int .i64 k ∧ wr.ownsRow w.heap.size tGb 4 v3 k ((gs.take k).flatMap glC) ∧ Below w.heap.size w wr) (fun _ v _ => n - (intOf v).toNat)
  case atStart => exact ⟨0, by omega, rfl, World.ownsRow_nil _ _ _ _, Below.refl _ _⟩
  case round =>
    obtain ⟨k, hk, rfl, hrow, hb⟩ := hrel
    by_cases hlt : k < n
    · obtain ⟨t, ht⟩ : ∃ t, gs[k]? = some t := ⟨_, List.getElem?_eq_getElem (by omega)⟩
      have hu : ∀ j, j < 4 → (gs.flatMap glC)[k * 4 + j]? = (glC t)[j]? := fun j hj => by rw [flat_at' glC 4 (fun _ => rfl) gs k j hj, ht]; rfl
      have u0 : (gs.flatMap glC)[k * 4]? = some (.string (str t.s)) := hu 0 (by omega)
      have u1 : (gs.flatMap glC)[k * 4 + 1]? = some (.int .i64 t.ty) := hu 1 (by omega)
      have u2 : (gs.flatMap glC)[k * 4 + 2]? = some (.int .i64 t.n) := hu 2 (by omega)
      have u3 : (gs.flatMap glC)[k * 4 + 3]? = some (.int .i64 t.p) := hu 3 (by omega)
      obtain ⟨g, o, rfl, hg, hx⟩ := (h1.on hb).get (fun e => by rw [e] at u0; cases u0)
      have x0 : wr.cell? ⟨g, o + k * 4, none⟩ = _ := hx _ _ u0
      have x1 : wr.cell? ⟨g, o + k * 4 + 1, none⟩ = _ := hx _ _ u1
      have x2 : wr.cell? ⟨g, o + k * 4 + 2, none⟩ = _ := hx _ _ u2
      have x3 : wr.cell? ⟨g, o + k * 4 + 3, none⟩ = _ := hx _ _ u3
      have htk : (gs.take (k + 1)).flatMap glC = (gs.take k).flatMap glC ++ [.string (str t.s), .int .i64 t.ty, .int .i64 t.n, .int .i64 t.p] := by
        rw [List.take_add_one, ht]
        simp [glC]
      have HT := Lib.hid htk
      clear htk ht hu u0 u1 u2 u3 hx h1
      go_wp2_with (at_builtin; refine appK tGb 23 i0 _ 4 40 Tryz.underlying23 hi hz0 hz1 hz2 rfl (by omega) (by omega) w.heap.size w wr _ rfl _ k _ #[.string (str t.s), .int .i64 t.ty, .int .i64 t.n, .int .i64 t.p] rfl (by simp [Value.oneCell']) _ _ rfl rfl rfl rfl hrow hb (Nat.le_refl _) (by omega) ?_; intro v' w1 hr1 hb1 hg1 hsh)
      go_roundw
      case rel => exact ⟨k + 1, by omega, by go_num, by rw [HT.out]; assumption, by assumption⟩
      case measure => simp [intOf]; omega
    · obtain rfl : k = n := by omega
      rw [← hn, List.take_length] at hrow
      go_wp2
      go_ret
      exact ⟨_, rfl, by rw [← hn]; exact hrow, hb⟩
theorem far_row {w : World} {B sz n k : Nat} {t t2 : TypeId} {v : Value} {xs : List Value} {cs cs2 : Array Value} (h : w.ownsRow B t sz v n xs) (Z : Blk w k t2 cs) (ht : t ≠ t2) : (w.setRow k cs2).ownsRow B t sz v n xs :=
  row_keep h fun i hi => setRow_other w k i cs2 (kind_ne (row_kind h hi) Z.kind ht)
theorem far_cell {w : World} {B sz n k j : Nat} {t t2 : TypeId} {v u : Value} {xs : List Value} {cs : Array Value} (h : w.ownsRow B t sz v n xs) (Z : Blk w k t2 cs) (ht : t ≠ t2) : (w.setCell ⟨k, j, none⟩ u).ownsRow B t sz v n xs :=
  row_keep h fun i hi => Below.heap_setCell w ⟨k, j, none⟩ u i (kind_ne (row_kind h hi) Z.kind ht)
theorem ndInfC : (Tryz.prog.info? tNd).map (·.size) = some 8 := by kernel_rfl
theorem fnInfC : (Tryz.prog.info? tFu).map (·.size) = some 6 := by kernel_rfl
set_option maxHeartbeats 2000000 in
set_option maxRecDepth 100000 in
theorem cN_any (hh : Hd) (ks : List Nat) (t : Int × Int) (v : Value) (w : World) (n : Nat) (hn : ks.length = n) (hn2 : n ≤ 1000000) (h1 : RdS w v n (ints (natI ks))) :
    Calls Tryz.prog 46 #[.agg (cellT ⟨hh, ks, v⟩ t).toArray] w fun e w' => ∃ A c, e = .returned (.agg (cellT ⟨hh, ks, .slice A n c⟩ t).toArray) ∧ w'.ownsRow w.heap.size tInt 1 (.slice A n c) n (ints (natI ks)) ∧ Below w.heap.size w w' := by
  obtain ⟨A, c, rfl⟩ := h1.shape
  obtain ⟨t1, t2⟩ := t
  obtain ⟨o1, o2, o3, o4, o5, o6⟩ := hh
  unfold cellT
  simp only
  have b1 : Blk ((w.alloc (.cells #[.int .i64 o1, .int .i64 o2, .int .i64 o3, .string (str o4), .int .i64 o5, .slice A n c, .int .i64 t1, .int .i64 t2] tNd)).alloc (.cells #[.int .i64 0, .int .i64 0, .int .i64 0, .string ⟨#[]⟩, .int .i64 0, .slice none 0 0, .int .i64 0, .int .i64 0] tNd)) w.heap.size tNd #[.int .i64 o1, .int .i64 o2, .int .i64 o3, .string (str o4), .int .i64 o5, .slice A n c, .int .i64 t1, .int .i64 t2] := (Blk.new w tNd _).alloc _
  have b2 := Blk.new (w.alloc (.cells #[.int .i64 o1, .int .i64 o2, .int .i64 o3, .string (str o4), .int .i64 o5, .slice A n c, .int .i64 t1, .int .i64 t2] tNd)) tNd #[.int .i64 0, .int .i64 0, .int .i64 0, .string ⟨#[]⟩, .int .i64 0, .slice none 0 0, .int .i64 0, .int .i64 0]
  have e2 : (w.alloc (.cells #[.int .i64 o1, .int .i64 o2, .int .i64 o3, .string (str o4), .int .i64 o5, .slice A n c, .int .i64 t1, .int .i64 t2] tNd)).heap.size = w.heap.size + 1 := by simp
  rw [e2] at b2
  have hb : Below w.heap.size w ((w.alloc (.cells #[.int .i64 o1, .int .i64 o2, .int .i64 o3, .string (str o4), .int .i64 o5, .slice A n c, .int .i64 t1, .int .i64 t2] tNd)).alloc (.cells #[.int .i64 0, .int .i64 0, .int .i64 0, .string ⟨#[]⟩, .int .i64 0, .slice none 0 0, .int .i64 0, .int .i64 0] tNd)) := ((Below.refl _ _).alloc (Nat.le_refl _) _).alloc (by simp) _
  have HR := Lib.hid (And.intro h1 hn)
  clear h1 hn e2
  go_enter Tryz.func46, Tryz.ntmps46
  go_upto_region 1 with (fail)
  generalize (w.alloc (.cells #[.int .i64 o1, .int .i64 o2, .int .i64 o3, .string (str o4), .int .i64 o5, .slice A n c, .int .i64 t1, .int .i64 t2] tNd)).alloc (.cells #[.int .i64 0, .int .i64 0, .int .i64 0, .string ⟨#[]⟩, .int .i64 0, .slice none 0 0, .int .i64 0, .int .i64 0] tNd) = W1 at *
  have m5 : W1.cell? ⟨w.heap.size, 5, none⟩ = some (.slice A n c) := b1.cell 5
  have ml := b1.lt
  have hbs := hb.size
  have HC := Lib.hid (cI_any (natI ks) n (by simpa [natI] using HR.out.2) hn2 A c W1 (HR.out.1.on hb))
  have B1 := Lib.hid b1
  have B2 := Lib.hid b2
  have HB := Lib.hid hb
  clear b1 b2 hb
  go_wp2_with fail
  refine HC.out.mono ?_
  clear HC
  rintro e w2 ⟨v', rfl, hrow, hb2⟩
  obtain ⟨gA, gc, rfl⟩ := own_ex hrow
  have b1 : Blk w2 w.heap.size tNd #[.int .i64 o1, .int .i64 o2, .int .i64 o3, .string (str o4), .int .i64 o5, .slice A n c, .int .i64 t1, .int .i64 t2] := B1.out.below hb2 B1.out.lt
  have b2 : Blk w2 (w.heap.size + 1) tNd #[.int .i64 0, .int .i64 0, .int .i64 0, .string ⟨#[]⟩, .int .i64 0, .slice none 0 0, .int .i64 0, .int .i64 0] := B2.out.below hb2 B2.out.lt
  have f5 := b1.frozen 5
  have m5' : w2.cell? ⟨w.heap.size, 5, none⟩ = some (.slice A n c) := b1.cell 5
  have ml2 := b1.lt
  have b1s : Blk (w2.setCell ⟨w.heap.size, 5, none⟩ (.slice gA n gc)) w.heap.size tNd #[.int .i64 o1, .int .i64 o2, .int .i64 o3, .string (str o4), .int .i64 o5, .slice gA n gc, .int .i64 t1, .int .i64 t2] := b1.set_ 5 _
  have b2s : Blk (w2.setCell ⟨w.heap.size, 5, none⟩ (.slice gA n gc)) (w.heap.size + 1) tNd #[.int .i64 0, .int .i64 0, .int .i64 0, .string ⟨#[]⟩, .int .i64 0, .slice none 0 0, .int .i64 0, .int .i64 0] := b2.far (p := ⟨w.heap.size, 5, none⟩) (by simp) _
  have hrs : (w2.setCell ⟨w.heap.size, 5, none⟩ (.slice gA n gc)).ownsRow w.heap.size tInt 1 (.slice gA n gc) n (ints (natI ks)) := far_cell (row_base hrow hbs) b1 (by decide)
  have hbl : Below w.heap.size w (w2.setCell ⟨w.heap.size, 5, none⟩ (.slice gA n gc)) := (HB.out.trans (hb2.mono hbs)).setCell (p := ⟨w.heap.size, 5, none⟩) (by simp) _
  clear b1 b2 hrow hb2 m5 ml
  go_upto_region 2 with (fail)
  generalize w2.setCell ⟨w.heap.size, 5, none⟩ (.slice gA n gc) = W3 at *
  have hr4 := setRow_heap W3 (w.heap.size + 1) _ #[.int .i64 o1, .int .i64 o2, .int .i64 o3, .string (str o4), .int .i64 o5, .slice gA n gc, .int .i64 t1, .int .i64 t2] tNd (0, 0) b2s
  have HE := Lib.hid (And.intro hr4 (And.intro (below_setRow (B := w.heap.size) W3 (w.heap.size + 1) #[.int .i64 o1, .int .i64 o2, .int .i64 o3, .string (str o4), .int .i64 o5, .slice gA n gc, .int .i64 t1, .int .i64 t2] (by omega)) (far_row (cs2 := #[.int .i64 o1, .int .i64 o2, .int .i64 o3, .string (str o4), .int .i64 o5, .slice gA n gc, .int .i64 t1, .int .i64 t2]) hrs b2s (by decide))))
  have HBL := Lib.hid hbl
  clear hr4 hbl hrs f5 m5' ml2
  refine wp_region_list ?_
  refine wpList_load_row rfl tNd _ rfl w.heap.size rfl tNd _ (0, 0) _ b1s Tryz.underlying75 rfl ndInfC ?_
  refine wpList_store_row rfl tNd _ _ rfl (w.heap.size + 1) _ rfl rfl tNd #[.int .i64 0, .int .i64 0, .int .i64 0, .string ⟨#[]⟩, .int .i64 0, .slice none 0 0, .int .i64 0, .int .i64 0] b2s ndInfC rfl (by simp [Value.oneCell']) ?_
  refine wpList_nil ?_
  go_wp2_with fail
  refine bodyPost_ret (results_cell_row rfl _ _ (w.heap.size + 1) tNd _ (0, 0) _ rfl HE.out.1 Tryz.underlying75 rfl ndInfC) rfl ?_
  exact ⟨gA, gc, rfl, HE.out.2.2, HBL.out.trans HE.out.2.1⟩
theorem cellsTr_snoc (ms : List CN) (tr : List (Int × Int)) (hl : tr.length = ms.length) (x : CN) (t : Int × Int) : cellsTr (ms ++ [x]) (tr ++ [t]) = cellsTr ms tr ++ cellT x t := by
  unfold cellsTr
  rw [List.zip_append hl.symm, List.flatMap_append]
  simp
theorem grow_row {W w1 : World} {B B2 sz sz2 n n2 : Nat} {T T2 : TypeId} {v v2 : Value} {cs cs2 : List Value} {o : Obj} (h : W.ownsRow B T sz v n cs) (h2 : W.ownsRow B2 T2 sz2 v2 n2 cs2) (hg : (W.alloc o).grownBy w1 v2.ownBlock) (hT : T ≠ T2) : w1.ownsRow B T sz v n cs :=
  gr_row hg (h.alloc o) (fun r e1 e2 => kind_ne (row_kind (h.alloc o) e2) (row_kind (h2.alloc o) e1) hT rfl)
set_option maxHeartbeats 4000000 in
set_option maxRecDepth 100000 in
theorem cNs_any (ns : List CN) (tr : List (Int × Int)) (htl : tr.length = ns.length) (N : Nat) (hN : ns.length = N) (hN2 : N ≤ 1000000) (A : Option Addr) (c : Nat) (w : World) (h1 : RdS w (.slice A N c) N (cellsTr ns tr)) (hk1 : ∀ x ∈ ns, RdS w x.v x.kids.length (ints (natI x.kids))) (hkl : ∀ x ∈ ns, x.kids.length ≤ 1000000) :
    Calls Tryz.prog 21 #[.slice A N c] w fun e w' => ∃ v ms, e = .returned v ∧ ms.map CN.nd = ns.map CN.nd ∧ w'.ownsRow w.heap.size tNd 8 v N (cellsTr ms tr) ∧ (∀ x ∈ ms, w'.ownsRow w.heap.size tInt 1 x.v x.kids.length (ints (natI x.kids))) ∧ Below w.heap.size w w' := by
  obtain ⟨i0, hi, hz0, hz1, hz2⟩ := info_pk infoClN
  have H := Lib.hid (And.intro h1 (And.intro hk1 (And.intro hkl (And.intro htl hN))))
  clear h1 hk1 hkl htl hN
  go_enter Tryz.func21, Tryz.ntmps21
  go_wp2
  go_loopw [3, 4] (fun v3 v wr => ∃ (k : Nat) (ms : List CN), k ≤ N ∧ v = .int .i64 k ∧ ms.map CN.nd = (ns.take k).map CN.nd ∧ wr.ownsRow w.heap.size tNd 8 v3 k (cellsTr ms (tr.take k)) ∧ (∀ x ∈ ms, wr.ownsRow w.heap.size tInt 1 x.v x.kids.length (ints (natI x.kids))) ∧ Below w.heap.size w wr) (fun _ v _ => N - (intOf v).toNat)
  case atStart => exact ⟨0, [], by omega, rfl, rfl, World.ownsRow_nil _ _ _ _, fun x hx => (by cases hx), Below.refl _ _⟩
  case round =>
    obtain ⟨k, ms, hk, rfl, hms, hrow, hkr, hb⟩ := hrel
    by_cases hlt : k < N
    · obtain ⟨h1, hk1, hkl, htl, hN⟩ := H.out
      obtain ⟨x, hx⟩ : ∃ x, ns[k]? = some x := ⟨_, List.getElem?_eq_getElem (by omega)⟩
      obtain ⟨t, ht⟩ : ∃ t, tr[k]? = some t := ⟨_, List.getElem?_eq_getElem (by omega)⟩
      have hc1 := fun j hj => cellsTr_at ns tr k j hj hx ht
      have e0 : (cellsTr ns tr)[k * 8]? = some (.int .i64 x.h.op) := hc1 0 (by omega)
      obtain ⟨g, o, rfl, hg, hr1⟩ := (h1.on hb).get (fun e => by rw [e] at e0; cases e0)
      have hkx := (hk1 x (List.mem_of_getElem? hx)).on hb
      have hklx := hkl x (List.mem_of_getElem? hx)
      have hmk : ms.length = k := by have h9 := congrArg List.length hms; simp at h9; omega
      have htk : tr.take (k + 1) = tr.take k ++ [t] := by rw [List.take_add_one, ht]; rfl
      have hnk : (ns.take (k + 1)).map CN.nd = (ns.take k).map CN.nd ++ [x.nd] := by rw [List.take_add_one, hx]; simp
      have hlk : (tr.take k).length = ms.length := by simp; omega
      obtain ⟨xh, xk, xv⟩ := x
      simp only at hkx hklx
      obtain ⟨kn, hkn⟩ : ∃ n, xk.length = n := ⟨_, rfl⟩
      rw [hkn] at hkx hklx
      obtain ⟨A1, c1, rfl⟩ := hkx.shape
      have HCN := Lib.hid (cN_any xh xk t (.slice A1 kn c1) wr kn hkn hklx hkx)
      obtain ⟨t1, t2⟩ := t
      obtain ⟨o1, o2, o3, o4, o5, o6⟩ := xh
      unfold cellT at HCN
      simp only at HCN
      have y0 : wr.cell? ⟨g, o + k * 8, none⟩ = some (.int .i64 o1) := hr1 _ _ (hc1 0 (by omega))
      have y1 : wr.cell? ⟨g, o + k * 8 + 1, none⟩ = some (.int .i64 o2) := hr1 _ _ (hc1 1 (by omega))
      have y2 : wr.cell? ⟨g, o + k * 8 + 2, none⟩ = some (.int .i64 o3) := hr1 _ _ (hc1 2 (by omega))
      have y3 : wr.cell? ⟨g, o + k * 8 + 3, none⟩ = some (.string (str o4)) := hr1 _ _ (hc1 3 (by omega))
      have y4 : wr.cell? ⟨g, o + k * 8 + 4, none⟩ = some (.int .i64 o5) := hr1 _ _ (hc1 4 (by omega))
      have y5 : wr.cell? ⟨g, o + k * 8 + 5, none⟩ = some (.slice A1 kn c1) := hr1 _ _ (hc1 5 (by omega))
      have y6 : wr.cell? ⟨g, o + k * 8 + 6, none⟩ = some (.int .i64 t1) := hr1 _ _ (hc1 6 (by omega))
      have y7 : wr.cell? ⟨g, o + k * 8 + 7, none⟩ = some (.int .i64 t2) := hr1 _ _ (hc1 7 (by omega))
      have HT := Lib.hid (And.intro htk (And.intro hnk (And.intro hms (And.intro hlk hkn))))
      have HR := Lib.hid (And.intro hrow (And.intro hkr hb))
      clear h1 hk1 hkl htl hN hx ht hc1 e0 hr1 hkx hklx hmk htk hnk hlk hkn hms hrow hkr hb
      go_wp2_with fail
      refine HCN.out.mono ?_
      clear HCN
      rintro e w2 ⟨A2, c2, rfl, hr2, hb2⟩
      have hbw : Below w.heap.size w w2 := HR.out.2.2.trans (hb2.mono HR.out.2.2.size)
      have hrow := row_on hb2 HR.out.1
      have HS := Lib.hid (And.intro (fun x hx => row_on hb2 (HR.out.2.1 x hx)) (And.intro (row_base hr2 HR.out.2.2.size) hrow))
      clear hr2 hb2 y0 y1 y2 y3 y4 y5 y6 y7
      go_wp2_with (at_builtin; refine appK tNd 25 i0 _ 8 88 Tryz.underlying25 hi hz0 hz1 hz2 rfl (by omega) (by omega) w.heap.size w w2 _ rfl _ k _ #[.int .i64 o1, .int .i64 o2, .int .i64 o3, .string (str o4), .int .i64 o5, .slice A2 kn c2, .int .i64 t1, .int .i64 t2] rfl (by simp [Value.oneCell']) _ _ rfl rfl rfl rfl hrow hbw (Nat.le_refl _) (by omega) ?_; intro v' w1 hr1 hb1 hg1 hsh)
      go_roundw
      case rel =>
        refine ⟨k + 1, ms ++ [⟨⟨o1, o2, o3, o4, o5, o6⟩, xk, .slice A2 kn c2⟩], by omega, by go_num, ?_, ?_, ?_, by assumption⟩
        · rw [HT.out.2.1, List.map_append, HT.out.2.2.1]; rfl
        · rw [HT.out.1, cellsTr_snoc _ _ HT.out.2.2.2.1]; exact hr1
        · intro x hx
          rcases List.mem_append.1 hx with hx | hx
          · exact grow_row (HS.out.1 x hx) HS.out.2.2 hg1 (by decide)
          · simp only [List.mem_singleton] at hx
            subst hx
            simp only [HT.out.2.2.2.2]
            exact grow_row HS.out.2.1 HS.out.2.2 hg1 (by decide)
      case measure => simp [intOf]; omega
    · obtain rfl : k = N := by omega
      have hms2 : ms.map CN.nd = ns.map CN.nd := by rw [hms, List.take_of_length_le (by have := H.out.2.2.2.2; omega)]
      have htt : tr.take k = tr := List.take_of_length_le (by have := H.out.2.2.2.1; have := H.out.2.2.2.2; omega)
      rw [htt] at hrow
      have HF := Lib.hid (And.intro hms2 (And.intro hrow (And.intro hkr hb)))
      clear hms2 htt hrow hkr hb hms
      go_wp2
      go_ret
      first
        | exact ⟨_, ms, rfl, HF.out.1, HF.out.2.1, HF.out.2.2.1, HF.out.2.2.2⟩
        | exact ⟨_, rfl, ms, HF.out.1, HF.out.2.1, HF.out.2.2.1, HF.out.2.2.2⟩
set_option maxHeartbeats 4000000 in
set_option maxRecDepth 100000 in
theorem cF_any (f : Fn') (pv vv : Value) (vl : List Int) (w : World) (n vn : Nat) (hn : f.ps.length = n) (hn2 : n ≤ 1000000) (hvn : vl.length = vn) (hvn2 : vn ≤ 1000000) (h1 : RdS w pv n (f.ps.flatMap pmC')) (h3 : RdS w vv vn (ints vl)) :
    Calls Tryz.prog 45 #[.agg (fnC (f, pv) vv).toArray] w fun e w' => ∃ A c V d, e = .returned (.agg (fnC (f, .slice A n c) (.slice V vn d)).toArray) ∧ w'.ownsRow w.heap.size tPr 2 (.slice A n c) n (f.ps.flatMap pmC') ∧ w'.ownsRow w.heap.size tInt 1 (.slice V vn d) vn (ints vl) ∧ Below w.heap.size w w' := by
  obtain ⟨A, c, rfl⟩ := h1.shape
  obtain ⟨VA, vc, rfl⟩ := h3.shape
  obtain ⟨f1, f2, f3, f4, f5⟩ := f
  unfold fnC
  simp only at h1 hn ⊢
  have b1 : Blk ((w.alloc (.cells #[.string (str f1), .int .i64 f2, .slice A n c, .int .i64 (f4 : Nat), .int .i64 f5, .slice VA vn vc] tFu)).alloc (.cells #[.string ⟨#[]⟩, .int .i64 0, .slice none 0 0, .int .i64 0, .int .i64 0, .slice none 0 0] tFu)) w.heap.size tFu #[.string (str f1), .int .i64 f2, .slice A n c, .int .i64 (f4 : Nat), .int .i64 f5, .slice VA vn vc] := (Blk.new w tFu _).alloc _
  have b2 := Blk.new (w.alloc (.cells #[.string (str f1), .int .i64 f2, .slice A n c, .int .i64 (f4 : Nat), .int .i64 f5, .slice VA vn vc] tFu)) tFu #[.string ⟨#[]⟩, .int .i64 0, .slice none 0 0, .int .i64 0, .int .i64 0, .slice none 0 0]
  have e2 : (w.alloc (.cells #[.string (str f1), .int .i64 f2, .slice A n c, .int .i64 (f4 : Nat), .int .i64 f5, .slice VA vn vc] tFu)).heap.size = w.heap.size + 1 := by simp
  rw [e2] at b2
  have hb : Below w.heap.size w ((w.alloc (.cells #[.string (str f1), .int .i64 f2, .slice A n c, .int .i64 (f4 : Nat), .int .i64 f5, .slice VA vn vc] tFu)).alloc (.cells #[.string ⟨#[]⟩, .int .i64 0, .slice none 0 0, .int .i64 0, .int .i64 0, .slice none 0 0] tFu)) := ((Below.refl _ _).alloc (Nat.le_refl _) _).alloc (by simp) _
  have HR := Lib.hid (And.intro h1 (And.intro h3 (And.intro hn hvn)))
  clear h1 h3 hn hvn e2
  go_enter Tryz.func45, Tryz.ntmps45
  go_upto_region 1 with (fail)
  generalize (w.alloc (.cells #[.string (str f1), .int .i64 f2, .slice A n c, .int .i64 (f4 : Nat), .int .i64 f5, .slice VA vn vc] tFu)).alloc (.cells #[.string ⟨#[]⟩, .int .i64 0, .slice none 0 0, .int .i64 0, .int .i64 0, .slice none 0 0] tFu) = W1 at *
  have m2 : W1.cell? ⟨w.heap.size, 2, none⟩ = some (.slice A n c) := b1.cell 2
  have ml := b1.lt
  have hbs := hb.size
  have HC := Lib.hid (cP_any f3 n HR.out.2.2.1 hn2 A c W1 (HR.out.1.on hb))
  have B1 := Lib.hid b1
  have B2 := Lib.hid b2
  have HB := Lib.hid hb
  clear b1 b2 hb
  go_wp2_with fail
  refine HC.out.mono ?_
  clear HC
  rintro e w2 ⟨v', rfl, hrow, hb2⟩
  obtain ⟨gA, gc, rfl⟩ := own_ex hrow
  have b1 : Blk w2 w.heap.size tFu #[.string (str f1), .int .i64 f2, .slice A n c, .int .i64 (f4 : Nat), .int .i64 f5, .slice VA vn vc] := B1.out.below hb2 B1.out.lt
  have b2 : Blk w2 (w.heap.size + 1) tFu #[.string ⟨#[]⟩, .int .i64 0, .slice none 0 0, .int .i64 0, .int .i64 0, .slice none 0 0] := B2.out.below hb2 B2.out.lt
  have f2' := b1.frozen 2
  have m2' : w2.cell? ⟨w.heap.size, 2, none⟩ = some (.slice A n c) := b1.cell 2
  have ml2 := b1.lt
  have b1s : Blk (w2.setCell ⟨w.heap.size, 2, none⟩ (.slice gA n gc)) w.heap.size tFu #[.string (str f1), .int .i64 f2, .slice gA n gc, .int .i64 (f4 : Nat), .int .i64 f5, .slice VA vn vc] := b1.set_ 2 _
  have b2s : Blk (w2.setCell ⟨w.heap.size, 2, none⟩ (.slice gA n gc)) (w.heap.size + 1) tFu #[.string ⟨#[]⟩, .int .i64 0, .slice none 0 0, .int .i64 0, .int .i64 0, .slice none 0 0] := b2.far (p := ⟨w.heap.size, 2, none⟩) (by simp) _
  have hrs : (w2.setCell ⟨w.heap.size, 2, none⟩ (.slice gA n gc)).ownsRow w.heap.size tPr 2 (.slice gA n gc) n (f3.flatMap pmC') := far_cell (row_base hrow hbs) b1 (by decide)
  have hbl : Below w.heap.size w (w2.setCell ⟨w.heap.size, 2, none⟩ (.slice gA n gc)) := (HB.out.trans (hb2.mono hbs)).setCell (p := ⟨w.heap.size, 2, none⟩) (by simp) _
  clear b1 b2 hrow hb2 m2 ml
  go_upto_region 2 with (fail)
  generalize w2.setCell ⟨w.heap.size, 2, none⟩ (.slice gA n gc) = W3 at *
  have m5 : W3.cell? ⟨w.heap.size, 5, none⟩ = some (.slice VA vn vc) := b1s.cell 5
  have ml3 := b1s.lt
  have B1 := Lib.hid b1s
  have B2 := Lib.hid b2s
  have HC := Lib.hid (cI_any vl vn HR.out.2.2.2 hvn2 VA vc W3 (HR.out.2.1.on hbl))
  have HS := Lib.hid (And.intro hrs hbl)
  clear b1s b2s hrs hbl f2' m2' ml2
  go_wp2_with fail
  refine HC.out.mono ?_
  clear HC
  rintro e w4 ⟨v4, rfl, hrv, hb4⟩
  obtain ⟨gV, gd, rfl⟩ := own_ex hrv
  have b1 : Blk w4 w.heap.size tFu #[.string (str f1), .int .i64 f2, .slice gA n gc, .int .i64 (f4 : Nat), .int .i64 f5, .slice VA vn vc] := B1.out.below hb4 B1.out.lt
  have b2 : Blk w4 (w.heap.size + 1) tFu #[.string ⟨#[]⟩, .int .i64 0, .slice none 0 0, .int .i64 0, .int .i64 0, .slice none 0 0] := B2.out.below hb4 B2.out.lt
  have f5' := b1.frozen 5
  have m5' : w4.cell? ⟨w.heap.size, 5, none⟩ = some (.slice VA vn vc) := b1.cell 5
  have ml4 := b1.lt
  have b1s : Blk (w4.setCell ⟨w.heap.size, 5, none⟩ (.slice gV vn gd)) w.heap.size tFu #[.string (str f1), .int .i64 f2, .slice gA n gc, .int .i64 (f4 : Nat), .int .i64 f5, .slice gV vn gd] := b1.set_ 5 _
  have b2s : Blk (w4.setCell ⟨w.heap.size, 5, none⟩ (.slice gV vn gd)) (w.heap.size + 1) tFu #[.string ⟨#[]⟩, .int .i64 0, .slice none 0 0, .int .i64 0, .int .i64 0, .slice none 0 0] := b2.far (p := ⟨w.heap.size, 5, none⟩) (by simp) _
  have hrs : (w4.setCell ⟨w.heap.size, 5, none⟩ (.slice gV vn gd)).ownsRow w.heap.size tPr 2 (.slice gA n gc) n (f3.flatMap pmC') := far_cell (row_on hb4 HS.out.1) b1 (by decide)
  have hrv2 : (w4.setCell ⟨w.heap.size, 5, none⟩ (.slice gV vn gd)).ownsRow w.heap.size tInt 1 (.slice gV vn gd) vn (ints vl) := far_cell (row_base hrv HS.out.2.size) b1 (by decide)
  have hbl : Below w.heap.size w (w4.setCell ⟨w.heap.size, 5, none⟩ (.slice gV vn gd)) := (HS.out.2.trans (hb4.mono HS.out.2.size)).setCell (p := ⟨w.heap.size, 5, none⟩) (by simp) _
  clear b1 b2 hrv hb4 m5 ml3
  go_upto_region 3 with (fail)
  generalize w4.setCell ⟨w.heap.size, 5, none⟩ (.slice gV vn gd) = W5 at *
  have hr5 := setRow_heap W5 (w.heap.size + 1) _ #[.string (str f1), .int .i64 f2, .slice gA n gc, .int .i64 (f4 : Nat), .int .i64 f5, .slice gV vn gd] tFu (0, 0) b2s
  have HE := Lib.hid (And.intro hr5 (And.intro (below_setRow (B := w.heap.size) W5 (w.heap.size + 1) #[.string (str f1), .int .i64 f2, .slice gA n gc, .int .i64 (f4 : Nat), .int .i64 f5, .slice gV vn gd] (by omega)) (And.intro (far_row (cs2 := #[.string (str f1), .int .i64 f2, .slice gA n gc, .int .i64 (f4 : Nat), .int .i64 f5, .slice gV vn gd]) hrs b2s (by decide)) (far_row (cs2 := #[.string (str f1), .int .i64 f2, .slice gA n gc, .int .i64 (f4 : Nat), .int .i64 f5, .slice gV vn gd]) hrv2 b2s (by decide)))))
  have HBL := Lib.hid hbl
  clear hr5 hbl hrs hrv2 f5' m5' ml4
  refine wp_region_list ?_
  refine wpList_load_row rfl tFu _ rfl w.heap.size rfl tFu _ (0, 0) _ b1s Tryz.underlying42 rfl fnInfC ?_
  refine wpList_store_row rfl tFu _ _ rfl (w.heap.size + 1) _ rfl rfl tFu #[.string ⟨#[]⟩, .int .i64 0, .slice none 0 0, .int .i64 0, .int .i64 0, .slice none 0 0] b2s fnInfC rfl (by simp [Value.oneCell']) ?_
  refine wpList_nil ?_
  go_wp2_with fail
  refine bodyPost_ret (results_cell_row rfl _ _ (w.heap.size + 1) tFu _ (0, 0) _ rfl HE.out.1 Tryz.underlying42 rfl fnInfC) rfl ?_
  exact ⟨gA, gc, gV, gd, rfl, HE.out.2.2.1, HE.out.2.2.2, HBL.out.trans HE.out.2.1⟩
theorem fnCs_snoc (ms : List (Fn' × Value)) (vls : List Value) (hl : vls.length = ms.length) (x : Fn' × Value) (v : Value) : fnCs (ms ++ [x]) (vls ++ [v]) = fnCs ms vls ++ fnC x v := by
  unfold fnCs
  rw [List.zip_append hl.symm, List.flatMap_append]
  simp
set_option maxHeartbeats 4000000 in
set_option maxRecDepth 100000 in
theorem cFs_any (fl : List (Fn' × Value)) (vls : List Value) (vs : List (List Int)) (N : Nat) (hN : fl.length = N) (hN2 : N ≤ 1000000) (hvl : vls.length = N) (hvs : vs.length = N) (A : Option Addr) (c : Nat) (w : World) (h1 : RdS w (.slice A N c) N (fnCs fl vls))
    (hp1 : ∀ x ∈ fl, RdS w x.2 x.1.ps.length (x.1.ps.flatMap pmC')) (hv1 : ∀ (j : Nat) (v : Value) (l : List Int), vls[j]? = some v → vs[j]? = some l → RdS w v l.length (ints l)) (hpl : ∀ x ∈ fl, x.1.ps.length ≤ 1000000) (hvll : ∀ l ∈ vs, l.length ≤ 1000000) :
    Calls Tryz.prog 20 #[.slice A N c] w fun e w' => ∃ v ms uls, e = .returned v ∧ ms.map (·.1) = fl.map (·.1) ∧ uls.length = N ∧ w'.ownsRow w.heap.size tFu 6 v N (fnCs ms uls) ∧ (∀ x ∈ ms, w'.ownsRow w.heap.size tPr 2 x.2 x.1.ps.length (x.1.ps.flatMap pmC')) ∧ (∀ (j : Nat) (u : Value) (l : List Int), uls[j]? = some u → vs[j]? = some l → w'.ownsRow w.heap.size tInt 1 u l.length (ints l)) ∧ Below w.heap.size w w' := by
  obtain ⟨i0, hi, hz0, hz1, hz2⟩ := info_pk infoClF
  have H := Lib.hid (And.intro h1 (And.intro hp1 (And.intro hv1 (And.intro hpl (And.intro hvll (And.intro hN (And.intro hvl hvs)))))))
  clear h1 hp1 hv1 hpl hvll hN hvl hvs
  go_enter Tryz.func20, Tryz.ntmps20
  go_wp2
  go_loopw [3, 4] (fun v3 v wr => ∃ (k : Nat) (ms : List (Fn' × Value)) (uls : List Value), k ≤ N ∧ v = .int .i64 k ∧ ms.map (·.1) = (fl.take k).map (·.1) ∧ uls.length = k ∧ wr.ownsRow w.heap.size tFu 6 v3 k (fnCs ms uls) ∧ (∀ x ∈ ms, wr.ownsRow w.heap.size tPr 2 x.2 x.1.ps.length (x.1.ps.flatMap pmC')) ∧ (∀ (j : Nat) (u : Value) (l : List Int), uls[j]? = some u → vs[j]? = some l → wr.ownsRow w.heap.size tInt 1 u l.length (ints l)) ∧ Below w.heap.size w wr) (fun _ v _ => N - (intOf v).toNat)
  case atStart => exact ⟨0, [], [], by omega, rfl, rfl, rfl, World.ownsRow_nil _ _ _ _, fun x hx => (by cases hx), fun j u l h => (by simp at h), Below.refl _ _⟩
  case round =>
    obtain ⟨k, ms, uls, hk, rfl, hms, hul, hrow, hkr, hvr, hb⟩ := hrel
    by_cases hlt : k < N
    · obtain ⟨h1, hp1, hv1, hpl, hvll, hN, hvl, hvs⟩ := H.out
      obtain ⟨x, hx⟩ : ∃ x, fl[k]? = some x := ⟨_, List.getElem?_eq_getElem (by omega)⟩
      obtain ⟨v, hv⟩ : ∃ v, vls[k]? = some v := ⟨_, List.getElem?_eq_getElem (by omega)⟩
      obtain ⟨l, hl⟩ : ∃ l, vs[k]? = some l := ⟨_, List.getElem?_eq_getElem (by omega)⟩
      have hc1 := fun j hj => fnCs_at fl vls k j hj hx hv
      have e0 : (fnCs fl vls)[k * 6]? = some (.string (str x.1.s)) := hc1 0 (by omega)
      obtain ⟨g, o, rfl, hg, hr1⟩ := (h1.on hb).get (fun e => by rw [e] at e0; cases e0)
      have hpx := (hp1 x (List.mem_of_getElem? hx)).on hb
      have hvx := (hv1 k v l hv hl).on hb
      have hplx := hpl x (List.mem_of_getElem? hx)
      have hvlx := hvll l (List.mem_of_getElem? hl)
      have hmk : ms.length = k := by have h9 := congrArg List.length hms; simp at h9; omega
      have hnk : (fl.take (k + 1)).map (·.1) = (fl.take k).map (·.1) ++ [x.1] := by rw [List.take_add_one, hx]; simp
      obtain ⟨xf, xp⟩ := x
      simp only at hpx hplx
      obtain ⟨pn, hpn⟩ : ∃ n, xf.ps.length = n := ⟨_, rfl⟩
      obtain ⟨vn, hvn⟩ : ∃ n, l.length = n := ⟨_, rfl⟩
      rw [hpn] at hpx hplx
      rw [hvn] at hvx hvlx
      obtain ⟨A1, c1, rfl⟩ := hpx.shape
      obtain ⟨V1, d1, rfl⟩ := hvx.shape
      have HCN := Lib.hid (cF_any xf (.slice A1 pn c1) (.slice V1 vn d1) l wr pn vn hpn hplx hvn hvlx hpx hvx)
      obtain ⟨f1, f2, f3, f4, f5⟩ := xf
      unfold fnC at HCN
      simp only at HCN
      have y0 : wr.cell? ⟨g, o + k * 6, none⟩ = some (.string (str f1)) := hr1 _ _ (hc1 0 (by omega))
      have y1 : wr.cell? ⟨g, o + k * 6 + 1, none⟩ = some (.int .i64 f2) := hr1 _ _ (hc1 1 (by omega))
      have y2 : wr.cell? ⟨g, o + k * 6 + 2, none⟩ = some (.slice A1 pn c1) := hr1 _ _ (hc1 2 (by omega))
      have y3 : wr.cell? ⟨g, o + k * 6 + 3, none⟩ = some (.int .i64 (f4 : Nat)) := hr1 _ _ (hc1 3 (by omega))
      have y4 : wr.cell? ⟨g, o + k * 6 + 4, none⟩ = some (.int .i64 f5) := hr1 _ _ (hc1 4 (by omega))
      have y5 : wr.cell? ⟨g, o + k * 6 + 5, none⟩ = some (.slice V1 vn d1) := hr1 _ _ (hc1 5 (by omega))
      have HT := Lib.hid (And.intro hnk (And.intro hms (And.intro hpn (And.intro hvn (And.intro hmk (And.intro hul hl))))))
      have HR := Lib.hid (And.intro hrow (And.intro hkr (And.intro hvr hb)))
      clear h1 hp1 hv1 hpl hvll hN hvl hvs hx hv hl hc1 e0 hr1 hpx hvx hplx hvlx hmk hnk hpn hvn hms hul hrow hkr hvr hb
      go_wp2_with fail
      refine HCN.out.mono ?_
      clear HCN
      rintro e w2 ⟨A2, c2, V2, d2, rfl, hr2, hr3, hb2⟩
      have hbw : Below w.heap.size w w2 := HR.out.2.2.2.trans (hb2.mono HR.out.2.2.2.size)
      have hrow := row_on hb2 HR.out.1
      have HS := Lib.hid (And.intro (fun x hx => row_on hb2 (HR.out.2.1 x hx)) (And.intro (row_base hr2 HR.out.2.2.2.size) (And.intro hrow (And.intro (row_base hr3 HR.out.2.2.2.size) (fun j u l a b => row_on hb2 (HR.out.2.2.1 j u l a b))))))
      clear hr2 hr3 hb2 y0 y1 y2 y3 y4 y5
      go_wp2_with (at_builtin; refine appK tFu 24 i0 _ 6 88 Tryz.underlying24 hi hz0 hz1 hz2 rfl (by omega) (by omega) w.heap.size w w2 _ rfl _ k _ #[.string (str f1), .int .i64 f2, .slice A2 pn c2, .int .i64 (f4 : Nat), .int .i64 f5, .slice V2 vn d2] rfl (by simp [Value.oneCell']) _ _ rfl rfl rfl rfl hrow hbw (Nat.le_refl _) (by omega) ?_; intro v' w1 hr1 hb1 hg1 hsh)
      go_roundw
      case rel =>
        obtain ⟨hnk, hms, hpn, hvn, hmk, hul, hl⟩ := HT.out
        refine ⟨k + 1, ms ++ [(⟨f1, f2, f3, f4, f5⟩, .slice A2 pn c2)], uls ++ [.slice V2 vn d2], by omega, by go_num, ?_, by simp [hul], ?_, ?_, ?_, by assumption⟩
        · rw [hnk, List.map_append, hms]; rfl
        · rw [fnCs_snoc _ _ (by rw [hul, hmk])]; exact hr1
        · intro x hx
          rcases List.mem_append.1 hx with hx | hx
          · exact grow_row (HS.out.1 x hx) HS.out.2.2.1 hg1 (by decide)
          · simp only [List.mem_singleton] at hx
            subst hx
            try simp only at hpn
            simp only [hpn]
            exact grow_row HS.out.2.1 HS.out.2.2.1 hg1 (by decide)
        · intro j u l' hu hl'
          by_cases hj : j < k
          · rw [List.getElem?_append_left (by omega)] at hu
            exact grow_row (HS.out.2.2.2.2 j u l' hu hl') HS.out.2.2.1 hg1 (by decide)
          · have hjl := (List.getElem?_eq_some_iff.1 hu).1
            simp only [List.length_append, List.length_cons, List.length_nil] at hjl
            obtain rfl : j = k := by omega
            rw [List.getElem?_append_right (by omega), hul, Nat.sub_self, List.getElem?_cons_zero] at hu
            obtain rfl := Option.some.inj hu
            rw [hl] at hl'
            obtain rfl := Option.some.inj hl'
            rw [hvn]
            exact grow_row HS.out.2.2.2.1 HS.out.2.2.1 hg1 (by decide)
      case measure => simp [intOf]; omega
    · obtain rfl : k = N := by omega
      have hms2 : ms.map (·.1) = fl.map (·.1) := by rw [hms, List.take_of_length_le (by have := H.out.2.2.2.2.2.1; omega)]
      have HF := Lib.hid (And.intro hms2 (And.intro hul (And.intro hrow (And.intro hkr (And.intro hvr hb)))))
      clear hms2 hul hrow hkr hvr hb hms
      go_wp2
      go_ret
      first
        | exact ⟨_, ms, uls, rfl, HF.out.1, HF.out.2.1, HF.out.2.2.1, HF.out.2.2.2.1, HF.out.2.2.2.2.1, HF.out.2.2.2.2.2⟩
        | exact ⟨_, rfl, ms, uls, HF.out.1, HF.out.2.1, HF.out.2.2.1, HF.out.2.2.2.1, HF.out.2.2.2.2.1, HF.out.2.2.2.2.2⟩
        | exact ⟨_, rfl, ms, HF.out.1, uls, HF.out.2.1, HF.out.2.2.1, fun a b h => HF.out.2.2.2.1 (a, b) h, HF.out.2.2.2.2.1, HF.out.2.2.2.2.2⟩
        | exact ⟨_, rfl, ms, HF.out.1, uls, HF.out.2.1, HF.out.2.2.1, HF.out.2.2.2.1, HF.out.2.2.2.2.1, HF.out.2.2.2.2.2⟩
end Go.Proofs.YtgbofbbdefkbpaaGreatDoor
/-! Cme -/
namespace Go.Proofs.YtgbofbbdefkbpaaGreatDoor
open Go Go.RowKit Go.Maps
set_option linter.unusedVariables false
set_option linter.unusedSimpArgs false

theorem s3_set {W : World} {b i : Nat} {x y z : Value} (h : W.cell? ⟨b, 0, none⟩ = some x ∧ W.cell? ⟨b, 1, none⟩ = some y ∧ W.cell? ⟨b, 2, none⟩ = some z ∧ b < W.heap.size) (hne : i ≠ b) (o : Nat) (u : Value) :
    (W.setCell ⟨i, o, none⟩ u).cell? ⟨b, 0, none⟩ = some x ∧ (W.setCell ⟨i, o, none⟩ u).cell? ⟨b, 1, none⟩ = some y ∧ (W.setCell ⟨i, o, none⟩ u).cell? ⟨b, 2, none⟩ = some z ∧ b < (W.setCell ⟨i, o, none⟩ u).heap.size := by
  have hb : ∀ k, (W.setCell ⟨i, o, none⟩ u).cell? ⟨b, k, none⟩ = W.cell? ⟨b, k, none⟩ := fun k => by
    simp only [World.cell?, Below.heap_setCell W ⟨i, o, none⟩ u b (fun e => hne e.symm)]
  exact ⟨(hb 0).trans h.1, (hb 1).trans h.2.1, (hb 2).trans h.2.2.1, by simpa using h.2.2.2⟩

set_option maxHeartbeats 2000000 in
set_option maxRecDepth 100000 in
theorem cPr_any {pg : Pg} {gs : List Gl} {fl : List (Fn' × Value)} {vls : List Value} {ns : List CN} {tr : List (Int × Int)} {vs : List (List Int)} {gA fA nA : Option Addr} {gc fc nc : Nat} {w : World} (h : PgR w gA fA nA gc fc nc gs fl vls ns tr vs)
    (hg : gs = pg.g) (hfe : fl.map (·.1) = pg.f) (hne : ns.map CN.nd = pg.t.flat 0) (hgl : gs.length ≤ 1000000) (hfl : fl.length ≤ 1000000) (hnl : ns.length ≤ 1000000) (hpl : ∀ x ∈ fl, x.1.ps.length ≤ 1000000) (hkl : ∀ x ∈ ns, x.kids.length ≤ 1000000) (hvl : ∀ l ∈ vs, l.length ≤ 1000000) :
    Calls Tryz.prog 9 #[pgV gA fA nA gs.length gc fl.length fc ns.length nc] w fun e w' => ∃ gA' fA' nA' gc' fc' nc' ml uls ms, e = .returned (pgV gA' fA' nA' gs.length gc' fl.length fc' ns.length nc') ∧ PgC w.heap.size w' gA' fA' nA' gc' fc' nc' pg ml uls ms tr vs ∧ Below w.heap.size w w' := by
  subst hg
  obtain ⟨ng, hng⟩ : ∃ n, pg.g.length = n := ⟨_, rfl⟩
  obtain ⟨nf, hnf⟩ : ∃ n, fl.length = n := ⟨_, rfl⟩
  obtain ⟨N, hNN⟩ : ∃ n, ns.length = n := ⟨_, rfl⟩
  have hG := h.pi.g
  have hF := h.pi.f
  have hN := h.pi.n
  rw [hng] at hG hgl
  rw [hnf] at hF hfl
  rw [hNN] at hN hnl
  have HC : Hid ((∀ W, Below w.heap.size w W → Calls Tryz.prog 19 #[.slice gA ng gc] W fun e w' => ∃ A c, e = .returned (.slice A ng c) ∧ w'.ownsRow w.heap.size tGb 4 (.slice A ng c) ng (pg.g.flatMap glC) ∧ Below W.heap.size W w') ∧
      (∀ W, Below w.heap.size w W → Calls Tryz.prog 20 #[.slice fA nf fc] W fun e w' => ∃ A c ms uls, e = .returned (.slice A nf c) ∧ ms.map (·.1) = fl.map (·.1) ∧ uls.length = nf ∧ w'.ownsRow w.heap.size tFu 6 (.slice A nf c) nf (fnCs ms uls) ∧ (∀ x ∈ ms, w'.ownsRow w.heap.size tPr 2 x.2 x.1.ps.length (x.1.ps.flatMap pmC')) ∧ (∀ (j : Nat) (u : Value) (l : List Int), uls[j]? = some u → vs[j]? = some l → w'.ownsRow w.heap.size tInt 1 u l.length (ints l)) ∧ Below W.heap.size W w') ∧
      (∀ W, Below w.heap.size w W → Calls Tryz.prog 21 #[.slice nA N nc] W fun e w' => ∃ A c ms, e = .returned (.slice A N c) ∧ ms.map CN.nd = ns.map CN.nd ∧ w'.ownsRow w.heap.size tNd 8 (.slice A N c) N (cellsTr ms tr) ∧ (∀ x ∈ ms, w'.ownsRow w.heap.size tInt 1 x.v x.kids.length (ints (natI x.kids))) ∧ Below W.heap.size W w')) := by
    refine Lib.hid ⟨fun W hW => ?_, fun W hW => ?_, fun W hW => ?_⟩
    · refine (cG_any pg.g ng hng hgl gA gc W (hG.on hW)).mono ?_
      rintro e w' ⟨v, rfl, hr, hb⟩
      obtain ⟨A, c, rfl⟩ := shape_row hr
      exact ⟨A, c, rfl, row_base hr hW.size, hb⟩
    · refine (cFs_any fl vls vs nf hnf hfl (h.pi.vl.trans hnf) (h.vn.trans hnf) fA fc W (hF.on hW) (fun x hx => (h.pi.ps x hx).on hW) (fun j v l a b => (h.vr j v l a b).on hW) hpl hvl).mono ?_
      rintro e w' ⟨v, ms, uls, rfl, hm, hu, hr, hk, hv, hb⟩
      obtain ⟨A, c, rfl⟩ := shape_row hr
      exact ⟨A, c, ms, uls, rfl, hm, hu, row_base hr hW.size, fun x hx => row_base (hk x hx) hW.size, fun j u l a b => row_base (hv j u l a b) hW.size, hb⟩
    · refine (cNs_any ns tr h.pi.tl N hNN hnl nA nc W (hN.on hW) (fun x hx => (h.pi.ks x hx).on hW) hkl).mono ?_
      rintro e w' ⟨v, ms, rfl, hm, hr, hk, hb⟩
      obtain ⟨A, c, rfl⟩ := shape_row hr
      exact ⟨A, c, ms, rfl, hm, row_base hr hW.size, fun x hx => row_base (hk x hx) hW.size, hb⟩
  have HE := Lib.hid (And.intro hfe (And.intro hne (And.intro hng (And.intro hnf (And.intro hNN (And.intro h.pi.tl h.vn))))))
  rw [hng, hnf, hNN]
  clear hG hF hN hfe hne hng hnf hNN hgl hfl hpl hkl hvl hnl h
  go_enter Tryz.func9, Tryz.ntmps9
  go_upto_region 1 with (fail)
  have b1 : Blk ((w.alloc (.cells #[.slice gA ng gc, .slice fA nf fc, .slice nA N nc] tPg)).alloc (.cells #[vNil, vNil, vNil] tPg)) w.heap.size tPg #[.slice gA ng gc, .slice fA nf fc, .slice nA N nc] := (Blk.new w tPg _).alloc _
  have b2 := Blk.new (w.alloc (.cells #[.slice gA ng gc, .slice fA nf fc, .slice nA N nc] tPg)) tPg #[vNil, vNil, vNil]
  have e2 : (w.alloc (.cells #[.slice gA ng gc, .slice fA nf fc, .slice nA N nc] tPg)).heap.size = w.heap.size + 1 := by simp
  rw [e2] at b2
  have hb : Below w.heap.size w ((w.alloc (.cells #[.slice gA ng gc, .slice fA nf fc, .slice nA N nc] tPg)).alloc (.cells #[vNil, vNil, vNil] tPg)) := ((Below.refl _ _).alloc (Nat.le_refl _) _).alloc (by simp) _
  clear e2
  generalize (w.alloc (.cells #[.slice gA ng gc, .slice fA nf fc, .slice nA N nc] tPg)).alloc (.cells #[vNil, vNil, vNil] tPg) = W1 at *
  have HB := Lib.hid hb
  have B1 := Lib.hid b1
  have B2 := Lib.hid b2
  have p0 : W1.cell? ⟨w.heap.size, 0, none⟩ = some (.slice gA ng gc) := b1.cell 0
  have p1 : W1.cell? ⟨w.heap.size, 1, none⟩ = some (.slice fA nf fc) := b1.cell 1
  have p2 : W1.cell? ⟨w.heap.size, 2, none⟩ = some (.slice nA N nc) := b1.cell 2
  have pl := b1.lt
  clear hb b1 b2
  go_region_held2 (fun W => W.cell? ⟨w.heap.size, 0, none⟩ = some (.slice gA ng gc) ∧ W.cell? ⟨w.heap.size, 1, none⟩ = some (.slice fA nf fc) ∧ W.cell? ⟨w.heap.size, 2, none⟩ = some (.slice nA N nc) ∧ w.heap.size < W.heap.size) (first | exact ⟨p0, p1, p2, pl⟩ | exact ⟨q0, q1, q2, ql⟩ | exact ⟨s0, s1, s2, sl⟩ | exact ⟨t0, t1, t2, tl⟩ | exact s3_set (s3_set (s3_set ⟨t0, t1, t2, tl⟩ (by omega) _ _) (by omega) _ _) (by omega) _ _)
    (first
      | (go_at_call 19; refine (HC.out.1 _ (by first | exact HB.out | exact HB.out.drew)).mono ?_; rintro e w1 ⟨A1, c1, rfl, r1, hb1⟩; have HB1 : Hid (Below w.heap.size w w1) := Lib.hid (by first | exact HB.out.trans (hb1.mono HB.out.size) | exact HB.out.drew.trans (hb1.mono HB.out.size)); have B11 := Lib.hid (show Blk w1 w.heap.size tPg #[.slice gA ng gc, .slice fA nf fc, .slice nA N nc] from (hb1.block _ B1.out.lt).trans B1.out); have B12 := Lib.hid (show Blk w1 (w.heap.size + 1) tPg #[vNil, vNil, vNil] from (hb1.block _ B2.out.lt).trans B2.out); have R1 := Lib.hid r1; have q0 : w1.cell? ⟨w.heap.size, 0, none⟩ = some (.slice gA ng gc) := B11.out.cell 0; have q1 : w1.cell? ⟨w.heap.size, 1, none⟩ = some (.slice fA nf fc) := B11.out.cell 1; have q2 : w1.cell? ⟨w.heap.size, 2, none⟩ = some (.slice nA N nc) := B11.out.cell 2; have ql := B11.out.lt; clear hb1 r1)
      | (go_at_call 20; refine (HC.out.2.1 _ (by first | exact HB1.out | exact HB1.out.drew)).mono ?_; rintro e w2 ⟨A2, c2, ml, uls, rfl, hm2, hu2, r2, rk2, rv2, hb2⟩; have HB2 : Hid (Below w.heap.size w w2) := Lib.hid (by first | exact HB1.out.trans (hb2.mono HB1.out.size) | exact HB1.out.drew.trans (hb2.mono HB1.out.size)); have B21 := Lib.hid (show Blk w2 w.heap.size tPg #[.slice gA ng gc, .slice fA nf fc, .slice nA N nc] from (hb2.block _ B11.out.lt).trans B11.out); have B22 := Lib.hid (show Blk w2 (w.heap.size + 1) tPg #[vNil, vNil, vNil] from (hb2.block _ B12.out.lt).trans B12.out); have R2 := Lib.hid (And.intro (row_on hb2 R1.out) (And.intro r2 (And.intro rk2 (And.intro rv2 (And.intro hm2 hu2))))); have s0 : w2.cell? ⟨w.heap.size, 0, none⟩ = some (.slice gA ng gc) := B21.out.cell 0; have s1 : w2.cell? ⟨w.heap.size, 1, none⟩ = some (.slice fA nf fc) := B21.out.cell 1; have s2 : w2.cell? ⟨w.heap.size, 2, none⟩ = some (.slice nA N nc) := B21.out.cell 2; have sl := B21.out.lt; clear hb2 r2 rk2 rv2 hm2 hu2)
      | (go_at_call 21; refine (HC.out.2.2 _ (by first | exact HB2.out | exact HB2.out.drew)).mono ?_; rintro e w3 ⟨A3, c3, ms, rfl, hm3, r3, rk3, hb3⟩; have HB3 : Hid (Below w.heap.size w w3) := Lib.hid (by first | exact HB2.out.trans (hb3.mono HB2.out.size) | exact HB2.out.drew.trans (hb3.mono HB2.out.size)); have B31 := Lib.hid (show Blk w3 w.heap.size tPg #[.slice gA ng gc, .slice fA nf fc, .slice nA N nc] from (hb3.block _ B21.out.lt).trans B21.out); have B32 := Lib.hid (show Blk w3 (w.heap.size + 1) tPg #[vNil, vNil, vNil] from (hb3.block _ B22.out.lt).trans B22.out); have R3 := Lib.hid (And.intro (row_on hb3 R2.out.1) (And.intro (row_on hb3 R2.out.2.1) (And.intro (fun x hx => row_on hb3 (R2.out.2.2.1 x hx)) (And.intro (fun j u l a b => row_on hb3 (R2.out.2.2.2.1 j u l a b)) (And.intro R2.out.2.2.2.2 (And.intro r3 (And.intro rk3 hm3))))))); have t0 : w3.cell? ⟨w.heap.size, 0, none⟩ = some (.slice gA ng gc) := B31.out.cell 0; have t1 : w3.cell? ⟨w.heap.size, 1, none⟩ = some (.slice fA nf fc) := B31.out.cell 1; have t2 : w3.cell? ⟨w.heap.size, 2, none⟩ = some (.slice nA N nc) := B31.out.cell 2; have tl := B31.out.lt; have d0 : w3.cell? ⟨w.heap.size + 1, 0, none⟩ = some vNil := B32.out.cell 0; have d1 : w3.cell? ⟨w.heap.size + 1, 1, none⟩ = some vNil := B32.out.cell 1; have d2 : w3.cell? ⟨w.heap.size + 1, 2, none⟩ = some vNil := B32.out.cell 2; have dl := B32.out.lt; have df0 := B32.out.frozen 0; have df1 := B32.out.frozen 1; have df2 := B32.out.frozen 2; clear hb3 r3 rk3 hm3))
  all_goals
    have hd : Blk (((w3.setCell ⟨w.heap.size + 1, 0, none⟩ (.slice A1 ng c1)).setCell ⟨w.heap.size + 1, 1, none⟩ (.slice A2 nf c2)).setCell ⟨w.heap.size + 1, 2, none⟩ (.slice A3 N c3)) (w.heap.size + 1) tPg #[.slice A1 ng c1, .slice A2 nf c2, .slice A3 N c3] := ((B32.out.set_ 0 _).set_ 1 _).set_ 2 _
    have hbl : Below w.heap.size w (((w3.setCell ⟨w.heap.size + 1, 0, none⟩ (.slice A1 ng c1)).setCell ⟨w.heap.size + 1, 1, none⟩ (.slice A2 nf c2)).setCell ⟨w.heap.size + 1, 2, none⟩ (.slice A3 N c3)) := ((HB3.out.setCell (p := ⟨w.heap.size + 1, 0, none⟩) (by simp) _).setCell (p := ⟨w.heap.size + 1, 1, none⟩) (by simp) _).setCell (p := ⟨w.heap.size + 1, 2, none⟩) (by simp) _
    have hkeep : ∀ {B n sz : Nat} {T : TypeId} {v : Value} {cs : List Value}, w3.ownsRow B T sz v n cs → T ≠ tPg → (((w3.setCell ⟨w.heap.size + 1, 0, none⟩ (.slice A1 ng c1)).setCell ⟨w.heap.size + 1, 1, none⟩ (.slice A2 nf c2)).setCell ⟨w.heap.size + 1, 2, none⟩ (.slice A3 N c3)).ownsRow B T sz v n cs := fun {B n sz T v cs} h hT => far_cell (far_cell (far_cell h B32.out hT) (B32.out.set_ 0 _) hT) ((B32.out.set_ 0 _).set_ 1 _) hT
    have hlm : ml.length = nf := by have h := congrArg List.length R3.out.2.2.2.2.1.1; rw [List.length_map, List.length_map, HE.out.2.2.2.1] at h; exact h
    have hls : ms.length = N := by have h := congrArg List.length R3.out.2.2.2.2.2.2.2; rw [List.length_map, List.length_map, HE.out.2.2.2.2.1] at h; exact h
    have HEND := Lib.hid (And.intro hd (And.intro hbl (show PgC w.heap.size (((w3.setCell ⟨w.heap.size + 1, 0, none⟩ (.slice A1 ng c1)).setCell ⟨w.heap.size + 1, 1, none⟩ (.slice A2 nf c2)).setCell ⟨w.heap.size + 1, 2, none⟩ (.slice A3 N c3)) A1 A2 A3 c1 c2 c3 pg ml uls ms tr vs from
      { g := by rw [HE.out.2.2.1]; exact hkeep R3.out.1 (by decide)
        f := by rw [hlm]; exact hkeep R3.out.2.1 (by decide)
        n := by rw [hls]; exact hkeep R3.out.2.2.2.2.2.1 (by decide)
        vl := R3.out.2.2.2.2.1.2.trans hlm.symm
        tl := by rw [hls, ← HE.out.2.2.2.2.1]; exact HE.out.2.2.2.2.2.1
        vn := by rw [hlm, ← HE.out.2.2.2.1]; exact HE.out.2.2.2.2.2.2
        ps := fun x hx => hkeep (R3.out.2.2.1 x hx) (by decide)
        ks := fun x hx => hkeep (R3.out.2.2.2.2.2.2.1 x hx) (by decide)
        vr := fun j u l a b => hkeep (R3.out.2.2.2.1 j u l a b) (by decide)
        fe := R3.out.2.2.2.2.1.1.trans HE.out.1
        ne := R3.out.2.2.2.2.2.2.2.trans HE.out.2.1 })))
    clear hd hbl hkeep hlm hls
    go_wp2_with fail
    refine bodyPost_ret (results_cell_row rfl _ _ (w.heap.size + 1) tPg _ (0, 0) _ rfl HEND.out.1 Tryz.underlying27 rfl pgInfo) rfl ?_
    exact ⟨_, _, _, _, _, _, ml, uls, ms, rfl, HEND.out.2.2, HEND.out.2.1⟩
end Go.Proofs.YtgbofbbdefkbpaaGreatDoor
/-! Cmf -/
namespace Go.Proofs.YtgbofbbdefkbpaaGreatDoor
open Go Go.RowKit Go.Maps
set_option linter.unusedVariables false
set_option linter.unusedSimpArgs false

theorem PgC.low {B B' : Nat} {w : World} {gA fA nA : Option Addr} {gc fc nc : Nat} {pg : Pg} {fl : List (Fn' × Value)} {vls : List Value} {ns : List CN} {tr : List (Int × Int)} {vs : List (List Int)} (h : PgC B w gA fA nA gc fc nc pg fl vls ns tr vs) (hB : B' ≤ B) : PgC B' w gA fA nA gc fc nc pg fl vls ns tr vs :=
  ⟨row_base h.g hB, row_base h.f hB, row_base h.n hB, h.vl, h.tl, h.vn, fun x hx => row_base (h.ps x hx) hB, fun x hx => row_base (h.ks x hx) hB, fun j v l a b => row_base (h.vr j v l a b) hB, h.fe, h.ne⟩
/-- A program of the call's own whose Types, Refs and Vars are written; two blocks beside it. -/
structure BrS (B k k2 : Nat) (gv fv nv : Value) (gs : List Gl) (fl : List (Fn' × Value)) (vls : List Value) (ns : List CN) (tr : List (Int × Int)) (w0 w : World) : Prop where
  o : UnO B k gv fv nv gs fl vls ns tr w
  p : ∀ x ∈ fl, w.ownsRow B tPr 2 x.2 x.1.ps.length (x.1.ps.flatMap pmC')
  s : ∀ x ∈ ns, w.ownsRow B tInt 1 x.v x.kids.length (ints (natI x.kids))
  r : Blk w k2 tPro #[.slice none 0 0, .slice none 0 0, .slice none 0 0]
  b : Below B w0 w
section
variable {B k k2 : Nat} {gs : List Gl} {fl : List (Fn' × Value)} {vls : List Value} {ns : List CN} {tr : List (Int × Int)} {w0 w : World}
theorem BrS.nt {nb nc N j i : Nat} {gv fv : Value} {x : CN} {t t' : Int × Int} (h : BrS B k k2 gv fv (.slice (some ⟨nb, 0, none⟩) N nc) gs fl vls ns tr w0 w) (hN : ns.length = N) (hi : i < 8) (hx : ns[j]? = some x) (ht : tr[j]? = some t) (u : Value) (hu : cellT x t' = (cellT x t).set i u) :
    BrS B k k2 gv fv (.slice (some ⟨nb, 0, none⟩) N nc) gs fl vls ns (tr.set j t') w0 (w.setCell ⟨nb, j * 8 + i, none⟩ u) := by
  subst hN
  have hn := h.o.n
  exact ⟨h.o.nt hi hx ht u hu, fun y hy => row_far (h.p y hy) hn (by decide), fun y hy => row_far (h.s y hy) hn (by decide), gr_blk (hn.stored (j * 8 + i) u).2 h.r (fun e => kind_ne h.r.kind (row_kind hn rfl) (by decide) (Option.some.inj e).symm), h.b.setCell (p := ⟨nb, _, none⟩) (hn.lt nb rfl).1 _⟩
theorem BrS.fv {fb fc N j : Nat} {gv nv v u : Value} {x : Fn' × Value} (h : BrS B k k2 gv (.slice (some ⟨fb, 0, none⟩) N fc) nv gs fl vls ns tr w0 w) (hN : fl.length = N) (hx : fl[j]? = some x) (hv : vls[j]? = some v) :
    BrS B k k2 gv (.slice (some ⟨fb, 0, none⟩) N fc) nv gs fl (vls.set j u) ns tr w0 (w.setCell ⟨fb, j * 6 + 5, none⟩ u) := by
  subst hN
  have hn := h.o.f
  exact ⟨h.o.fv hx hv, fun y hy => row_far (h.p y hy) hn (by decide), fun y hy => row_far (h.s y hy) hn (by decide), gr_blk (hn.stored (j * 6 + 5) u).2 h.r (fun e => kind_ne h.r.kind (row_kind hn rfl) (by decide) (Option.some.inj e).symm), h.b.setCell (p := ⟨fb, _, none⟩) (hn.lt fb rfl).1 _⟩
end
theorem own_some {w : World} {B sz n : Nat} {T : TypeId} {A : Option Addr} {c : Nat} {xs : List Value} (h : w.ownsRow B T sz (.slice A n c) n xs) (hn : 1 ≤ n) : ∃ b, A = some ⟨b, 0, none⟩ := by
  rcases h.2 with ⟨hv, h0⟩ | ⟨g, cap, cur, hv, _⟩
  · omega
  · simp only [Value.slice.injEq] at hv
    exact ⟨g, hv.1⟩

set_option maxHeartbeats 4000000 in
set_option maxRecDepth 100000 in
theorem bareP_any {pg : Pg} {gs : List Gl} {fl : List (Fn' × Value)} {vls : List Value} {ns : List CN} {tr : List (Int × Int)} {vs : List (List Int)} {gA fA nA : Option Addr} {gc fc nc : Nat} {w : World} (h : PgR w gA fA nA gc fc nc gs fl vls ns tr vs)
    (hg : gs = pg.g) (hfe : fl.map (·.1) = pg.f) (hne : ns.map CN.nd = pg.t.flat 0) (hgl : gs.length ≤ 1000000) (hfl : fl.length ≤ 1000000) (hnl : ns.length ≤ 1000000) (hpl : ∀ x ∈ fl, x.1.ps.length ≤ 1000000) (hkl : ∀ x ∈ ns, x.kids.length ≤ 1000000) (hvl : ∀ l ∈ vs, l.length ≤ 1000000) :
    Calls Tryz.prog 14 #[pgV gA fA nA gs.length gc fl.length fc ns.length nc] w fun e w' => ∃ gA' fA' nA' gc' fc' nc' ml ms, e = .returned (pgV gA' fA' nA' gs.length gc' fl.length fc' ns.length nc') ∧ PgC w.heap.size w' gA' fA' nA' gc' fc' nc' pg ml (List.replicate fl.length (.slice none 0 0)) ms (trZ ms tr) (List.replicate fl.length []) ∧ Below w.heap.size w w' := by
  have HC : Hid (∀ W, Below w.heap.size w W → Calls Tryz.prog 9 #[pgV gA fA nA gs.length gc fl.length fc ns.length nc] W fun e w' => ∃ gA' fA' nA' gc' fc' nc' ml uls ms, e = .returned (pgV gA' fA' nA' gs.length gc' fl.length fc' ns.length nc') ∧ PgC w.heap.size w' gA' fA' nA' gc' fc' nc' pg ml uls ms tr vs ∧ Below W.heap.size W w') := Lib.hid fun W hW => by
    refine (cPr_any (h.on hW) hg hfe hne hgl hfl hnl hpl hkl hvl).mono ?_
    rintro e w' ⟨gA', fA', nA', gc', fc', nc', ml, uls, ms, rfl, hM, hb⟩
    exact ⟨gA', fA', nA', gc', fc', nc', ml, uls, ms, rfl, hM.low hW.size, hb⟩
  have htl := h.pi.tl
  have hfe2 := congrArg List.length hfe
  have hne2 := congrArg List.length hne
  rw [List.length_map] at hfe2 hne2
  subst hg
  obtain ⟨ng, hng⟩ : ∃ n, pg.g.length = n := ⟨_, rfl⟩
  obtain ⟨nf, hnf⟩ : ∃ n, fl.length = n := ⟨_, rfl⟩
  obtain ⟨N, hNN⟩ : ∃ n, ns.length = n := ⟨_, rfl⟩
  have HNM := Lib.hid (And.intro hng (And.intro (hfe2.symm.trans hnf) (And.intro (hne2.symm.trans hNN) (htl.trans hNN))))
  rw [hng, hnf, hNN] at HC
  rw [hng, hnf, hNN]
  rw [hnf] at hfl
  rw [hNN] at hnl
  clear hfe hne hgl hpl hkl hvl htl hfe2 hne2 hng hnf hNN h
  go_enter Tryz.func14, Tryz.ntmps14
  go_upto_region 1 with (fail)
  have b1 : Blk ((w.alloc (.cells #[.slice gA ng gc, .slice fA nf fc, .slice nA N nc] tPro)).alloc (.cells #[.slice none 0 0, .slice none 0 0, .slice none 0 0] tPro)) w.heap.size tPro #[.slice gA ng gc, .slice fA nf fc, .slice nA N nc] := (Blk.new w tPro _).alloc _
  have b2 := Blk.new (w.alloc (.cells #[.slice gA ng gc, .slice fA nf fc, .slice nA N nc] tPro)) tPro #[.slice none 0 0, .slice none 0 0, .slice none 0 0]
  have e2 : (w.alloc (.cells #[.slice gA ng gc, .slice fA nf fc, .slice nA N nc] tPro)).heap.size = w.heap.size + 1 := by simp
  rw [e2] at b2
  have hb : Below w.heap.size w ((w.alloc (.cells #[.slice gA ng gc, .slice fA nf fc, .slice nA N nc] tPro)).alloc (.cells #[.slice none 0 0, .slice none 0 0, .slice none 0 0] tPro)) := ((Below.refl _ _).alloc (Nat.le_refl _) _).alloc (by simp) _
  clear e2
  generalize (w.alloc (.cells #[.slice gA ng gc, .slice fA nf fc, .slice nA N nc] tPro)).alloc (.cells #[.slice none 0 0, .slice none 0 0, .slice none 0 0] tPro) = W1 at *
  obtain ⟨p0, p1, p2, pl⟩ : _ ∧ _ ∧ _ ∧ _ := ⟨b1.cell 0, b1.cell 1, b1.cell 2, b1.lt⟩
  simp only [List.getElem?_toArray, List.getElem?_cons_zero, List.getElem?_cons_succ] at p0 p1 p2
  have HB := Lib.hid hb
  have B1 := Lib.hid b1
  have B2 := Lib.hid b2
  clear hb b1 b2
  go_wp2_with fail
  refine (HC.out W1 HB.out).mono ?_
  clear HC
  rintro e w2 ⟨xg, xf, xn, cg, cf, cn, ml, uls, ms, rfl, hM, hb2⟩
  have b1 : Blk w2 w.heap.size tPro #[.slice gA ng gc, .slice fA nf fc, .slice nA N nc] := (hb2.block _ B1.out.lt).trans B1.out
  have b2 : Blk w2 (w.heap.size + 1) tPro #[.slice none 0 0, .slice none 0 0, .slice none 0 0] := (hb2.block _ B2.out.lt).trans B2.out
  have hgn := HNM.out.1
  have hmf : ml.length = nf := by have h1 := congrArg List.length hM.fe; rw [List.length_map] at h1; have := HNM.out.2.1; omega
  have hmn : ms.length = N := by have h1 := congrArg List.length hM.ne; rw [List.length_map] at h1; have := HNM.out.2.2.1; omega
  have hBl : Below w.heap.size w w2 := HB.out.trans (hb2.mono HB.out.size)
  have z1 := b1.set_ 0 (.slice xg ng cg)
  have z2 := z1.set_ 1 (.slice xf nf cf)
  have hk : ∀ {n sz : Nat} {T : TypeId} {v : Value} {cs : List Value}, w2.ownsRow w.heap.size T sz v n cs → T ≠ tPro → (((w2.setCell ⟨w.heap.size, 0, none⟩ (.slice xg ng cg)).setCell ⟨w.heap.size, 1, none⟩ (.slice xf nf cf)).setCell ⟨w.heap.size, 2, none⟩ (.slice xn N cn)).ownsRow w.heap.size T sz v n cs := fun {n sz T v cs} hr hT => far_cell (far_cell (far_cell hr b1 hT) z1 hT) z2 hT
  have HST : Hid (BrS w.heap.size w.heap.size (w.heap.size + 1) (.slice xg ng cg) (.slice xf nf cf) (.slice xn N cn) pg.g ml uls ms tr w (((w2.setCell ⟨w.heap.size, 0, none⟩ (.slice xg ng cg)).setCell ⟨w.heap.size, 1, none⟩ (.slice xf nf cf)).setCell ⟨w.heap.size, 2, none⟩ (.slice xn N cn))) := Lib.hid
    { o := uno_set rfl b1 (by have h9 := hM.g; rw [hgn] at h9 ⊢; exact h9) (by have h9 := hM.f; rw [hmf] at h9 ⊢; exact h9) (by have h9 := hM.n; rw [hmn] at h9 ⊢; exact h9) (Nat.le_refl _) hBl.size
      p := fun x hx => hk (hM.ps x hx) (by decide)
      s := fun x hx => hk (hM.ks x hx) (by decide)
      r := ((b2.far (p := ⟨w.heap.size, 0, none⟩) (by simp) _).far (p := ⟨w.heap.size, 1, none⟩) (by simp) _).far (p := ⟨w.heap.size, 2, none⟩) (by simp) _
      b := ((hBl.setCell (p := ⟨w.heap.size, 0, none⟩) (by simp) _).setCell (p := ⟨w.heap.size, 1, none⟩) (by simp) _).setCell (p := ⟨w.heap.size, 2, none⟩) (by simp) _ }
  have HME := Lib.hid (And.intro hmf (And.intro hmn (And.intro hM.fe (And.intro hM.ne (And.intro (hM.vl.trans hmf) HNM.out.2.2.2)))))
  have c0 : w2.cell? ⟨w.heap.size, 0, none⟩ = some (.slice gA ng gc) := b1.cell 0
  have c1 : w2.cell? ⟨w.heap.size, 1, none⟩ = some (.slice fA nf fc) := b1.cell 1
  have c2 : w2.cell? ⟨w.heap.size, 2, none⟩ = some (.slice nA N nc) := b1.cell 2
  have f0 := b1.frozen 0
  have f1 := b1.frozen 1
  have f2 := b1.frozen 2
  have cl := b1.lt
  clear b1 b2 hb2 hM p0 p1 p2 pl hgn hmf hmn hBl z1 z2 hk
  go_upto_region 2 with (fail)
  generalize ((w2.setCell ⟨w.heap.size, 0, none⟩ (.slice xg ng cg)).setCell ⟨w.heap.size, 1, none⟩ (.slice xf nf cf)).setCell ⟨w.heap.size, 2, none⟩ (.slice xn N cn) = W3 at *
  clear c0 c1 c2 f0 f1 f2 cl B1 B2 HB
  go_wp2_with fail
  go_loopw [3] (fun v wr => ∃ (i : Nat) (tc : List (Int × Int)), i ≤ N ∧ v = .int .i64 i ∧ tc.length = N ∧ (∀ j, i ≤ j → tc[j]? = tr[j]?) ∧ (∀ (j : Nat) (x : CN) (t : Int × Int), j < i → ms[j]? = some x → tr[j]? = some t → tc[j]? = some (if x.h.op = 1 then t.1 else 0, 0)) ∧ BrS w.heap.size w.heap.size (w.heap.size + 1) (.slice xg ng cg) (.slice xf nf cf) (.slice xn N cn) pg.g ml uls ms tc w wr) (fun v _ => N - (intOf v).toNat)
  case atStart => exact ⟨0, tr, by omega, rfl, HME.out.2.2.2.2.2, fun j _ => rfl, fun j x t hj => absurd hj (by omega), HST.out⟩
  case round =>
    obtain ⟨i, tc, hi, rfl, htc, hge, hlt0, hS⟩ := hrel
    have p2 : wr.cell? ⟨w.heap.size, 2, none⟩ = some (.slice xn N cn) := hS.o.out.cell 2
    have pl := hS.o.out.lt
    by_cases hlt : i < N
    · have hmn := HME.out.2.1
      obtain ⟨x, hx⟩ : ∃ x, ms[i]? = some x := ⟨_, List.getElem?_eq_getElem (by omega)⟩
      obtain ⟨t, ht⟩ : ∃ t, tc[i]? = some t := ⟨_, List.getElem?_eq_getElem (by omega)⟩
      have hrow := hS.o.n
      rw [hmn] at hrow
      obtain ⟨g, rfl⟩ := own_some hrow (by omega)
      have q0 : wr.cell? ⟨g, i * 8, none⟩ = some (.int .i64 x.h.op) := by
        rw [hrow.cellAt (i * 8) (by omega)]
        exact cellsTr_at ms tc i 0 (by omega) hx ht
      have q6 : wr.cell? ⟨g, i * 8 + 6, none⟩ = some (.int .i64 t.1) := by
        rw [hrow.cellAt (i * 8 + 6) (by omega)]
        exact cellsTr_at ms tc i 6 (by omega) hx ht
      have q7 : wr.cell? ⟨g, i * 8 + 7, none⟩ = some (.int .i64 t.2) := by
        rw [hrow.cellAt (i * 8 + 7) (by omega)]
        exact cellsTr_at ms tc i 7 (by omega) hx ht
      have f6 := hrow.frozenAt (i * 8 + 6)
      have f7 := hrow.frozenAt (i * 8 + 7)
      have ql : g < wr.heap.size := (row_kind hrow rfl).lt
      have hne : g ≠ w.heap.size := fun e => kind_ne hS.o.out.kind (row_kind hrow rfl) (by decide) e.symm
      have htn : tc.length = N := htc
      have s1 := hS.nt (i := 7) (t' := (t.1, 0)) hmn (by omega) hx ht (.int .i64 0) rfl
      have ht1 : (tc.set i (t.1, 0))[i]? = some (t.1, 0) := List.getElem?_set_self (by omega)
      have s2 := s1.nt (i := 6) (t' := (0, 0)) hmn (by omega) hx ht1 (.int .i64 0) rfl
      rw [List.set_set] at s2
      have hgo : ∀ y : Int × Int, y = (if x.h.op = 1 then t.1 else 0, 0) → (tc.set i y).length = N ∧ (∀ j, i + 1 ≤ j → (tc.set i y)[j]? = tr[j]?) ∧ (∀ (j : Nat) (x : CN) (t : Int × Int), j < i + 1 → ms[j]? = some x → tr[j]? = some t → (tc.set i y)[j]? = some (if x.h.op = 1 then t.1 else 0, 0)) := fun y hy => by
        refine ⟨by rw [List.length_set]; exact htc, fun j hj => ?_, fun j x' t' hj hx' ht' => ?_⟩
        · rw [List.getElem?_set_ne (by omega)]
          exact hge j (by omega)
        · by_cases e : j = i
          · subst e
            rw [List.getElem?_set_self (by omega), hy]
            rw [hx] at hx'
            obtain rfl := Option.some.inj hx'
            rw [hge j (Nat.le_refl _), ht'] at ht
            obtain rfl := Option.some.inj ht
            rfl
          · rw [List.getElem?_set_ne (fun e2 => e e2.symm)]
            exact hlt0 j x' t' (by omega) hx' ht'
      have HN := Lib.hid (And.intro s1 (And.intro s2 hgo))
      clear hS s1 s2 hgo hge hlt0 hx ht ht1 htc hrow hmn htn
      by_cases ho : x.h.op = 1
      · have d1 : (x.h.op != 1) = false := by simp [ho]
        have HO := Lib.hid ho
        clear ho
        go_wp2_with fail
        go_roundw
        case rel => exact ⟨i + 1, _, by omega, by go_num, (HN.out.2.2 (t.1, 0) (by rw [if_pos HO.out])).1, (HN.out.2.2 (t.1, 0) (by rw [if_pos HO.out])).2.1, (HN.out.2.2 (t.1, 0) (by rw [if_pos HO.out])).2.2, HN.out.1⟩
        case measure => simp [intOf]; omega
      · have d1 : (x.h.op != 1) = true := by simp [ho]
        have HO := Lib.hid ho
        clear ho
        go_wp2_with fail
        go_roundw
        case rel => exact ⟨i + 1, _, by omega, by go_num, (HN.out.2.2 (0, 0) (by rw [if_neg HO.out])).1, (HN.out.2.2 (0, 0) (by rw [if_neg HO.out])).2.1, (HN.out.2.2 (0, 0) (by rw [if_neg HO.out])).2.2, HN.out.2.1⟩
        case measure => simp [intOf]; omega
    · obtain rfl : i = N := by omega
      have HT : Hid (tc = trZ ms tr) := Lib.hid (trZ_of (HME.out.2.2.2.2.2.trans HME.out.2.1.symm) (htc.trans HME.out.2.1.symm) (fun j x t hj hx ht => hlt0 j x t (by rw [HME.out.2.1] at hj; exact hj) hx ht))
      have HS1 := Lib.hid hS
      clear hS HST htc hge hlt0
      go_wp2_with fail
      clear p2 pl
      generalize wr = wo at *
      go_loopw [4] (fun v wx => ∃ (j : Nat) (uc : List Value), j ≤ nf ∧ v = .int .i64 j ∧ uc.length = nf ∧ (∀ m, m < j → uc[m]? = some (.slice none 0 0)) ∧ BrS w.heap.size w.heap.size (w.heap.size + 1) (.slice xg ng cg) (.slice xf nf cf) (.slice xn i cn) pg.g ml uc ms tc w wx) (fun v _ => nf - (intOf v).toNat)
      case atStart => exact ⟨0, uls, by omega, rfl, HME.out.2.2.2.2.1, fun m hm => absurd hm (by omega), HS1.out⟩
      case round =>
        obtain ⟨j, uc, hj, rfl, huc, hlt0, hS⟩ := hrel
        have p1 : wr.cell? ⟨w.heap.size, 1, none⟩ = some (.slice xf nf cf) := hS.o.out.cell 1
        have pl := hS.o.out.lt
        by_cases hlt : j < nf
        · have hmf := HME.out.1
          obtain ⟨x, hx⟩ : ∃ x, ml[j]? = some x := ⟨_, List.getElem?_eq_getElem (by omega)⟩
          obtain ⟨v, hv⟩ : ∃ v, uc[j]? = some v := ⟨_, List.getElem?_eq_getElem (by omega)⟩
          have hrow := hS.o.f
          rw [hmf] at hrow
          obtain ⟨g, rfl⟩ := own_some hrow (by omega)
          have q5 : wr.cell? ⟨g, j * 6 + 5, none⟩ = some v := by
            rw [hrow.cellAt (j * 6 + 5) (by omega)]
            exact fnCs_at ml uc j 5 (by omega) hx hv
          have f5 := hrow.frozenAt (j * 6 + 5)
          have ql : g < wr.heap.size := (row_kind hrow rfl).lt
          have hne : g ≠ w.heap.size := fun e => kind_ne hS.o.out.kind (row_kind hrow rfl) (by decide) e.symm
          have s1 := hS.fv (u := .slice none 0 0) hmf hx hv
          have hgo : (uc.set j (.slice none 0 0)).length = nf ∧ (∀ m, m < j + 1 → (uc.set j (.slice none 0 0))[m]? = some (.slice none 0 0)) := by
            refine ⟨by rw [List.length_set]; exact huc, fun m hm => ?_⟩
            by_cases e : m = j
            · subst e
              exact List.getElem?_set_self (by omega)
            · rw [List.getElem?_set_ne (fun e2 => e e2.symm)]
              exact hlt0 m (by omega)
          have HN := Lib.hid (And.intro s1 hgo)
          clear hS s1 hgo hlt0 hx hv huc hrow hmf
          go_wp2_with fail
          go_roundw
          case rel => exact ⟨j + 1, _, by omega, by go_num, HN.out.2.1, HN.out.2.2, HN.out.1⟩
          case measure => simp [intOf]; omega
        · obtain rfl : j = nf := by omega
          have e9 : uc = List.replicate j (.slice none 0 0) := by
            apply List.ext_getElem?
            intro m
            rw [List.getElem?_replicate]
            by_cases hm : m < j
            · rw [if_pos hm]; exact hlt0 m hm
            · rw [if_neg hm, List.getElem?_eq_none (by omega)]
          subst e9
          have p0 : wr.cell? ⟨w.heap.size, 0, none⟩ = some (.slice xg ng cg) := hS.o.out.cell 0
          have p2 : wr.cell? ⟨w.heap.size, 2, none⟩ = some (.slice xn i cn) := hS.o.out.cell 2
          have r0 : wr.cell? ⟨w.heap.size + 1, 0, none⟩ = some (.slice none 0 0) := hS.r.cell 0
          have r1 : wr.cell? ⟨w.heap.size + 1, 1, none⟩ = some (.slice none 0 0) := hS.r.cell 1
          have r2 : wr.cell? ⟨w.heap.size + 1, 2, none⟩ = some (.slice none 0 0) := hS.r.cell 2
          have g0 := hS.r.frozen 0
          have g1 := hS.r.frozen 1
          have g2 := hS.r.frozen 2
          have rl := hS.r.lt
          have z1 := hS.r.set_ 0 (.slice xg ng cg)
          have z2 := z1.set_ 1 (.slice xf j cf)
          have z3 := z2.set_ 2 (.slice xn i cn)
          have hk : ∀ {n sz : Nat} {T : TypeId} {v : Value} {cs : List Value}, wr.ownsRow w.heap.size T sz v n cs → T ≠ tPro → (((wr.setCell ⟨w.heap.size + 1, 0, none⟩ (.slice xg ng cg)).setCell ⟨w.heap.size + 1, 1, none⟩ (.slice xf j cf)).setCell ⟨w.heap.size + 1, 2, none⟩ (.slice xn i cn)).ownsRow w.heap.size T sz v n cs := fun {n sz T v cs} hr hT => far_cell (far_cell (far_cell hr hS.r hT) z1 hT) z2 hT
          have HE := Lib.hid (And.intro (show PgC w.heap.size (((wr.setCell ⟨w.heap.size + 1, 0, none⟩ (.slice xg ng cg)).setCell ⟨w.heap.size + 1, 1, none⟩ (.slice xf j cf)).setCell ⟨w.heap.size + 1, 2, none⟩ (.slice xn i cn)) xg xf xn cg cf cn pg ml (List.replicate j (.slice none 0 0)) ms (trZ ms tr) (List.replicate j []) from
            { g := by rw [HNM.out.1]; exact hk (by have h9 := hS.o.g; rw [HNM.out.1] at h9; exact h9) (by decide)
              f := by rw [HME.out.1]; exact hk (by have h9 := hS.o.f; rw [HME.out.1] at h9; exact h9) (by decide)
              n := by rw [HME.out.2.1, ← HT.out]; exact hk (by have h9 := hS.o.n; rw [HME.out.2.1] at h9; exact h9) (by decide)
              vl := by rw [List.length_replicate, HME.out.1]
              tl := by rw [trZ, List.length_map, List.length_zip, HME.out.2.2.2.2.2, HME.out.2.1, Nat.min_self]
              vn := by rw [List.length_replicate, HME.out.1]
              ps := fun x hx => hk (hS.p x hx) (by decide)
              ks := fun x hx => hk (hS.s x hx) (by decide)
              vr := fun m v l hv hl => by
                obtain rfl := List.eq_of_mem_replicate (List.mem_of_getElem? hv)
                obtain rfl := List.eq_of_mem_replicate (List.mem_of_getElem? hl)
                exact World.ownsRow_nil _ _ _ _
              fe := HME.out.2.2.1
              ne := HME.out.2.2.2.1 }) (And.intro (((hS.b.setCell (p := ⟨w.heap.size + 1, 0, none⟩) (by simp) (.slice xg ng cg)).setCell (p := ⟨w.heap.size + 1, 1, none⟩) (by simp) (.slice xf j cf)).setCell (p := ⟨w.heap.size + 1, 2, none⟩) (by simp) (.slice xn i cn)) z3))
          clear hS z1 z2 z3 hk hlt0 huc
          go_wp2_with fail
          refine ret_pgC rfl rfl HE.out.2.2 rfl ?_
          exact ⟨xg, xf, xn, cg, cf, cn, ml, ms, rfl, HE.out.1, HE.out.2.1⟩
end Go.Proofs.YtgbofbbdefkbpaaGreatDoor
