/-
  Programs that are read, checked or not, held against one another (mortisekit): where they are the same, the answer is true. Layer check: Parsed, of any text; what is asked of a program that is checked holds of what was parsed. Layer check, mathematics: numbers keep their Types; what was checked may be checked again, and says the same.
-/
import Derived.Test.YtgbofbbdefkbpaaGreatDoorMu2
import Derived.Test.YtgbofbbdefkbpaaGreatDoorMt9
import Derived.Test.YtgbofbbdefkbpaaGreatDoorMu1
/-! Cma -/
namespace Go.Proofs.YtgbofbbdefkbpaaGreatDoor
open Go Go.RowKit Go.Maps
set_option linter.unusedVariables false
set_option linter.unusedSimpArgs false

theorem RdS.get {w : World} {A : Option Addr} {n c : Nat} {xs : List Value} (h : RdS w (.slice A n c) n xs) (hne : xs ≠ []) : ∃ b o, A = some ⟨b, o, none⟩ ∧ b < w.heap.size ∧ ∀ (j : Nat) (u : Value), xs[j]? = some u → w.cell? ⟨b, o + j, none⟩ = some u := by
  obtain ⟨A', c', e, h⟩ := h
  simp only [Value.slice.injEq] at e
  obtain ⟨rfl, -, rfl⟩ := e
  rcases h with ⟨-, h0⟩ | ⟨b, o, e, hc⟩
  · exact absurd h0 hne
  · obtain ⟨u, hu⟩ : ∃ u, xs[0]? = some u := by
      cases xs with
      | nil => exact absurd rfl hne
      | cons x l => exact ⟨x, rfl⟩
    exact ⟨b, o, e, (hc 0 u hu).1, fun j u hj => (hc j u hj).2⟩
theorem RdS.shape {w : World} {v : Value} {n : Nat} {xs : List Value} (h : RdS w v n xs) : ∃ A c, v = .slice A n c := by
  obtain ⟨A, c, e, -⟩ := h
  exact ⟨A, c, e⟩
set_option maxHeartbeats 2000000 in
set_option maxRecDepth 100000 in
theorem sI_eq (l : List Int) (n : Nat) (hn : l.length = n) (hn2 : n ≤ 1000000) (A A' : Option Addr) (c c' : Nat) (w : World) (h1 : RdS w (.slice A n c) n (ints l)) (h2 : RdS w (.slice A' n c') n (ints l)) :
    Calls Tryz.prog 101 #[.slice A n c, .slice A' n c'] w fun e w' => e = .returned (.bool true) ∧ ∃ d, w' = w.drewN d := by
  go_enter Tryz.func101, Tryz.ntmps101
  go_wp2
  go_loopw [5] (fun v wr => ∃ k : Nat, k ≤ n ∧ v = .int .i64 k ∧ ∃ d, wr = w.drewN d) (fun v _ => n - (intOf v).toNat)
  case atStart => exact ⟨0, by omega, rfl, 0, rfl⟩
  case round =>
    obtain ⟨k, hk, rfl, d, rfl⟩ := hrel
    by_cases hlt : k < n
    · obtain ⟨t, ht⟩ : ∃ t, l[k]? = some t := ⟨_, List.getElem?_eq_getElem (by omega)⟩
      have hu : (ints l)[k]? = some (.int .i64 t) := by simp [ints, ht]
      have hne : ints l ≠ [] := fun e => by rw [e] at hu; cases hu
      obtain ⟨g, o, rfl, hg, hx⟩ := h1.get hne
      obtain ⟨g', o', rfl, hg', hy⟩ := h2.get hne
      have hx := hx k _ hu
      have hy := hy k _ hu
      clear hu hne ht h1 h2
      go_wp2
      go_quiet (fail)
      go_wp2
      go_roundw
      case rel => exact ⟨k + 1, by omega, by go_num, _, rfl⟩
      case measure => simp [intOf]; omega
    · go_wp2
      go_ret
      exact ⟨rfl, d, rfl⟩
set_option maxHeartbeats 2000000 in
set_option maxRecDepth 100000 in
theorem sP_eq (ps : List Pm) (n : Nat) (hn : ps.length = n) (hn2 : n ≤ 1000000) (A A' : Option Addr) (c c' : Nat) (w : World) (h1 : RdS w (.slice A n c) n (ps.flatMap pmC')) (h2 : RdS w (.slice A' n c') n (ps.flatMap pmC')) :
    Calls Tryz.prog 100 #[.slice A n c, .slice A' n c'] w fun e w' => e = .returned (.bool true) ∧ ∃ d, w' = w.drewN d := by
  go_enter Tryz.func100, Tryz.ntmps100
  go_wp2
  go_loopw [5] (fun v wr => ∃ k : Nat, k ≤ n ∧ v = .int .i64 k ∧ ∃ d, wr = w.drewN d) (fun v _ => n - (intOf v).toNat)
  case atStart => exact ⟨0, by omega, rfl, 0, rfl⟩
  case round =>
    obtain ⟨k, hk, rfl, d, rfl⟩ := hrel
    by_cases hlt : k < n
    · obtain ⟨t, ht⟩ : ∃ t, ps[k]? = some t := ⟨_, List.getElem?_eq_getElem (by omega)⟩
      have hu : ∀ j, j < 2 → (ps.flatMap pmC')[k * 2 + j]? = (pmC' t)[j]? := fun j hj => by rw [flat_at' pmC' 2 (fun _ => rfl) ps k j hj, ht]; rfl
      have u0 : (ps.flatMap pmC')[k * 2]? = some (.string (str t.s)) := hu 0 (by omega)
      have u1 : (ps.flatMap pmC')[k * 2 + 1]? = some (.int .i64 t.ty) := hu 1 (by omega)
      have hne : ps.flatMap pmC' ≠ [] := fun e => by rw [e] at u0; cases u0
      obtain ⟨g, o, rfl, hg, hx⟩ := h1.get hne
      obtain ⟨g', o', rfl, hg', hy⟩ := h2.get hne
      have x0 : w.cell? ⟨g, o + k * 2, none⟩ = _ := hx _ _ u0
      have x1 : w.cell? ⟨g, o + k * 2 + 1, none⟩ = _ := hx _ _ u1
      have y0 : w.cell? ⟨g', o' + k * 2, none⟩ = _ := hy _ _ u0
      have y1 : w.cell? ⟨g', o' + k * 2 + 1, none⟩ = _ := hy _ _ u1
      clear hu u0 u1 hne ht h1 h2 hx hy
      obtain ⟨t1, t2⟩ := t
      simp only at x0 x1 y0 y1
      go_wp2
      go_quiet (fail)
      go_wp2
      go_roundw
      case rel => exact ⟨k + 1, by omega, by go_num, _, rfl⟩
      case measure => simp [intOf]; omega
    · go_wp2
      go_ret
      exact ⟨rfl, d, rfl⟩
set_option maxHeartbeats 2000000 in
set_option maxRecDepth 100000 in
theorem sG_eq (gs : List Gl) (n : Nat) (hn : gs.length = n) (hn2 : n ≤ 1000000) (A A' : Option Addr) (c c' : Nat) (w : World) (h1 : RdS w (.slice A n c) n (gs.flatMap glC)) (h2 : RdS w (.slice A' n c') n (gs.flatMap glC)) :
    Calls Tryz.prog 32 #[.slice A n c, .slice A' n c'] w fun e w' => e = .returned (.bool true) ∧ ∃ d, w' = w.drewN d := by
  go_enter Tryz.func32, Tryz.ntmps32
  go_wp2
  go_loopw [5] (fun v wr => ∃ k : Nat, k ≤ n ∧ v = .int .i64 k ∧ ∃ d, wr = w.drewN d) (fun v _ => n - (intOf v).toNat)
  case atStart => exact ⟨0, by omega, rfl, 0, rfl⟩
  case round =>
    obtain ⟨k, hk, rfl, d, rfl⟩ := hrel
    by_cases hlt : k < n
    · obtain ⟨t, ht⟩ : ∃ t, gs[k]? = some t := ⟨_, List.getElem?_eq_getElem (by omega)⟩
      have hu : ∀ j, j < 4 → (gs.flatMap glC)[k * 4 + j]? = (glC t)[j]? := fun j hj => by rw [flat_at' glC 4 (fun _ => rfl) gs k j hj, ht]; rfl
      have u0 : (gs.flatMap glC)[k * 4]? = some (.string (str t.s)) := hu 0 (by omega)
      have u1 : (gs.flatMap glC)[k * 4 + 1]? = some (.int .i64 t.ty) := hu 1 (by omega)
      have u2 : (gs.flatMap glC)[k * 4 + 2]? = some (.int .i64 t.n) := hu 2 (by omega)
      have u3 : (gs.flatMap glC)[k * 4 + 3]? = some (.int .i64 t.p) := hu 3 (by omega)
      have hne : gs.flatMap glC ≠ [] := fun e => by rw [e] at u0; cases u0
      obtain ⟨g, o, rfl, hg, hx⟩ := h1.get hne
      obtain ⟨g', o', rfl, hg', hy⟩ := h2.get hne
      have x0 : w.cell? ⟨g, o + k * 4, none⟩ = _ := hx _ _ u0
      have x1 : w.cell? ⟨g, o + k * 4 + 1, none⟩ = _ := hx _ _ u1
      have x2 : w.cell? ⟨g, o + k * 4 + 2, none⟩ = _ := hx _ _ u2
      have x3 : w.cell? ⟨g, o + k * 4 + 3, none⟩ = _ := hx _ _ u3
      have y0 : w.cell? ⟨g', o' + k * 4, none⟩ = _ := hy _ _ u0
      have y1 : w.cell? ⟨g', o' + k * 4 + 1, none⟩ = _ := hy _ _ u1
      have y2 : w.cell? ⟨g', o' + k * 4 + 2, none⟩ = _ := hy _ _ u2
      have y3 : w.cell? ⟨g', o' + k * 4 + 3, none⟩ = _ := hy _ _ u3
      clear hu u0 u1 u2 u3 hne ht h1 h2 hx hy
      obtain ⟨t1, t2, t3, t4⟩ := t
      simp only at x0 x1 x2 x3 y0 y1 y2 y3
      go_wp2
      go_quiet (fail)
      go_wp2
      go_roundw
      case rel => exact ⟨k + 1, by omega, by go_num, _, rfl⟩
      case measure => simp [intOf]; omega
    · go_wp2
      go_ret
      exact ⟨rfl, d, rfl⟩
set_option maxHeartbeats 2000000 in
set_option maxRecDepth 100000 in
theorem sN_eq (hh : Hd) (ks : List Nat) (t : Int × Int) (v v' : Value) (w : World) (n : Nat) (hn : ks.length = n) (hn2 : n ≤ 1000000) (h1 : RdS w v n (ints (natI ks))) (h2 : RdS w v' n (ints (natI ks))) :
    Calls Tryz.prog 66 #[.agg (cellT ⟨hh, ks, v⟩ t).toArray, .agg (cellT ⟨hh, ks, v'⟩ t).toArray] w fun e w' => e = .returned (.bool true) ∧ Below w.heap.size w w' := by
  obtain ⟨A, c, rfl⟩ := h1.shape
  obtain ⟨A', c', rfl⟩ := h2.shape
  obtain ⟨t1, t2⟩ := t
  obtain ⟨o1, o2, o3, o4, o5, o6⟩ := hh
  unfold cellT
  simp only
  have HR := Lib.hid (And.intro h1 (And.intro h2 hn))
  clear h1 h2 hn
  go_enter Tryz.func66, Tryz.ntmps66
  go_upto_region 1 with (fail)
  have b1 : Blk ((w.alloc (.cells #[.int .i64 o1, .int .i64 o2, .int .i64 o3, .string (str o4), .int .i64 o5, .slice A n c, .int .i64 t1, .int .i64 t2] tNd)).alloc (.cells #[.int .i64 o1, .int .i64 o2, .int .i64 o3, .string (str o4), .int .i64 o5, .slice A' n c', .int .i64 t1, .int .i64 t2] tNd)) w.heap.size tNd #[.int .i64 o1, .int .i64 o2, .int .i64 o3, .string (str o4), .int .i64 o5, .slice A n c, .int .i64 t1, .int .i64 t2] := (Blk.new w tNd _).alloc _
  have b2 := Blk.new (w.alloc (.cells #[.int .i64 o1, .int .i64 o2, .int .i64 o3, .string (str o4), .int .i64 o5, .slice A n c, .int .i64 t1, .int .i64 t2] tNd)) tNd #[.int .i64 o1, .int .i64 o2, .int .i64 o3, .string (str o4), .int .i64 o5, .slice A' n c', .int .i64 t1, .int .i64 t2]
  have e2 : (w.alloc (.cells #[.int .i64 o1, .int .i64 o2, .int .i64 o3, .string (str o4), .int .i64 o5, .slice A n c, .int .i64 t1, .int .i64 t2] tNd)).heap.size = w.heap.size + 1 := by simp
  rw [e2] at b2
  have hb : Below w.heap.size w ((w.alloc (.cells #[.int .i64 o1, .int .i64 o2, .int .i64 o3, .string (str o4), .int .i64 o5, .slice A n c, .int .i64 t1, .int .i64 t2] tNd)).alloc (.cells #[.int .i64 o1, .int .i64 o2, .int .i64 o3, .string (str o4), .int .i64 o5, .slice A' n c', .int .i64 t1, .int .i64 t2] tNd)) := ((Below.refl _ _).alloc (Nat.le_refl _) _).alloc (by simp) _
  clear e2
  generalize (w.alloc (.cells #[.int .i64 o1, .int .i64 o2, .int .i64 o3, .string (str o4), .int .i64 o5, .slice A n c, .int .i64 t1, .int .i64 t2] tNd)).alloc (.cells #[.int .i64 o1, .int .i64 o2, .int .i64 o3, .string (str o4), .int .i64 o5, .slice A' n c', .int .i64 t1, .int .i64 t2] tNd) = W at *
  obtain ⟨p0, p1, p2, p3, p4, p5, p6, p7, pl⟩ : _ ∧ _ ∧ _ ∧ _ ∧ _ ∧ _ ∧ _ ∧ _ ∧ _ := ⟨b1.cell 0, b1.cell 1, b1.cell 2, b1.cell 3, b1.cell 4, b1.cell 5, b1.cell 6, b1.cell 7, b1.lt⟩
  obtain ⟨q0, q1, q2, q3, q4, q5, q6, q7, ql⟩ : _ ∧ _ ∧ _ ∧ _ ∧ _ ∧ _ ∧ _ ∧ _ ∧ _ := ⟨b2.cell 0, b2.cell 1, b2.cell 2, b2.cell 3, b2.cell 4, b2.cell 5, b2.cell 6, b2.cell 7, b2.lt⟩
  simp only [List.getElem?_toArray, List.getElem?_cons_zero, List.getElem?_cons_succ] at p0 p1 p2 p3 p4 p5 p6 p7 q0 q1 q2 q3 q4 q5 q6 q7
  have HB := Lib.hid hb
  have HS := Lib.hid (sI_eq (natI ks) n (by simpa [natI] using HR.out.2.2) hn2 A A' c c' W (HR.out.1.on hb) (HR.out.2.1.on hb))
  clear b1 b2 hb
  go_wp2_with fail
  refine HS.out.mono ?_
  clear HS
  rintro e w1 ⟨rfl, d, rfl⟩
  go_wp2_with fail
  go_ret
  exact ⟨rfl, HB.out.trans (below_drewN _ _ _)⟩
set_option maxHeartbeats 4000000 in
set_option maxRecDepth 100000 in
theorem sNs_eq (ns ms : List CN) (tr : List (Int × Int)) (hnm : ms.map CN.nd = ns.map CN.nd) (htl : tr.length = ns.length) (N : Nat) (hN : ns.length = N) (hN2 : N ≤ 1000000) (A A' : Option Addr) (c c' : Nat) (w : World) (h1 : RdS w (.slice A N c) N (cellsTr ns tr)) (h2 : RdS w (.slice A' N c') N (cellsTr ms tr))
    (hk1 : ∀ x ∈ ns, RdS w x.v x.kids.length (ints (natI x.kids))) (hk2 : ∀ x ∈ ms, RdS w x.v x.kids.length (ints (natI x.kids))) (hkl : ∀ x ∈ ns, x.kids.length ≤ 1000000) :
    Calls Tryz.prog 34 #[.slice A N c, .slice A' N c'] w fun e w' => e = .returned (.bool true) ∧ Below w.heap.size w w' := by
  have hM : ms.length = N := by have h9 := congrArg List.length hnm; rw [List.length_map, List.length_map, hN] at h9; exact h9
  have H := Lib.hid (And.intro h1 (And.intro h2 (And.intro hk1 (And.intro hk2 (And.intro hkl (And.intro hnm (And.intro htl (And.intro hN hM))))))))
  clear h1 h2 hk1 hk2 hkl hnm htl hN hM
  go_enter Tryz.func34, Tryz.ntmps34
  go_wp2
  go_loopw [5] (fun v wr => ∃ k : Nat, k ≤ N ∧ v = .int .i64 k ∧ Below w.heap.size w wr) (fun v _ => N - (intOf v).toNat)
  case atStart => exact ⟨0, by omega, rfl, Below.refl _ _⟩
  case round =>
    obtain ⟨k, hk, rfl, hb⟩ := hrel
    by_cases hlt : k < N
    · obtain ⟨h1, h2, hk1, hk2, hkl, hnm, htl, hN, hM⟩ := H.out
      obtain ⟨x, hx⟩ : ∃ x, ns[k]? = some x := ⟨_, List.getElem?_eq_getElem (by omega)⟩
      obtain ⟨y, hy⟩ : ∃ y, ms[k]? = some y := ⟨_, List.getElem?_eq_getElem (by omega)⟩
      obtain ⟨t, ht⟩ : ∃ t, tr[k]? = some t := ⟨_, List.getElem?_eq_getElem (by omega)⟩
      have hxy : y.nd = x.nd := by
        have h9 := congrArg (fun l => l[k]?) hnm
        simp only [List.getElem?_map, hx, hy, Option.map_some, Option.some.injEq] at h9
        exact h9
      have hc1 := fun j hj => cellsTr_at ns tr k j hj hx ht
      have hc2 := fun j hj => cellsTr_at ms tr k j hj hy ht
      have e0 : (cellsTr ns tr)[k * 8]? = some (.int .i64 x.h.op) := hc1 0 (by omega)
      have e0' : (cellsTr ms tr)[k * 8]? = some (.int .i64 y.h.op) := hc2 0 (by omega)
      obtain ⟨g, o, rfl, hg, hr1⟩ := (h1.on hb).get (fun e => by rw [e] at e0; cases e0)
      obtain ⟨g', o', rfl, hg', hr2⟩ := (h2.on hb).get (fun e => by rw [e] at e0'; cases e0')
      have hkx := (hk1 x (List.mem_of_getElem? hx)).on hb
      have hky := (hk2 y (List.mem_of_getElem? hy)).on hb
      have hklx := hkl x (List.mem_of_getElem? hx)
      obtain ⟨xh, xk, xv⟩ := x
      obtain ⟨yh, yk, yv⟩ := y
      simp only [CN.nd, Nd.mk.injEq] at hxy
      obtain ⟨rfl, rfl⟩ := hxy
      simp only at hkx hky hklx
      obtain ⟨kn, hkn⟩ : ∃ n, yk.length = n := ⟨_, rfl⟩
      rw [hkn] at hkx hky hklx
      obtain ⟨A1, c1, rfl⟩ := hkx.shape
      obtain ⟨A2, c2, rfl⟩ := hky.shape
      have HSN := Lib.hid (fun (W : World) (hW : Below wr.heap.size wr W) => sN_eq yh yk t (.slice A1 kn c1) (.slice A2 kn c2) W kn hkn hklx (hkx.on hW) (hky.on hW))
      obtain ⟨t1, t2⟩ := t
      obtain ⟨o1, o2, o3, o4, o5, o6⟩ := yh
      unfold cellT at HSN
      simp only at HSN
      have y0 : wr.cell? ⟨g, o + k * 8, none⟩ = some (.int .i64 o1) := hr1 _ _ (hc1 0 (by omega))
      have y1 : wr.cell? ⟨g, o + k * 8 + 1, none⟩ = some (.int .i64 o2) := hr1 _ _ (hc1 1 (by omega))
      have y2 : wr.cell? ⟨g, o + k * 8 + 2, none⟩ = some (.int .i64 o3) := hr1 _ _ (hc1 2 (by omega))
      have y3 : wr.cell? ⟨g, o + k * 8 + 3, none⟩ = some (.string (str o4)) := hr1 _ _ (hc1 3 (by omega))
      have y4 : wr.cell? ⟨g, o + k * 8 + 4, none⟩ = some (.int .i64 o5) := hr1 _ _ (hc1 4 (by omega))
      have y5 : wr.cell? ⟨g, o + k * 8 + 5, none⟩ = some (.slice A1 kn c1) := hr1 _ _ (hc1 5 (by omega))
      have y6 : wr.cell? ⟨g, o + k * 8 + 6, none⟩ = some (.int .i64 t1) := hr1 _ _ (hc1 6 (by omega))
      have y7 : wr.cell? ⟨g, o + k * 8 + 7, none⟩ = some (.int .i64 t2) := hr1 _ _ (hc1 7 (by omega))
      have z0 : wr.cell? ⟨g', o' + k * 8, none⟩ = some (.int .i64 o1) := hr2 _ _ (hc2 0 (by omega))
      have z1 : wr.cell? ⟨g', o' + k * 8 + 1, none⟩ = some (.int .i64 o2) := hr2 _ _ (hc2 1 (by omega))
      have z2 : wr.cell? ⟨g', o' + k * 8 + 2, none⟩ = some (.int .i64 o3) := hr2 _ _ (hc2 2 (by omega))
      have z3 : wr.cell? ⟨g', o' + k * 8 + 3, none⟩ = some (.string (str o4)) := hr2 _ _ (hc2 3 (by omega))
      have z4 : wr.cell? ⟨g', o' + k * 8 + 4, none⟩ = some (.int .i64 o5) := hr2 _ _ (hc2 4 (by omega))
      have z5 : wr.cell? ⟨g', o' + k * 8 + 5, none⟩ = some (.slice A2 kn c2) := hr2 _ _ (hc2 5 (by omega))
      have z6 : wr.cell? ⟨g', o' + k * 8 + 6, none⟩ = some (.int .i64 t1) := hr2 _ _ (hc2 6 (by omega))
      have z7 : wr.cell? ⟨g', o' + k * 8 + 7, none⟩ = some (.int .i64 t2) := hr2 _ _ (hc2 7 (by omega))
      have HB := Lib.hid hb
      clear h1 h2 hk1 hk2 hkl hnm htl hN hM hx hy ht hc1 hc2 e0 e0' hr1 hr2 hkx hky hklx hkn hb
      go_wp2_with fail
      go_region_with (go_at_call 66; refine (HSN.out _ (by first | exact Below.refl _ _ | exact bd1 _ | exact (bd1 _).drew)).mono ?_; rintro e w1 ⟨rfl, hb1⟩)
      all_goals
        have hbw : Below w.heap.size w w1 := by first | exact HB.out.trans (hb1.mono HB.out.size) | exact HB.out.drew.trans (hb1.mono HB.out.size)
        have HBW := Lib.hid hbw
        clear hb1 hbw
        go_wp2
        go_roundw
        case rel => exact ⟨k + 1, by omega, by go_num, HBW.out⟩
        case measure => simp [intOf]; omega
    · go_wp2
      go_ret
      exact ⟨rfl, hb⟩
set_option maxHeartbeats 2000000 in
set_option maxRecDepth 100000 in
theorem sF_eq (f : Fn') (pv pv' vv vv' : Value) (vl : List Int) (w : World) (n vn : Nat) (hn : f.ps.length = n) (hn2 : n ≤ 1000000) (hvn : vl.length = vn) (hvn2 : vn ≤ 1000000) (h1 : RdS w pv n (f.ps.flatMap pmC')) (h2 : RdS w pv' n (f.ps.flatMap pmC')) (h3 : RdS w vv vn (ints vl)) (h4 : RdS w vv' vn (ints vl)) :
    Calls Tryz.prog 65 #[.agg (fnC (f, pv) vv).toArray, .agg (fnC (f, pv') vv').toArray] w fun e w' => e = .returned (.bool true) ∧ Below w.heap.size w w' := by
  obtain ⟨A, c, rfl⟩ := h1.shape
  obtain ⟨A', c', rfl⟩ := h2.shape
  obtain ⟨VA, vc, rfl⟩ := h3.shape
  obtain ⟨VA', vc', rfl⟩ := h4.shape
  obtain ⟨f1, f2, f3, f4, f5⟩ := f
  unfold fnC
  simp only at h1 h2 hn ⊢
  have HR := Lib.hid (And.intro h1 (And.intro h2 (And.intro h3 (And.intro h4 (And.intro hn hvn)))))
  clear h1 h2 h3 h4 hn hvn
  go_enter Tryz.func65, Tryz.ntmps65
  go_upto_region 1 with (fail)
  have b1 : Blk ((w.alloc (.cells #[.string (str f1), .int .i64 f2, .slice A n c, .int .i64 (f4 : Nat), .int .i64 f5, .slice VA vn vc] tFu)).alloc (.cells #[.string (str f1), .int .i64 f2, .slice A' n c', .int .i64 (f4 : Nat), .int .i64 f5, .slice VA' vn vc'] tFu)) w.heap.size tFu #[.string (str f1), .int .i64 f2, .slice A n c, .int .i64 (f4 : Nat), .int .i64 f5, .slice VA vn vc] := (Blk.new w tFu _).alloc _
  have b2 := Blk.new (w.alloc (.cells #[.string (str f1), .int .i64 f2, .slice A n c, .int .i64 (f4 : Nat), .int .i64 f5, .slice VA vn vc] tFu)) tFu #[.string (str f1), .int .i64 f2, .slice A' n c', .int .i64 (f4 : Nat), .int .i64 f5, .slice VA' vn vc']
  have e2 : (w.alloc (.cells #[.string (str f1), .int .i64 f2, .slice A n c, .int .i64 (f4 : Nat), .int .i64 f5, .slice VA vn vc] tFu)).heap.size = w.heap.size + 1 := by simp
  rw [e2] at b2
  have hb : Below w.heap.size w ((w.alloc (.cells #[.string (str f1), .int .i64 f2, .slice A n c, .int .i64 (f4 : Nat), .int .i64 f5, .slice VA vn vc] tFu)).alloc (.cells #[.string (str f1), .int .i64 f2, .slice A' n c', .int .i64 (f4 : Nat), .int .i64 f5, .slice VA' vn vc'] tFu)) := ((Below.refl _ _).alloc (Nat.le_refl _) _).alloc (by simp) _
  clear e2
  generalize (w.alloc (.cells #[.string (str f1), .int .i64 f2, .slice A n c, .int .i64 (f4 : Nat), .int .i64 f5, .slice VA vn vc] tFu)).alloc (.cells #[.string (str f1), .int .i64 f2, .slice A' n c', .int .i64 (f4 : Nat), .int .i64 f5, .slice VA' vn vc'] tFu) = W at *
  obtain ⟨p0, p1, p2, p3, p4, p5, pl⟩ : _ ∧ _ ∧ _ ∧ _ ∧ _ ∧ _ ∧ _ := ⟨b1.cell 0, b1.cell 1, b1.cell 2, b1.cell 3, b1.cell 4, b1.cell 5, b1.lt⟩
  obtain ⟨q0, q1, q2, q3, q4, q5, ql⟩ : _ ∧ _ ∧ _ ∧ _ ∧ _ ∧ _ ∧ _ := ⟨b2.cell 0, b2.cell 1, b2.cell 2, b2.cell 3, b2.cell 4, b2.cell 5, b2.lt⟩
  simp only [List.getElem?_toArray, List.getElem?_cons_zero, List.getElem?_cons_succ] at p0 p1 p2 p3 p4 p5 q0 q1 q2 q3 q4 q5
  have HB := Lib.hid hb
  have HS := Lib.hid (sP_eq f3 n HR.out.2.2.2.2.1 hn2 A A' c c' W (HR.out.1.on hb) (HR.out.2.1.on hb))
  have HS2 : Hid (∀ d, Calls Tryz.prog 101 #[.slice VA vn vc, .slice VA' vn vc'] (W.drewN d) fun e w' => e = .returned (.bool true) ∧ ∃ d', w' = (W.drewN d).drewN d') := Lib.hid fun d =>
    sI_eq vl vn HR.out.2.2.2.2.2 hvn2 VA VA' vc vc' _ ((HR.out.2.2.1.on hb).on (below_drewN _ _ _)) ((HR.out.2.2.2.1.on hb).on (below_drewN _ _ _))
  clear b1 b2 hb
  go_wp2_with fail
  refine HS.out.mono ?_
  clear HS
  rintro e w1 ⟨rfl, d, rfl⟩
  go_wp2_with fail
  refine (HS2.out d).mono ?_
  clear HS2
  rintro e w2 ⟨rfl, d', rfl⟩
  go_wp2_with fail
  go_ret
  first
    | exact ⟨rfl, HB.out.trans (below_drewN _ _ _)⟩
    | exact ⟨rfl, (HB.out.trans (below_drewN _ _ _)).trans (below_drewN _ _ _)⟩
set_option maxHeartbeats 4000000 in
set_option maxRecDepth 100000 in
theorem sFs_eq (fl ml : List (Fn' × Value)) (vls uls : List Value) (vs : List (List Int)) (hfm : ml.map (·.1) = fl.map (·.1)) (N : Nat) (hN : fl.length = N) (hN2 : N ≤ 1000000) (hvl : vls.length = N) (hul : uls.length = N) (hvs : vs.length = N) (A A' : Option Addr) (c c' : Nat) (w : World) (h1 : RdS w (.slice A N c) N (fnCs fl vls)) (h2 : RdS w (.slice A' N c') N (fnCs ml uls))
    (hp1 : ∀ x ∈ fl, RdS w x.2 x.1.ps.length (x.1.ps.flatMap pmC')) (hp2 : ∀ x ∈ ml, RdS w x.2 x.1.ps.length (x.1.ps.flatMap pmC')) (hv1 : ∀ (j : Nat) (v : Value) (l : List Int), vls[j]? = some v → vs[j]? = some l → RdS w v l.length (ints l)) (hv2 : ∀ (j : Nat) (v : Value) (l : List Int), uls[j]? = some v → vs[j]? = some l → RdS w v l.length (ints l))
    (hpl : ∀ x ∈ fl, x.1.ps.length ≤ 1000000) (hvll : ∀ l ∈ vs, l.length ≤ 1000000) :
    Calls Tryz.prog 33 #[.slice A N c, .slice A' N c'] w fun e w' => e = .returned (.bool true) ∧ Below w.heap.size w w' := by
  have hM : ml.length = N := by have h9 := congrArg List.length hfm; rw [List.length_map, List.length_map, hN] at h9; exact h9
  have H := Lib.hid (And.intro h1 (And.intro h2 (And.intro hp1 (And.intro hp2 (And.intro hv1 (And.intro hv2 (And.intro hpl (And.intro hvll (And.intro hfm (And.intro hN (And.intro hM (And.intro hvl (And.intro hul hvs)))))))))))))
  clear h1 h2 hp1 hp2 hv1 hv2 hpl hvll hfm hN hM hvl hul hvs
  go_enter Tryz.func33, Tryz.ntmps33
  go_wp2
  go_loopw [5] (fun v wr => ∃ k : Nat, k ≤ N ∧ v = .int .i64 k ∧ Below w.heap.size w wr) (fun v _ => N - (intOf v).toNat)
  case atStart => exact ⟨0, by omega, rfl, Below.refl _ _⟩
  case round =>
    obtain ⟨k, hk, rfl, hb⟩ := hrel
    by_cases hlt : k < N
    · obtain ⟨h1, h2, hp1, hp2, hv1, hv2, hpl, hvll, hfm, hN, hM, hvl, hul, hvs⟩ := H.out
      obtain ⟨x, hx⟩ : ∃ x, fl[k]? = some x := ⟨_, List.getElem?_eq_getElem (by omega)⟩
      obtain ⟨y, hy⟩ : ∃ y, ml[k]? = some y := ⟨_, List.getElem?_eq_getElem (by omega)⟩
      obtain ⟨v, hv⟩ : ∃ v, vls[k]? = some v := ⟨_, List.getElem?_eq_getElem (by omega)⟩
      obtain ⟨u, hu⟩ : ∃ u, uls[k]? = some u := ⟨_, List.getElem?_eq_getElem (by omega)⟩
      obtain ⟨l, hl⟩ : ∃ l, vs[k]? = some l := ⟨_, List.getElem?_eq_getElem (by omega)⟩
      have hxy : y.1 = x.1 := by
        have h9 := congrArg (fun l => l[k]?) hfm
        simp only [List.getElem?_map, hx, hy, Option.map_some, Option.some.injEq] at h9
        exact h9
      have hc1 := fun j hj => fnCs_at fl vls k j hj hx hv
      have hc2 := fun j hj => fnCs_at ml uls k j hj hy hu
      have e0 : (fnCs fl vls)[k * 6]? = some (.string (str x.1.s)) := hc1 0 (by omega)
      have e0' : (fnCs ml uls)[k * 6]? = some (.string (str y.1.s)) := hc2 0 (by omega)
      obtain ⟨g, o, rfl, hg, hr1⟩ := (h1.on hb).get (fun e => by rw [e] at e0; cases e0)
      obtain ⟨g', o', rfl, hg', hr2⟩ := (h2.on hb).get (fun e => by rw [e] at e0'; cases e0')
      have hpx := (hp1 x (List.mem_of_getElem? hx)).on hb
      have hpy := (hp2 y (List.mem_of_getElem? hy)).on hb
      have hvx := (hv1 k v l hv hl).on hb
      have hvy := (hv2 k u l hu hl).on hb
      have hplx := hpl x (List.mem_of_getElem? hx)
      have hvlx := hvll l (List.mem_of_getElem? hl)
      obtain ⟨xf, xp⟩ := x
      obtain ⟨yf, yp⟩ := y
      simp only at hxy
      subst hxy
      simp only at hpx hpy hplx
      obtain ⟨pn, hpn⟩ : ∃ n, yf.ps.length = n := ⟨_, rfl⟩
      obtain ⟨vn, hvn⟩ : ∃ n, l.length = n := ⟨_, rfl⟩
      rw [hpn] at hpx hpy hplx
      rw [hvn] at hvx hvy hvlx
      obtain ⟨A1, c1, rfl⟩ := hpx.shape
      obtain ⟨A2, c2, rfl⟩ := hpy.shape
      obtain ⟨V1, d1, rfl⟩ := hvx.shape
      obtain ⟨V2, d2, rfl⟩ := hvy.shape
      have HSN := Lib.hid (fun (W : World) (hW : Below wr.heap.size wr W) => sF_eq yf (.slice A1 pn c1) (.slice A2 pn c2) (.slice V1 vn d1) (.slice V2 vn d2) l W pn vn hpn hplx hvn hvlx (hpx.on hW) (hpy.on hW) (hvx.on hW) (hvy.on hW))
      obtain ⟨f1, f2, f3, f4, f5⟩ := yf
      unfold fnC at HSN
      simp only at HSN
      have y0 : wr.cell? ⟨g, o + k * 6, none⟩ = some (.string (str f1)) := hr1 _ _ (hc1 0 (by omega))
      have y1 : wr.cell? ⟨g, o + k * 6 + 1, none⟩ = some (.int .i64 f2) := hr1 _ _ (hc1 1 (by omega))
      have y2 : wr.cell? ⟨g, o + k * 6 + 2, none⟩ = some (.slice A1 pn c1) := hr1 _ _ (hc1 2 (by omega))
      have y3 : wr.cell? ⟨g, o + k * 6 + 3, none⟩ = some (.int .i64 (f4 : Nat)) := hr1 _ _ (hc1 3 (by omega))
      have y4 : wr.cell? ⟨g, o + k * 6 + 4, none⟩ = some (.int .i64 f5) := hr1 _ _ (hc1 4 (by omega))
      have y5 : wr.cell? ⟨g, o + k * 6 + 5, none⟩ = some (.slice V1 vn d1) := hr1 _ _ (hc1 5 (by omega))
      have z0 : wr.cell? ⟨g', o' + k * 6, none⟩ = some (.string (str f1)) := hr2 _ _ (hc2 0 (by omega))
      have z1 : wr.cell? ⟨g', o' + k * 6 + 1, none⟩ = some (.int .i64 f2) := hr2 _ _ (hc2 1 (by omega))
      have z2 : wr.cell? ⟨g', o' + k * 6 + 2, none⟩ = some (.slice A2 pn c2) := hr2 _ _ (hc2 2 (by omega))
      have z3 : wr.cell? ⟨g', o' + k * 6 + 3, none⟩ = some (.int .i64 (f4 : Nat)) := hr2 _ _ (hc2 3 (by omega))
      have z4 : wr.cell? ⟨g', o' + k * 6 + 4, none⟩ = some (.int .i64 f5) := hr2 _ _ (hc2 4 (by omega))
      have z5 : wr.cell? ⟨g', o' + k * 6 + 5, none⟩ = some (.slice V2 vn d2) := hr2 _ _ (hc2 5 (by omega))
      have HB := Lib.hid hb
      clear h1 h2 hp1 hp2 hv1 hv2 hpl hvll hfm hN hM hvl hul hvs hx hy hv hu hl hc1 hc2 e0 e0' hr1 hr2 hpx hpy hvx hvy hplx hvlx hpn hvn hb
      go_wp2_with fail
      go_region_with (go_at_call 65; refine (HSN.out _ (by first | exact Below.refl _ _ | exact bd1 _ | exact (bd1 _).drew)).mono ?_; rintro e w1 ⟨rfl, hb1⟩)
      all_goals
        have hbw : Below w.heap.size w w1 := by first | exact HB.out.trans (hb1.mono HB.out.size) | exact HB.out.drew.trans (hb1.mono HB.out.size)
        have HBW := Lib.hid hbw
        clear hb1 hbw
        go_wp2
        go_roundw
        case rel => exact ⟨k + 1, by omega, by go_num, HBW.out⟩
        case measure => simp [intOf]; omega
    · go_wp2
      go_ret
      exact ⟨rfl, hb⟩
/-- A program that is read, with its functions' variables. -/
structure PgR (w : World) (gA fA nA : Option Addr) (gc fc nc : Nat) (gs : List Gl) (fl : List (Fn' × Value)) (vls : List Value) (ns : List CN) (tr : List (Int × Int)) (vs : List (List Int)) : Prop where
  pi : PgI w gA fA nA gc fc nc gs fl vls ns tr
  vn : vs.length = fl.length
  vr : ∀ (j : Nat) (v : Value) (l : List Int), vls[j]? = some v → vs[j]? = some l → RdS w v l.length (ints l)
theorem PgR.on {w w' : World} {gA fA nA : Option Addr} {gc fc nc : Nat} {gs : List Gl} {fl : List (Fn' × Value)} {vls : List Value} {ns : List CN} {tr : List (Int × Int)} {vs : List (List Int)} (h : PgR w gA fA nA gc fc nc gs fl vls ns tr vs) (hb : Below w.heap.size w w') : PgR w' gA fA nA gc fc nc gs fl vls ns tr vs :=
  ⟨h.pi.on hb, h.vn, fun j v l h1 h2 => (h.vr j v l h1 h2).on hb⟩
theorem PgC.rd {B : Nat} {w : World} {gA fA nA : Option Addr} {gc fc nc : Nat} {pg : Pg} {fl : List (Fn' × Value)} {vls : List Value} {ns : List CN} {tr : List (Int × Int)} {vs : List (List Int)} (h : PgC B w gA fA nA gc fc nc pg fl vls ns tr vs) : PgR w gA fA nA gc fc nc pg.g fl vls ns tr vs where
  pi := ⟨RdS.of_row h.g, RdS.of_row h.f, RdS.of_row h.n, h.vl, h.tl, fun v hv => by
    obtain ⟨j, hj, rfl⟩ := List.getElem_of_mem hv
    obtain ⟨l, hl⟩ : ∃ l, vs[j]? = some l := ⟨_, List.getElem?_eq_getElem (by rw [h.vn, ← h.vl]; exact hj)⟩
    obtain ⟨A, c, e⟩ := own_ex (h.vr j _ l (List.getElem?_eq_getElem hj) hl)
    exact ⟨A, _, c, e⟩, fun x hx => RdS.of_row (h.ps x hx), fun x hx => RdS.of_row (h.ks x hx)⟩
  vn := h.vn
  vr := fun j v l h1 h2 => RdS.of_row (h.vr j v l h1 h2)
set_option maxHeartbeats 2000000 in
set_option maxRecDepth 100000 in
/-- Two programs of the same data. -/
theorem sPr_eq {gs : List Gl} {fl ml : List (Fn' × Value)} {vls uls : List Value} {ns ms : List CN} {tr : List (Int × Int)} {vs : List (List Int)} {gA fA nA gA' fA' nA' : Option Addr} {gc fc nc gc' fc' nc' : Nat} {w : World} (h : PgR w gA fA nA gc fc nc gs fl vls ns tr vs) (h' : PgR w gA' fA' nA' gc' fc' nc' gs ml uls ms tr vs)
    (hfm : ml.map (·.1) = fl.map (·.1)) (hnm : ms.map CN.nd = ns.map CN.nd) (hgl : gs.length ≤ 1000000) (hfl : fl.length ≤ 1000000) (hnl : ns.length ≤ 1000000) (hpl : ∀ x ∈ fl, x.1.ps.length ≤ 1000000) (hkl : ∀ x ∈ ns, x.kids.length ≤ 1000000) (hvl : ∀ l ∈ vs, l.length ≤ 1000000) :
    Calls Tryz.prog 12 #[pgV gA fA nA gs.length gc fl.length fc ns.length nc, pgV gA' fA' nA' gs.length gc' ml.length fc' ms.length nc'] w fun e w' => e = .returned (.bool true) ∧ Below w.heap.size w w' := by
  have hlf : ml.length = fl.length := by have h := congrArg List.length hfm; rw [List.length_map, List.length_map] at h; exact h
  have hln : ms.length = ns.length := by have h := congrArg List.length hnm; rw [List.length_map, List.length_map] at h; exact h
  have h1f := h.pi.f
  have h2f := h'.pi.f
  have h1g := h.pi.g
  have h2g := h'.pi.g
  have h1n := h.pi.n
  have h2n := h'.pi.n
  rw [hlf] at h2f ⊢
  rw [hln] at h2n ⊢
  obtain ⟨ng, hng⟩ : ∃ n, gs.length = n := ⟨_, rfl⟩
  obtain ⟨nf, hnf⟩ : ∃ n, fl.length = n := ⟨_, rfl⟩
  obtain ⟨N, hNN⟩ : ∃ n, ns.length = n := ⟨_, rfl⟩
  rw [hng] at h1g h2g hgl ⊢
  rw [hnf] at h1f h2f hfl ⊢
  rw [hNN] at h1n h2n hnl ⊢
  have HC : Hid ((∀ W, Below w.heap.size w W → Calls Tryz.prog 32 #[.slice gA ng gc, .slice gA' ng gc'] W fun e w' => e = .returned (.bool true) ∧ ∃ d, w' = W.drewN d) ∧
      (∀ W, Below w.heap.size w W → Calls Tryz.prog 33 #[.slice fA nf fc, .slice fA' nf fc'] W fun e w' => e = .returned (.bool true) ∧ Below W.heap.size W w') ∧
      (∀ W, Below w.heap.size w W → Calls Tryz.prog 34 #[.slice nA N nc, .slice nA' N nc'] W fun e w' => e = .returned (.bool true) ∧ Below W.heap.size W w')) := by
    refine Lib.hid ⟨fun W hW => ?_, fun W hW => ?_, fun W hW => ?_⟩
    · exact sG_eq gs ng hng hgl gA gA' gc gc' W (h1g.on hW) (h2g.on hW)
    · exact sFs_eq fl ml vls uls vs hfm nf hnf hfl (by rw [h.pi.vl, hnf]) (by rw [h'.pi.vl, hlf, hnf]) (by rw [h.vn, hnf]) fA fA' fc fc' W (h1f.on hW) (h2f.on hW) (fun x hx => (h.pi.ps x hx).on hW) (fun x hx => (h'.pi.ps x hx).on hW) (fun j v l a b => (h.vr j v l a b).on hW) (fun j v l a b => (h'.vr j v l a b).on hW) hpl hvl
    · exact sNs_eq ns ms tr hnm h.pi.tl N hNN hnl nA nA' nc nc' W (h1n.on hW) (h2n.on hW) (fun x hx => (h.pi.ks x hx).on hW) (fun x hx => (h'.pi.ks x hx).on hW) hkl
  clear h h' hfm hnm hgl hfl hnl hpl hkl hvl hlf hln h1f h2f h1g h2g h1n h2n hng hnf hNN
  go_enter Tryz.func12, Tryz.ntmps12
  go_upto_region 1 with (fail)
  have b1 : Blk ((w.alloc (.cells #[.slice gA ng gc, .slice fA nf fc, .slice nA N nc] tPro)).alloc (.cells #[.slice gA' ng gc', .slice fA' nf fc', .slice nA' N nc'] tPro)) w.heap.size tPro #[.slice gA ng gc, .slice fA nf fc, .slice nA N nc] := (Blk.new w tPro _).alloc _
  have b2 := Blk.new (w.alloc (.cells #[.slice gA ng gc, .slice fA nf fc, .slice nA N nc] tPro)) tPro #[.slice gA' ng gc', .slice fA' nf fc', .slice nA' N nc']
  have e2 : (w.alloc (.cells #[.slice gA ng gc, .slice fA nf fc, .slice nA N nc] tPro)).heap.size = w.heap.size + 1 := by simp
  rw [e2] at b2
  have hb : Below w.heap.size w ((w.alloc (.cells #[.slice gA ng gc, .slice fA nf fc, .slice nA N nc] tPro)).alloc (.cells #[.slice gA' ng gc', .slice fA' nf fc', .slice nA' N nc'] tPro)) := ((Below.refl _ _).alloc (Nat.le_refl _) _).alloc (by simp) _
  clear e2
  generalize (w.alloc (.cells #[.slice gA ng gc, .slice fA nf fc, .slice nA N nc] tPro)).alloc (.cells #[.slice gA' ng gc', .slice fA' nf fc', .slice nA' N nc'] tPro) = W at *
  obtain ⟨p0, p1, p2, pl⟩ : _ ∧ _ ∧ _ ∧ _ := ⟨b1.cell 0, b1.cell 1, b1.cell 2, b1.lt⟩
  obtain ⟨q0, q1, q2, ql⟩ : _ ∧ _ ∧ _ ∧ _ := ⟨b2.cell 0, b2.cell 1, b2.cell 2, b2.lt⟩
  simp only [List.getElem?_toArray, List.getElem?_cons_zero, List.getElem?_cons_succ] at p0 p1 p2 q0 q1 q2
  have HB := Lib.hid hb
  have B1 := Lib.hid b1
  have B2 := Lib.hid b2
  clear hb b1 b2
  go_wp2_with fail
  refine (HC.out.1 W HB.out).mono ?_
  rintro e w1 ⟨rfl, d, rfl⟩
  have HB1 := Lib.hid (HB.out.trans (below_drewN w.heap.size W d))
  go_wp2_with fail
  refine (HC.out.2.1 _ HB1.out).mono ?_
  rintro e w2 ⟨rfl, hb2⟩
  have b1 : Blk w2 w.heap.size tPro #[.slice gA ng gc, .slice fA nf fc, .slice nA N nc] := (hb2.block _ B1.out.lt).trans B1.out
  have b2 : Blk w2 (w.heap.size + 1) tPro #[.slice gA' ng gc', .slice fA' nf fc', .slice nA' N nc'] := (hb2.block _ B2.out.lt).trans B2.out
  have s2 : w2.cell? ⟨w.heap.size, 2, none⟩ = some (.slice nA N nc) := b1.cell 2
  have sl := b1.lt
  have t2 : w2.cell? ⟨w.heap.size + 1, 2, none⟩ = some (.slice nA' N nc') := b2.cell 2
  have tl := b2.lt
  have HB2 := Lib.hid (HB1.out.trans (hb2.mono HB1.out.size))
  clear hb2 b1 b2
  go_wp2_with fail
  refine (HC.out.2.2 _ HB2.out).mono ?_
  rintro e w3 ⟨rfl, hb3⟩
  have HB3 := Lib.hid (HB2.out.trans (hb3.mono HB2.out.size))
  clear hb3
  go_wp2_with fail
  go_ret
  exact ⟨rfl, HB3.out⟩
end Go.Proofs.YtgbofbbdefkbpaaGreatDoor
/-! Cmb -/
namespace Go.Proofs.YtgbofbbdefkbpaaGreatDoor
open Go Go.RowKit Go.Maps
set_option linter.unusedVariables false
set_option linter.unusedSimpArgs false

/-- The answer of Parsed. -/
def ParsedA (l : List UInt8) (w : World) (e : Ending) (w' : World) : Prop :=
  Below w.heap.size w w' ∧ match readL l with
  | some pg => ∃ gv fv nv fl ns, e = .returned (.tuple #[.agg #[gv, fv, nv], .bool true]) ∧ PgM w.heap.size w' pg gv fv nv fl ns
  | none => e = .returned (.tuple #[.agg #[vNil, vNil, vNil], .bool false])

set_option maxHeartbeats 4000000 in
set_option maxRecDepth 100000 in
theorem parsedA_any (s : ByteArray) (hs : s.size ≤ maxLen) (w : World) (hE : Env w ∧ EnvY w) :
    Calls Tryz.prog 8 #[.string s] w (ParsedA s.data.toList w) := by
  have hb0 : Below w.heap.size w (w.alloc (.cells #[vNil, vNil, vNil] tPg)) := (Below.refl _ _).alloc (Nat.le_refl _) _
  have hL := lex_any s hs _ (hE.1.of hb0)
  have b0 := Blk.new w tPg #[vNil, vNil, vNil]
  have e1 : (w.alloc (.cells #[vNil, vNil, vNil] tPg)).heap.size = w.heap.size + 1 := by simp
  have hlx := @lex_toks s.data.toList
  have hpe := parse_e (lexL s.data.toList).1
  have hpo := parse_ends (lexL s.data.toList).1
  obtain ⟨R, hR⟩ : ∃ R : Ending → World → Prop, ParsedA s.data.toList w = R := ⟨_, rfl⟩
  rw [hR]
  obtain ⟨⟨toks, no, at_⟩, hx⟩ : ∃ x, lexL s.data.toList = x := ⟨_, rfl⟩
  rw [hx] at hL hlx hpe hpo
  simp only at hlx hpe hpo
  have HPO : Hid (∀ e w', (Below w.heap.size w w' ∧ match (if no ≠ 0 then none else match parseL toks with | .ok pg _ => some pg | _ => none) with
      | some pg => ∃ gv fv nv fl ns, e = .returned (.tuple #[.agg #[gv, fv, nv], .bool true]) ∧ PgM w.heap.size w' pg gv fv nv fl ns
      | none => e = .returned (.tuple #[.agg #[vNil, vNil, vNil], .bool false])) → R e w') := Lib.hid fun e w' h => by
    rw [← hR]
    unfold ParsedA readL
    rw [hx]
    exact h
  clear hR hx
  have HE := Lib.hid hE
  have HB0 := Lib.hid hb0
  have HX := Lib.hid (And.intro hpe hpo)
  clear hE hb0 hpe hpo
  go_enter Tryz.func8, Tryz.ntmps8
  go_wp2_with fail
  refine hL.mono ?_
  rintro e w1 hp
  clear hL
  obtain ⟨A, c, rfl, hr, hlc, hcm, hA0, hb⟩ := lexp_usec hp
  simp only at hr hlc ⊢
  rw [e1] at hb
  have b1 : Blk w1 w.heap.size tPg #[vNil, vNil, vNil] := (hb.block _ (by omega)).trans b0
  have hz1 : w.heap.size < w1.heap.size := b1.lt
  have hbw := HB0.out.trans (hb.mono (Nat.le_succ _))
  have b2 := b1.alloc (.cells #[.int .i64 no, .int .i64 at_] tD)
  have d2 := Blk.new w1 tD #[.int .i64 no, .int .i64 at_]
  have hbw2 := hbw.alloc hbw.size (.cells #[.int .i64 no, .int .i64 at_] tD)
  have B2 := Lib.hid b2
  have D2 := Lib.hid d2
  have HW2 := Lib.hid hbw2
  have HR1 := Lib.hid hr
  clear hp hb hr b0 b1
  by_cases h0 : no = 0
  · obtain ⟨hzl, hcnt, htv⟩ := hlx h0
    subst h0
    have htx : ∀ t ∈ toks, t.s.length ≤ 140737488355328 := fun t ht => by have := (htv t ht).sl; omega
    have HCN := Lib.hid (And.intro hcnt (And.intro hzl (And.intro htx (And.intro hlc (And.intro hcm hA0)))))
    clear hlx hcnt htv hbw hbw2 hcm hlc hA0 htx hzl e1
    go_upto_region 4 with (fail)
    have hr2 : RdT (w1.alloc (.cells #[.int .i64 0, .int .i64 at_] tD)) (w1.alloc (.cells #[.int .i64 0, .int .i64 at_] tD)).heap.size A toks := (HR1.out.below ((Below.refl _ _).alloc (Nat.le_refl _) _)).more (by simp)
    generalize w1.alloc (.cells #[.int .i64 0, .int .i64 at_] tD) = W2 at *
    have HR2 := Lib.hid hr2
    have hE2 := HE.out.2.below HW2.out (Nat.le_refl _)
    have HPA := Lib.hid (parse_any toks toks.length c rfl (by have := HCN.out.1; have := HCN.out.2.1; omega) HCN.out.2.2.2.1 HCN.out.2.2.2.2.1 A HCN.out.2.2.2.2.2 W2 HR2.out HCN.out.2.2.1 hE2)
    clear hr2 hE2 b2 d2
    go_wp2_with fail
    refine HPA.out.mono ?_
    rintro e w3 ⟨hb3, hp3⟩
    obtain ⟨gA, gn, gc, fA, fn, fc, uA, un, uc, n, p, rfl, hfin⟩ : ∃ gA gn gc fA fn fc uA un uc n p, e = .returned (.tuple #[.agg #[.slice gA gn gc, .slice fA fn fc, .slice uA un uc], .agg #[.int .i64 n, .int .i64 p]]) ∧
        ∀ w' : World, (∀ i, W2.heap.size ≤ i → i < w3.heap.size → w'.heap[i]? = w3.heap[i]?) →
          match (match parseL toks with | .ok pg _ => some pg | _ => none) with
          | some pg => ∃ gv fv nv fl ns, Ending.returned (.tuple #[.agg #[.slice gA gn gc, .slice fA fn fc, .slice uA un uc], .bool (n == 0)]) = .returned (.tuple #[.agg #[gv, fv, nv], .bool true]) ∧ PgM w.heap.size w' pg gv fv nv fl ns
          | none => Ending.returned (.tuple #[.agg #[.slice gA gn gc, .slice fA fn fc, .slice uA un uc], .bool (n == 0)]) = .returned (.tuple #[.agg #[vNil, vNil, vNil], .bool false]) := by
      have hx1 := HX.out.1
      have hx2 := HX.out.2
      have hsz := HW2.out.size
      cases hP : parseL toks with
      | out => exact absurd hP hx2
      | er n p =>
        rw [hP] at hp3
        refine ⟨none, 0, 0, none, 0, 0, none, 0, 0, n, p, hp3, fun w' hk => ?_⟩
        have hn : (n == 0) = false := by simpa using hx1 n p hP
        simp only [hn]
      | ok pg st =>
        rw [hP] at hp3
        obtain ⟨gv, fv, nv, fl, ns, rfl, hM⟩ := hp3
        obtain ⟨gA, gc, rfl⟩ := shape_row hM.gs
        obtain ⟨fA, fc, rfl⟩ := shape_row hM.fs
        obtain ⟨uA, uc, rfl⟩ := shape_row hM.rows
        exact ⟨gA, _, gc, fA, _, fc, uA, _, uc, 0, 0, rfl, fun w' hk => ⟨_, _, _, fl, ns, rfl, (hM.keep hk).down hsz⟩⟩
    have HFN := Lib.hid hfin
    have b3 : Blk w3 w.heap.size tPg #[vNil, vNil, vNil] := (hb3.block _ B2.out.lt).trans B2.out
    have HB3 := Lib.hid (HW2.out.trans (hb3.mono HW2.out.size))
    have HZ3 := Lib.hid hb3.size
    clear hp3 hb3 hfin HPA HR2 HCN HX
    have B3 := Lib.hid b3
    clear b3
    go_upto_region 5 with (fail)
    have bA : Blk ((w3.alloc (.cells #[.slice gA gn gc, .slice fA fn fc, .slice uA un uc] tPg)).alloc (.cells #[.int .i64 n, .int .i64 p] tD)) w3.heap.size tPg #[.slice gA gn gc, .slice fA fn fc, .slice uA un uc] := (Blk.new w3 tPg _).alloc _
    have bD := Blk.new (w3.alloc (.cells #[.slice gA gn gc, .slice fA fn fc, .slice uA un uc] tPg)) tD #[.int .i64 n, .int .i64 p]
    have eD : (w3.alloc (.cells #[.slice gA gn gc, .slice fA fn fc, .slice uA un uc] tPg)).heap.size = w3.heap.size + 1 := by simp
    rw [eD] at bD
    have bR := (B3.out.alloc (.cells #[.slice gA gn gc, .slice fA fn fc, .slice uA un uc] tPg)).alloc (.cells #[.int .i64 n, .int .i64 p] tD)
    have hbl := (HB3.out.alloc HB3.out.size (.cells #[.slice gA gn gc, .slice fA fn fc, .slice uA un uc] tPg)).alloc (by have := HB3.out.size; simp; omega) (.cells #[.int .i64 n, .int .i64 p] tD)
    have hkp : ∀ i, i < w3.heap.size → ((w3.alloc (.cells #[.slice gA gn gc, .slice fA fn fc, .slice uA un uc] tPg)).alloc (.cells #[.int .i64 n, .int .i64 p] tD)).heap[i]? = w3.heap[i]? := fun i hi => by rw [Below.heap_alloc _ _ _ (by simp; omega), Below.heap_alloc _ _ _ (by omega)]
    clear eD
    generalize (w3.alloc (.cells #[.slice gA gn gc, .slice fA fn fc, .slice uA un uc] tPg)).alloc (.cells #[.int .i64 n, .int .i64 p] tD) = W4 at *
    have a0 : W4.cell? ⟨w3.heap.size, 0, none⟩ = some (.slice gA gn gc) := bA.cell 0
    have a1 : W4.cell? ⟨w3.heap.size, 1, none⟩ = some (.slice fA fn fc) := bA.cell 1
    have a2 : W4.cell? ⟨w3.heap.size, 2, none⟩ = some (.slice uA un uc) := bA.cell 2
    have al := bA.lt
    have d0 : W4.cell? ⟨w3.heap.size + 1, 0, none⟩ = some (.int .i64 n) := bD.cell 0
    have dl := bD.lt
    have c0 : W4.cell? ⟨w.heap.size, 0, none⟩ = some vNil := bR.cell 0
    have c1 : W4.cell? ⟨w.heap.size, 1, none⟩ = some vNil := bR.cell 1
    have c2 : W4.cell? ⟨w.heap.size, 2, none⟩ = some vNil := bR.cell 2
    have f0 := bR.frozen 0
    have f1 := bR.frozen 1
    have f2 := bR.frozen 2
    have rl := bR.lt
    have hne : w.heap.size ≠ w3.heap.size := by have := B3.out.lt; omega
    have hne1 : w.heap.size ≠ w3.heap.size + 1 := by have := B3.out.lt; omega
    have HR4 := Lib.hid (And.intro bR (And.intro hbl hkp))
    clear bA bD bR hbl hkp
    go_region
    go_wp2_with fail
    have r0 : Blk (((W4.setCell ⟨w.heap.size, 0, none⟩ (.slice gA gn gc)).setCell ⟨w.heap.size, 1, none⟩ (.slice fA fn fc)).setCell ⟨w.heap.size, 2, none⟩ (.slice uA un uc)) w.heap.size tPg #[.slice gA gn gc, .slice fA fn fc, .slice uA un uc] := ((HR4.out.1.set_ 0 _).set_ 1 _).set_ 2 _
    have hbl : Below w.heap.size w (((W4.setCell ⟨w.heap.size, 0, none⟩ (.slice gA gn gc)).setCell ⟨w.heap.size, 1, none⟩ (.slice fA fn fc)).setCell ⟨w.heap.size, 2, none⟩ (.slice uA un uc)) := ((HR4.out.2.1.setCell (p := ⟨w.heap.size, 0, none⟩) (by simp) _).setCell (p := ⟨w.heap.size, 1, none⟩) (by simp) _).setCell (p := ⟨w.heap.size, 2, none⟩) (by simp) _
    have hkp : ∀ i, W2.heap.size ≤ i → i < w3.heap.size → (((W4.setCell ⟨w.heap.size, 0, none⟩ (.slice gA gn gc)).setCell ⟨w.heap.size, 1, none⟩ (.slice fA fn fc)).setCell ⟨w.heap.size, 2, none⟩ (.slice uA un uc)).heap[i]? = w3.heap[i]? := fun i h1 h2 => by
      have hlt := B2.out.lt
      have hc : ∀ (W : World) (o : Nat) (x : Value), (W.setCell ⟨w.heap.size, o, none⟩ x).heap[i]? = W.heap[i]? := fun W o x => Below.heap_setCell _ _ _ _ (by simp; omega)
      rw [hc, hc, hc]
      exact HR4.out.2.2 i h2
    have HEN := Lib.hid (And.intro r0 (And.intro hbl (HFN.out ((((W4.setCell ⟨w.heap.size, 0, none⟩ (.slice gA gn gc)).setCell ⟨w.heap.size, 1, none⟩ (.slice fA fn fc)).setCell ⟨w.heap.size, 2, none⟩ (.slice uA un uc)).drew) hkp)))
    clear r0 hbl hkp
    (try simp only [Exit.inBlock, Exit.then])
    refine bodyPost_ret (results_parsed rfl _ _ rfl HEN.out.1) rfl ?_
    refine HPO.out _ _ ?_
    rw [if_neg (by simp)]
    exact ⟨HEN.out.2.1.drew, HEN.out.2.2⟩
  · have hd : (no != 0) = true := by simpa using h0
    have H0 := Lib.hid h0
    clear h0 hlx hbw hbw2 hcm hlc e1
    go_upto_region 3 with (fail)
    generalize w1.alloc (.cells #[.int .i64 no, .int .i64 at_] tD) = W2 at *
    have c0 : W2.cell? ⟨w.heap.size, 0, none⟩ = some vNil := b2.cell 0
    have c1 : W2.cell? ⟨w.heap.size, 1, none⟩ = some vNil := b2.cell 1
    have c2 : W2.cell? ⟨w.heap.size, 2, none⟩ = some vNil := b2.cell 2
    have f0 := b2.frozen 0
    have f1 := b2.frozen 1
    have f2 := b2.frozen 2
    have hsz := b2.lt
    have r0 : Blk (((W2.setCell ⟨w.heap.size, 0, none⟩ vNil).setCell ⟨w.heap.size, 1, none⟩ vNil).setCell ⟨w.heap.size, 2, none⟩ vNil) w.heap.size tPg #[vNil, vNil, vNil] := ((b2.set_ 0 vNil).set_ 1 vNil).set_ 2 vNil
    have hbl : Below w.heap.size w (((W2.setCell ⟨w.heap.size, 0, none⟩ vNil).setCell ⟨w.heap.size, 1, none⟩ vNil).setCell ⟨w.heap.size, 2, none⟩ vNil) := ((HW2.out.setCell (p := ⟨w.heap.size, 0, none⟩) (by simp) _).setCell (p := ⟨w.heap.size, 1, none⟩) (by simp) _).setCell (p := ⟨w.heap.size, 2, none⟩) (by simp) _
    have HF := Lib.hid (And.intro r0 hbl)
    clear b2 d2 r0 hbl
    go_wp2_with fail
    (try simp only [Exit.inBlock, Exit.then])
    refine bodyPost_ret (results_parsed rfl _ _ rfl HF.out.1) rfl ?_
    refine HPO.out _ _ ?_
    rw [if_pos H0.out]
    exact ⟨HF.out.2, rfl⟩
theorem ok_trw : ∀ F : Fo, F.ok → TrW F := by
  intro F
  induction F with
  | nil => intro _; trivial
  | cons h k r ih1 ih2 =>
    intro ⟨hn, hk, hr⟩
    refine ⟨⟨by have := hn.sl; omega, fun h4 => ?_, fun h5 => ?_, fun h15 => ?_⟩, ih1 hk, ih2 hr⟩
    · have := hn.ar
      rw [h4] at this
      simpa [arity] using this
    · have := hn.ar
      rw [h5] at this
      simpa [arity] using this
    · have := hn.ar
      rcases h15 with h | h
      · rw [h] at this
        simp [arity] at this
        omega
      · rw [h] at this
        simp [arity] at this
        omega
theorem flat_kidsl (F : Fo) : ∀ (c : Nat), ∀ n ∈ F.flat c, n.kids.length ≤ F.size := by
  induction F with
  | nil => intro c n h; cases h
  | cons h k r ih1 ih2 =>
    intro c n hn
    simp only [Fo.flat, List.mem_append, List.mem_cons] at hn
    simp only [Fo.size]
    rcases hn with hn | rfl | hn
    · have := ih1 _ n hn; omega
    · have h1 := len_roots k c
      have h2 := len_size k
      simp only
      omega
    · have := ih2 _ n hn; omega
theorem flat_sl (F : Fo) (hF : F.ok) : ∀ (c : Nat), ∀ n ∈ F.flat c, n.h.s.length ≤ 24 := by
  induction F with
  | nil => intro c n h; cases h
  | cons h k r ih1 ih2 =>
    intro c n hn
    simp only [Fo.flat, List.mem_append, List.mem_cons] at hn
    rcases hn with hn | rfl | hn
    · exact ih1 hF.2.1 _ n hn
    · exact hF.1.sl
    · exact ih2 hF.2.2 _ n hn
theorem ckIn_parsed {B : Nat} {w : World} {pg : Pg} {gA fA uA : Option Addr} {gc fc uc : Nat} {fl : List (Fn' × Value)} {ns : List NV} {K : Nat} {s : St} (h : PgM B w pg (.slice gA pg.g.length gc) (.slice fA fl.length fc) (.slice uA ns.length uc) fl ns) (hp : PgOk TkV K pg s) (hK : K ≤ 500000) :
    CkIn pg pg.g fl (ns.map toCN) (ns.map fun x => (x.h.ty, 0)) := by
  have hok : pg.t.ok := hp.bl.ok (fun _ h => h)
  have hc := hp.ln
  have hcn : pg.g.length + pg.f.length + (pg.f.map fun f => f.ps.length).sum ≤ K := by unfold cnt at hc; omega
  have hsz := hp.c
  have hle := hp.le
  refine ⟨rfl, h.fe, by rw [toCN_nd]; exact h.nl, hp.rt, ok_trw _ hok, ?_, by omega, ⟨by omega, fun g hg => ⟨by have := ((hp.gl g hg).nm).sl (fun _ h => h); omega, by have := (hp.gl g hg).n; omega⟩⟩, ⟨by omega, fun f hf => ⟨by have := ((hp.fn f hf).nm).sl (fun _ h => h); omega, ?_, fun p hpp => by have := ((hp.fn f hf).ps p hpp).2.sl (fun _ h => h); omega⟩⟩, ?_⟩
  · intro i x t hx ht _
    rw [List.getElem?_map] at hx ht
    cases hn : ns[i]? with
    | none => rw [hn] at hx; cases hx
    | some y =>
      rw [hn] at hx ht
      simp only [Option.map_some, Option.some.injEq] at hx ht
      subst hx ht
      rfl
  · have hm : ∀ (l : List Fn'), f ∈ l → f.ps.length ≤ (l.map fun f => f.ps.length).sum := by
      intro l
      induction l with
      | nil => intro h; cases h
      | cons y l ih =>
        intro hy
        simp only [List.map_cons, List.sum_cons]
        rcases List.mem_cons.1 hy with rfl | hy
        · omega
        · have := ih hy; omega
    have := hm pg.f hf
    omega
  · intro y hy
    obtain ⟨x, hx, rfl⟩ := List.mem_map.1 hy
    have hm := List.mem_map_of_mem (f := NV.nd) hx
    rw [h.nl] at hm
    have h1 := flat_kidsl _ _ _ hm
    have h2 := flat_sl _ hok _ _ hm
    exact ⟨by have e : x.nd.h.s.length ≤ 24 := h2; simp only [NV.nd] at e; simp only [toCN]; omega, by simp only [NV.nd] at h1; simp only [toCN]; omega⟩
end Go.Proofs.YtgbofbbdefkbpaaGreatDoor
/-! Cmc -/
namespace Go.Proofs.YtgbofbbdefkbpaaGreatDoor
open Go Go.RowKit Go.Maps
set_option linter.unusedVariables false
set_option linter.unusedSimpArgs false

/-- At all places but i the same. -/
def But (i : Nat) (a b : List (Int × Int)) : Prop := b.length = a.length ∧ ∀ j, j ≠ i → b[j]? = a[j]?
theorem But.refl (i : Nat) (a : List (Int × Int)) : But i a a := ⟨rfl, fun _ _ => rfl⟩
theorem But.set (i : Nat) (a b : List (Int × Int)) (h : But i a b) (x : Int × Int) : But i a (b.set i x) := ⟨by rw [List.length_set]; exact h.1, fun j hj => by rw [List.getElem?_set_ne (fun e => hj e.symm)]; exact h.2 j hj⟩
theorem but_ty {i : Nat} {σ τ : Cs} (h : But i σ.tr τ.tr) (t : Int) : But i σ.tr (setTy τ i t).tr := h.set i _ _ _
theorem but_rf {i : Nat} {σ τ : Cs} (h : But i σ.tr τ.tr) (t : Int) : But i σ.tr (setRf τ i t).tr := h.set i _ _ _
theorem rule_tr {K : Kn} {h : Hd} {ks : List Nat} {i : Nat} {σ τ : Cs} (e : ruleM K h ks i σ = .ok τ) : But i σ.tr τ.tr := by
  unfold ruleM at e
  split at e
  · unfold exprM at e
    split at e
    · obtain ⟨m, -, e⟩ := bind_ok_iff e; cases e; exact but_ty (but_rf (But.refl _ _) _) _
    split at e
    · obtain ⟨m, -, e⟩ := bind_ok_iff e; obtain ⟨_, -, e⟩ := bind_ok_iff e; cases e; exact but_ty (but_rf (But.refl _ _) _) _
    split at e
    · obtain ⟨m, -, e⟩ := bind_ok_iff e; cases e; exact but_ty (But.refl _ _) _
    split at e
    · obtain ⟨m, -, e⟩ := bind_ok_iff e; cases e; exact but_ty (But.refl _ _) _
    split at e
    · obtain ⟨m, -, e⟩ := bind_ok_iff e; cases e; exact but_ty (But.refl _ _) _
    split at e
    · obtain ⟨m, -, e⟩ := bind_ok_iff e; obtain ⟨_, -, e⟩ := bind_ok_iff e; obtain ⟨_, -, e⟩ := bind_ok_iff e; cases e; exact but_ty (but_rf (But.refl _ _) _) _
    split at e
    · cases e; exact but_ty (But.refl _ _) _
    · cases e; exact But.refl _ _
  · unfold stmtM at e
    split at e
    · obtain ⟨_, -, e⟩ := bind_ok_iff e
      obtain ⟨_, -, e⟩ := bind_ok_iff e
      obtain ⟨_, -, e⟩ := bind_ok_iff e
      cases e
      exact but_rf (But.refl _ _) _
    split at e
    · obtain ⟨m, -, e⟩ := bind_ok_iff e; obtain ⟨_, -, e⟩ := bind_ok_iff e; cases e; exact but_rf (But.refl _ _) _
    split at e
    · obtain ⟨m, -, e⟩ := bind_ok_iff e; obtain ⟨_, -, e⟩ := bind_ok_iff e; cases e; exact but_rf (But.refl _ _) _
    split at e
    · obtain ⟨m, -, e⟩ := bind_ok_iff e; cases e; exact But.refl _ _
    split at e
    · obtain ⟨m, -, e⟩ := bind_ok_iff e; cases e; exact But.refl _ _
    split at e
    · obtain ⟨m, -, e⟩ := bind_ok_iff e; obtain ⟨_, -, e⟩ := bind_ok_iff e; cases e; exact But.refl _ _
    split at e
    · obtain ⟨m, -, e⟩ := bind_ok_iff e; cases e; exact But.refl _ _
    · cases e; exact But.refl _ _
theorem rule_num {K : Kn} {h : Hd} {ks : List Nat} {i : Nat} {σ τ : Cs} (ho : h.op = 1) (e : ruleM K h ks i σ = .ok τ) : τ.tr = σ.tr := by
  simp [ruleM, exprM, ho] at e
  rw [e]
/-- What a visit of trees from c on keeps: places outside, and numbers. -/
structure Kept (F : Fo) (c : Nat) (a b : List (Int × Int)) : Prop where
  ln : b.length = a.length
  out : ∀ j, j < c ∨ c + F.size ≤ j → b[j]? = a[j]?
  num : ∀ j n, (F.flat c)[j]? = some n → n.h.op = 1 → b[c + j]? = a[c + j]?
theorem vis_kept (K : Kn) (F : Fo) : ∀ (c : Nat) (σ τ : Cs), visM K F c σ = .ok τ → Kept F c σ.tr τ.tr := by
  induction F with
  | nil => intro c σ τ e; simp only [visM] at e; cases e; exact ⟨rfl, fun _ _ => rfl, fun j n hn => by simp [Fo.flat] at hn⟩
  | cons h k r ih1 ih2 =>
    intro c σ τ e
    simp only [visM] at e
    obtain ⟨ρ, e1, e⟩ := bind_ok_iff e
    have hr := ih2 _ _ _ e
    have hk : (∃ κ : Cs, Kept k c σ.tr κ.tr ∧ But (c + k.size) κ.tr ρ.tr ∧ (h.op = 1 → ρ.tr = κ.tr)) := by
      split at e1
      · obtain ⟨κ, e3, e2⟩ := bind_ok_iff e1
        cases e2
        have hk1 := ih1 _ _ _ e3
        exact ⟨κ, hk1, But.refl _ _, fun _ => rfl⟩
      · obtain ⟨κ, e3, e2⟩ := bind_ok_iff e1
        exact ⟨κ, ih1 _ _ _ e3, rule_tr e2, fun ho => rule_num ho e2⟩
    obtain ⟨κ, h1, h2, h3⟩ := hk
    have hfl := Fo.flat_length k c
    refine ⟨by rw [hr.ln, h2.1, h1.ln], ?_, ?_⟩
    · intro j hj
      simp only [Fo.size] at hj
      rw [hr.out j (by omega), h2.2 j (by omega), h1.out j (by omega)]
    · intro j n hn ho
      simp only [Fo.flat] at hn
      by_cases hj : j < k.size
      · rw [List.getElem?_append_left (by omega)] at hn
        rw [hr.out _ (by omega), h2.2 _ (by omega)]
        exact h1.num j n hn ho
      · rw [List.getElem?_append_right (by omega), hfl] at hn
        by_cases hj2 : j = k.size
        · subst hj2
          rw [Nat.sub_self, List.getElem?_cons_zero] at hn
          obtain rfl : (⟨h, k.roots c⟩ : Nd) = n := Option.some.inj hn
          rw [hr.out _ (by omega), h3 ho]
          exact h1.out _ (by omega)
        · obtain ⟨m, rfl⟩ : ∃ m, j = k.size + 1 + m := ⟨j - (k.size + 1), by omega⟩
          rw [show k.size + 1 + m - k.size = m + 1 by omega, List.getElem?_cons_succ] at hn
          have e9 := hr.num m n hn ho
          rw [show c + k.size + 1 + m = c + (k.size + 1 + m) by omega] at e9
          rw [e9, h2.2 _ (by omega), h1.out _ (by omega)]
theorem bods_kept (np : List Nat) (G : Scp) : ∀ (fs : List Fn') (F : Fo) (c : Nat) (a b : List (Int × Int)) (vs : List (List Int)), bodsM np G fs F c a = .ok (b, vs) → (∀ n ∈ F.flat c, True) → Kept F c a b := by
  intro fs
  induction fs with
  | nil => intro F c a b vs e _; simp only [bodsM] at e; cases e; exact ⟨rfl, fun _ _ => rfl, fun _ _ _ _ => rfl⟩
  | cons f l ih =>
    intro F c a b vs e _
    cases F with
    | nil => simp only [bodsM] at e; cases e; exact ⟨rfl, fun _ _ => rfl, fun _ _ _ _ => rfl⟩
    | cons h k r =>
      rw [bods_step] at e
      obtain ⟨x, e1, e⟩ := bind_ok_iff e
      obtain ⟨y, e2, e⟩ := bind_ok_iff e
      cases e
      unfold bodyM at e1
      obtain ⟨lb, -, e1⟩ := bind_ok_iff e1
      obtain ⟨τ, e3, e1⟩ := bind_ok_iff e1
      cases e1
      have h1 := vis_kept _ _ _ _ _ e3
      have hr := ih r _ _ _ _ (show bodsM np G l r (c + k.size + 1) τ.tr = .ok (y.1, y.2) from e2) (fun _ _ => trivial)
      have hfl := Fo.flat_length k c
      refine ⟨by rw [hr.ln]; exact h1.ln, ?_, ?_⟩
      · intro j hj
        simp only [Fo.size] at hj
        rw [hr.out j (by omega), h1.out j (by omega)]
      · intro j n hn ho
        simp only [Fo.flat] at hn
        by_cases hj : j < k.size
        · rw [List.getElem?_append_left (by omega)] at hn
          rw [hr.out _ (by omega)]
          exact h1.num j n hn ho
        · rw [List.getElem?_append_right (by omega), hfl] at hn
          by_cases hj2 : j = k.size
          · subst hj2
            rw [hr.out _ (by omega)]
            exact h1.out _ (by omega)
          · obtain ⟨m, rfl⟩ : ∃ m, j = k.size + 1 + m := ⟨j - (k.size + 1), by omega⟩
            rw [show k.size + 1 + m - k.size = m + 1 by omega, List.getElem?_cons_succ] at hn
            have e9 := hr.num m n hn ho
            rw [show c + k.size + 1 + m = c + (k.size + 1 + m) by omega] at e9
            rw [e9]
            exact h1.out _ (by omega)
theorem check_un {pg : Pg} {tr : List (Int × Int)} {vs : List (List Int)} (h : checkM pg = .ok (tr, vs)) : ∃ s G, globM pg.g 0 0 [] = .ok s ∧ funM pg.f 0 s = .ok G ∧ bodsM (pg.f.map fun f => f.ps.length) G pg.f pg.t 0 (tr0 (pg.t.flat 0)) = .ok (tr, vs) ∧ mainM G pg.f = .ok () := by
  unfold checkM at h
  obtain ⟨s, h1, h⟩ := bind_ok_iff h
  obtain ⟨G, h2, h⟩ := bind_ok_iff h
  obtain ⟨y, h3, h⟩ := bind_ok_iff h
  obtain ⟨u, h4, h⟩ := bind_ok_iff h
  cases h
  exact ⟨s, G, h1, h2, h3, h4⟩
/-- A number's Type, checked. -/
theorem check_num {pg : Pg} {tr : List (Int × Int)} {vs : List (List Int)} (h : checkM pg = .ok (tr, vs)) (i : Nat) (n : Nd) (hn : (pg.t.flat 0)[i]? = some n) (ho : n.h.op = 1) : tr[i]? = some (n.h.ty, 0) := by
  obtain ⟨s, G, -, -, h3, -⟩ := check_un h
  have hk := bods_kept _ _ _ _ _ _ _ _ h3 (fun _ _ => trivial)
  have e := hk.num i n hn ho
  rw [Nat.zero_add] at e
  rw [e]
  unfold tr0
  rw [List.getElem?_map, hn]
  simp [ho]
/-- What was checked may be checked again. -/
theorem ckIn_again {B : Nat} {w : World} {gA fA nA : Option Addr} {gc fc nc : Nat} {pg : Pg} {gs0 : List Gl} {fl fl0 : List (Fn' × Value)} {vls : List Value} {ns ns0 : List CN} {tr tr1 : List (Int × Int)} {vs : List (List Int)} (h0 : CkIn pg gs0 fl0 ns0 tr1) (h : PgC B w gA fA nA gc fc nc pg fl vls ns tr vs) (hc : checkM pg = .ok (tr, vs)) : CkIn pg pg.g fl ns tr := by
  refine ⟨rfl, h.fe, h.ne, h0.rt, h0.tw, ?_, h0.sz, by rw [← h0.g]; exact h0.gl, h0.fn, ?_⟩
  · intro i x t hx ht ho
    have hn : (pg.t.flat 0)[i]? = some x.nd := by rw [← h.ne, List.getElem?_map, hx]; rfl
    have e := check_num hc i x.nd hn ho
    rw [ht] at e
    cases e
    rfl
  · intro x hx
    have hm := List.mem_map_of_mem (f := CN.nd) hx
    rw [h.ne, ← h0.n] at hm
    obtain ⟨y, hy, hyx⟩ := List.mem_map.1 hm
    have h9 := h0.nn y hy
    have e1 := congrArg Nd.h hyx
    have e2 := congrArg Nd.kids hyx
    simp only [CN.nd] at e1 e2
    rw [e1, e2] at h9
    exact h9
end Go.Proofs.YtgbofbbdefkbpaaGreatDoor
