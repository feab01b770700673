/-
  Layer dom: walk of slices.Repeat of one number: the world behind it, written out.
-/
import Derived.Test.YtjmlpbnejcfnhaaDme
import Derived.Deep.WholeRow
namespace Go.Proofs.Ytjmlpbnejcfnhaa
open Go Go.RowKit Go.Maps
set_option linter.unusedVariables false
set_option linter.unusedSimpArgs false

/-- A row of N numbers, m of which are x, the others 0. -/
def repC (x : Int) (N m : Nat) : List Int := List.replicate m x ++ List.replicate (N - m) 0
theorem repC_len (x : Int) {N m : Nat} (h : m ≤ N) : (repC x N m).length = N := by simp [repC]; omega
theorem repC_full (x : Int) (N : Nat) : repC x N N = List.replicate N x := by simp [repC]
theorem repC_0 (x : Int) (N : Nat) : repC x N 0 = List.replicate N 0 := by simp [repC]
abbrev repW (W : World) (x : Int) (N m d : Nat) : World := (W.alloc (.cells (intC (repC x N m)) tI1)).drewN d
set_option maxRecDepth 10000 in
theorem copy_rep {W : World} {N m k d : Nat} {x : Int} {a : Addr} (hm : m ≤ N) (hk : m + k ≤ N) (sLen sCap dLen dCap : Nat) (hmin : k = Nat.min sLen dLen)
    (hsrc : ∀ j, j < k → (repW W x N m d).cell? (a.add j) = some (.int .i64 x)) :
    (Builtin.copy_ #[31, 31] 3 #[.slice (some ⟨W.heap.size, m, none⟩) dLen dCap, .slice (some a) sLen sCap]).run Try.prog (repW W x N m d) = .ok (.int .i64 k) (repW W x N (m + k) d) := by
  have hb' : (repW W x N m d).heap[W.heap.size]? = some (.cells (intC (repC x N m)) tI1 (0, 0)) := World.alloc_heap_new W _
  have hl := repC_len x hm
  have hr := run_copy_row (P := Try.prog) (repW W x N m d) 31 31 3 tI1 W.heap.size m dLen dCap a sLen sCap _ tI1 (List.replicate k (.int .i64 x)) Try.underlying31 intSize hb' (by simpa using hmin) (fun j u hj => by
    rw [List.getElem?_replicate] at hj
    split at hj
    · obtain rfl := Option.some.inj hj
      exact hsrc j (by assumption)
    · cases hj) (by simp [intC, hl]; omega) (fun u hu => by rw [List.eq_of_mem_replicate hu]; rfl)
  rw [List.length_replicate] at hr
  rw [hr]
  have e0 : ((intC (repC x N m)).toList.take m ++ List.replicate k (Value.int .i64 x) ++ (intC (repC x N m)).toList.drop (m + k)).toArray = intC (repC x N (m + k)) := by
    unfold intC
    congr 1
    have e : (repC x N m).map (Value.int .i64) = List.replicate m (.int .i64 x) ++ List.replicate (N - m) (.int .i64 0) := by simp [repC]
    have e2 : (repC x N (m + k)).map (Value.int .i64) = List.replicate m (.int .i64 x) ++ (List.replicate k (.int .i64 x) ++ List.replicate (N - (m + k)) (.int .i64 0)) := by
      rw [← List.append_assoc (List.replicate m _), List.replicate_append_replicate]
      simp [repC]
    rw [e, e2, List.take_left' (by simp), List.drop_append, List.length_replicate, List.drop_eq_nil_of_le (by simp), List.nil_append, show m + k - m = k by omega, List.drop_replicate, List.append_assoc, show N - m - k = N - (m + k) by omega]
  rw [e0]
  show Result.ok _ (((W.alloc (.cells (intC (repC x N m)) tI1)).setRow W.heap.size (intC (repC x N (m + k)))).drewN d) = _
  rw [World.setRow_alloc_new]
  rfl
set_option maxHeartbeats 4000000 in
set_option maxRecDepth 100000 in
theorem irepeat_any (x : Int) (N : Nat) (h0 : 0 < N) (hN : N ≤ 1000) {w : World} {g o c : Nat} (hg : g < w.heap.size) (hx : w.cell? ⟨g, o, none⟩ = some (.int .i64 x)) :
    Calls Try.prog 46 #[.slice (some ⟨g, o, none⟩) 1 c, .int .i64 N] w fun e w' => e = .returned (.slice (some ⟨w.heap.size, 0, none⟩) N N) ∧ ∃ d, w' = repW w x N N d := by
  have HM : Hid (∀ W, Calls Try.prog 66 #[.int .u64 1, .int .u64 N] W fun e w' => e = .returned (.tuple #[.int .u64 0, .int .u64 N]) ∧ w' = W) := Lib.hid fun W => by
    refine (Try.bits_Mul 1 N (by omega) (by omega) W).mono ?_
    rintro e w' ⟨rfl, rfl⟩
    refine ⟨?_, rfl⟩
    rw [Nat.one_mul, Nat.div_eq_of_lt (by omega), Nat.mod_eq_of_lt (by omega)]
    rfl
  have hmk := fun W => make_all N hN W
  have HXC := Lib.hid (And.intro hg hx)
  clear hg hx
  go_enter Try.func46, Try.ntmps46
  go_wp2_with fail
  refine (HM.out _).mono ?_
  rintro e w1 ⟨rfl, rfl⟩
  have hrun1 : (Builtin.copy_ #[31, 31] 3 #[.slice (some ⟨w1.heap.size, 0, none⟩) N N, .slice (some ⟨g, o, none⟩) 1 c]).run Try.prog (w1.alloc (.cells (intC (List.replicate N 0)) tI1)) = .ok (.int .i64 1) (w1.alloc (.cells (intC (repC x N 1)) tI1)) := by
    have h := copy_rep (W := w1) (N := N) (m := 0) (k := 1) (d := 0) (x := x) (a := ⟨g, o, none⟩) (by omega) (by omega) 1 c N N (by simp [Nat.min_def]; omega) (fun j hj => by
      obtain rfl : j = 0 := by omega
      exact (((Below.refl w1.heap.size w1).alloc (Nat.le_refl _) _).cell (p := ⟨g, o, none⟩) HXC.out.1).trans HXC.out.2)
    unfold repW at h
    rw [repC_0] at h
    exact h
  go_wp2_with fail
  go_loopw [8] (fun v wr => ∃ m d : Nat, 1 ≤ m ∧ m ≤ N ∧ v = .int .i64 m ∧ wr = repW w1 x N m d) (fun v _ => N - (intOf v).toNat)
  case atStart => exact ⟨1, 0, by omega, by omega, rfl, rfl⟩
  case round =>
    obtain ⟨m, d, h1, hm, rfl, hwr⟩ := hrel
    clear hrun1
    by_cases hlt : m < N
    · obtain ⟨k, hk⟩ : ∃ k, k = Nat.min m (N - m) := ⟨_, rfl⟩
      have hkb : m + k ≤ N ∧ 1 ≤ k ∧ k ≤ m := by rw [hk]; simp only [Nat.min_def]; split <;> omega
      have hrun3 : (Builtin.copy_ #[31, 31] 3 #[.slice (some ⟨w1.heap.size, m, none⟩) (N - m) (N - m), .slice (some ⟨w1.heap.size, 0, none⟩) m N]).run Try.prog wr.drew = .ok (.int .i64 k) (repW w1 x N (m + k) (d + 1)) := by
        have h := copy_rep (W := w1) (N := N) (m := m) (k := k) (d := d + 1) (x := x) (a := ⟨w1.heap.size, 0, none⟩) hm hkb.1 m N (N - m) (N - m) hk (fun j hj => by
          rw [Addr.add_lit, Nat.zero_add]
          have hb : Blk (repW w1 x N m (d + 1)) w1.heap.size tI1 (intC (repC x N m)) := Blk.new w1 tI1 _
          rw [hb.cell]
          show (intC (repC x N m))[j]? = _
          unfold intC repC
          rw [List.getElem?_toArray, List.getElem?_map, List.getElem?_append_left (by simp; omega), List.getElem?_replicate, if_pos (by omega)]
          rfl)
        rw [hwr]
        exact h
      obtain ⟨w3, hw3⟩ : ∃ w3, repW w1 x N (m + k) (d + 1) = w3 := ⟨_, rfl⟩
      rw [hw3] at hrun3
      have HR3 := Lib.hid (And.intro hw3 hkb)
      clear hw3 hwr
      go_wp2_with fail
      go_region
      all_goals
        go_wp2_with fail
        go_roundw
        case rel => exact ⟨m + k, d + 1, by have := HR3.out.2; omega, by have := HR3.out.2; omega, by go_num, HR3.out.1.symm⟩
        case measure => simp [intOf]; have := HR3.out.2; omega
    · obtain rfl : m = N := by omega
      have HW := Lib.hid hwr
      clear hwr
      go_wp2_with fail
      go_ret
      exact ⟨rfl, d, HW.out⟩
end Go.Proofs.Ytjmlpbnejcfnhaa
