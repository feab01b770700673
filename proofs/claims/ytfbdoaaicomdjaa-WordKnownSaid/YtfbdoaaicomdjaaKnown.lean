/-
  WordKnown: closed: the law's walk: its loops call the other laws.
-/
import Derived.Test.YtfbdoaaicomdjaaBins
import Derived.Test.YtfbdoaaicomdjaaOrder
import Derived.Test.YtfbdoaaicomdjaaRing1
import Derived.Test.YtfbdoaaicomdjaaDiv
import Derived.Test.YtfbdoaaicomdjaaWraps
import Derived.Test.YtfbdoaaicomdjaaBits
import Derived.Deep.RegionHeld3
namespace Go.Proofs.Ytfbdoaaicomdjaa
open Go.RowKit Go.WideMaps Go.Maps
set_option linter.unusedVariables false
set_option linter.unusedSimpArgs false

/-- What the law's loops read: 32 numbers and 19 texts. -/
def Lists (W : World) (b g : Nat) : Prop :=
  b < W.heap.size ∧ g < W.heap.size ∧ (∀ j, j < 32 → ∃ x, W.cell? ⟨b, j, none⟩ = some (.int .i64 x) ∧ (Lit.int .i64 x).wf = true) ∧ (∀ j, j < 19 → ∃ s, W.cell? ⟨g, j, none⟩ = some (.string s) ∧ s.size ≤ maxLen)

def isNum (v : Value) : Bool := match v with | .int .i64 x => (Lit.int .i64 x).wf | _ => false
def isStr (v : Value) : Bool := match v with | .string s => decide (s.size ≤ maxLen) | _ => false
theorem isNum_inv {v : Value} (h : isNum v = true) : ∃ x, v = .int .i64 x ∧ (Lit.int .i64 x).wf = true := by
  unfold isNum at h
  split at h
  · exact ⟨_, rfl, h⟩
  · simp at h
theorem isStr_inv {v : Value} (h : isStr v = true) : ∃ s, v = .string s ∧ s.size ≤ maxLen := by
  unfold isStr at h
  split at h
  · exact ⟨_, rfl, by simpa using h⟩
  · simp at h
theorem cell_new (w : World) (A : Array Value) (t : TypeId) (j : Nat) : (w.alloc (.cells A t)).cell? ⟨w.heap.size, j, none⟩ = A[j]? :=
  cell_of_row _ _ _ _ _ _ (MapKept.heap_alloc w _).1
theorem nums_at (w W' : World) (A : Array Value) (t : TypeId) (hb : Below (w.alloc (.cells A t)).heap.size (w.alloc (.cells A t)) W') (hall : A.toList.all isNum = true) (hn : A.size = 32) :
    ∀ j, j < 32 → ∃ x, W'.cell? ⟨w.heap.size, j, none⟩ = some (.int .i64 x) ∧ (Lit.int .i64 x).wf = true := by
  intro j hj
  have e := (hb.cell (p := ⟨w.heap.size, j, none⟩) (by simp)).trans (cell_new w A t j)
  rw [Array.getElem?_eq_getElem (by omega)] at e
  obtain ⟨x, hx, hw⟩ := isNum_inv (List.all_eq_true.1 hall A[j] (by simp))
  exact ⟨x, by rw [e, hx], hw⟩
theorem strs_at (w W' : World) (g : Nat) (X Y Z : Array Value) (t : TypeId) (hb : Below (w.alloc (.cells (X ++ (Y ++ Z)) t)).heap.size (w.alloc (.cells (X ++ (Y ++ Z)) t)) W') (hg : w.heap.size = g) (hall : (X.toList ++ Y.toList).all isStr = true) (hn : (X.toList ++ Y.toList).length = 19) :
    ∀ j, j < 19 → ∃ s, W'.cell? ⟨g, j, none⟩ = some (.string s) ∧ s.size ≤ maxLen := by
  intro j hj
  subst hg
  have e := (hb.cell (p := ⟨w.heap.size, j, none⟩) (by simp)).trans (cell_new w (X ++ (Y ++ Z)) t j)
  rw [← Array.getElem?_toList, Array.toList_append, Array.toList_append, ← List.append_assoc, List.getElem?_append_left (by omega), List.getElem?_eq_getElem (by omega)] at e
  obtain ⟨x, hx, hw⟩ := isStr_inv (List.all_eq_true.1 hall _ (List.getElem_mem (by omega : j < (X.toList ++ Y.toList).length)))
  exact ⟨x, by rw [e, hx], hw⟩
theorem infoS : (Try.prog.info? 9).map (fun i => (i.zero, i.size, i.bytes)) = some (some (.string ByteArray.empty), 1, 16) := by kernel_rfl

theorem absW {P : Program} {c : Code} {Q : Exit → Act → World → Prop} {a : Act} {w0 : World} (R : World → Prop) (h : R w0) (k : ∀ W, R W → c.wp P Q a W) : c.wp P Q a w0 := k w0 h

/-- What a loop reads, a world later. -/
theorem Lists.num {W W' : World} {b g : Nat} (h : Lists W b g) (k : Below W.heap.size W W') (j : Nat) (hj : j < 32) : ∃ x, W'.cell? ⟨b, j, none⟩ = some (.int .i64 x) ∧ (Lit.int .i64 x).wf = true := by
  obtain ⟨x, hx, hw⟩ := h.2.2.1 j hj
  exact ⟨x, (k.cell (p := ⟨b, j, none⟩) h.1).trans hx, hw⟩
theorem Lists.str {W W' : World} {b g : Nat} (h : Lists W b g) (k : Below W.heap.size W W') (j : Nat) (hj : j < 19) : ∃ s, W'.cell? ⟨g, j, none⟩ = some (.string s) ∧ s.size ≤ maxLen := by
  obtain ⟨x, hx, hw⟩ := h.2.2.2 j hj
  exact ⟨x, (k.cell (p := ⟨g, j, none⟩) h.2.1).trans hx, hw⟩
theorem Lists.three {W wo : World} {b g : Nat} (h : Lists W b g) (k0 : Below W.heap.size W wo) (i k o : Nat) (hi : i < 32) (hk : k < 32) (ho : o < 19) {x y : Int} {s : ByteArray}
    (hx : wo.cell? ⟨b, i, none⟩ = some (.int .i64 x)) (hy : wo.cell? ⟨b, k, none⟩ = some (.int .i64 y)) (hs : wo.cell? ⟨g, o, none⟩ = some (.string s)) :
    ∀ w', Below W.heap.size W w' → Below W.heap.size W w' ∧ w'.cell? ⟨b, i, none⟩ = some (.int .i64 x) ∧ w'.cell? ⟨b, k, none⟩ = some (.int .i64 y) ∧ w'.cell? ⟨g, o, none⟩ = some (.string s) :=
  fun w' q => ⟨q, ((q.cell (p := ⟨b, i, none⟩) h.1).trans (k0.cell (p := ⟨b, i, none⟩) h.1).symm).trans hx, ((q.cell (p := ⟨b, k, none⟩) h.1).trans (k0.cell (p := ⟨b, k, none⟩) h.1).symm).trans hy, ((q.cell (p := ⟨g, o, none⟩) h.2.1).trans (k0.cell (p := ⟨g, o, none⟩) h.2.1).symm).trans hs⟩
theorem Lists.two {W wo : World} {b g : Nat} (h : Lists W b g) (k0 : Below W.heap.size W wo) (i k : Nat) {x y : Int}
    (hx : wo.cell? ⟨b, i, none⟩ = some (.int .i64 x)) (hy : wo.cell? ⟨b, k, none⟩ = some (.int .i64 y)) :
    ∀ w', Below W.heap.size W w' → Below W.heap.size W w' ∧ w'.cell? ⟨b, i, none⟩ = some (.int .i64 x) ∧ w'.cell? ⟨b, k, none⟩ = some (.int .i64 y) :=
  fun w' q => ⟨q, ((q.cell (p := ⟨b, i, none⟩) h.1).trans (k0.cell (p := ⟨b, i, none⟩) h.1).symm).trans hx, ((q.cell (p := ⟨b, k, none⟩) h.1).trans (k0.cell (p := ⟨b, k, none⟩) h.1).symm).trans hy⟩
/-! The other laws, handing a world on. -/
theorem kbins (w0 w : World) (hk : Below w0.heap.size w0 w) (t : Int) (s : ByteArray) (a b : Int) (ht : (Lit.int .i64 t).wf = true) (hs : s.size ≤ maxLen) (ha : (Lit.int .i64 a).wf = true) (hb : (Lit.int .i64 b).wf = true) :
    Calls Try.prog 3 #[.int .i64 t, .string s, .int .i64 a, .int .i64 b] w fun e w' => e = .returned (.bool true) ∧ Below w0.heap.size w0 w' :=
  (bins_walk t s a b w ht hs ha hb).mono fun _ _ h => ⟨h.1, keep hk h.2⟩
theorem kwraps (w0 w : World) (hk : Below w0.heap.size w0 w) (t v n : Int) (s : ByteArray) (a : Int) (ht : (Lit.int .i64 t).wf = true) (hv : (Lit.int .i64 v).wf = true) (hn : (Lit.int .i64 n).wf = true) (hs : s.size ≤ maxLen) (ha : (Lit.int .i64 a).wf = true) :
    Calls Try.prog 4 #[.int .i64 t, .int .i64 v, .int .i64 n, .string s, .int .i64 a] w fun e w' => e = .returned (.bool true) ∧ Below w0.heap.size w0 w' :=
  (wraps_walk t v n s a w ht hv hn hs ha).mono fun _ _ h => ⟨h.1, keep hk h.2⟩
theorem kdivs (w0 w : World) (hk : Below w0.heap.size w0 w) (l : Bool) (a b : Int) (ha : (Lit.int .i64 a).wf = true) (hb : (Lit.int .i64 b).wf = true) :
    Calls Try.prog 6 #[.bool l, .int .i64 a, .int .i64 b] w fun e w' => e = .returned (.bool true) ∧ Below w0.heap.size w0 w' :=
  (div_walk l a b w ha hb).mono fun _ _ h => ⟨h.1, keep hk h.2⟩
theorem korder (w0 w : World) (hk : Below w0.heap.size w0 w) (l : Bool) (a b : Int) (ha : (Lit.int .i64 a).wf = true) (hb : (Lit.int .i64 b).wf = true) :
    Calls Try.prog 8 #[.bool l, .int .i64 a, .int .i64 b] w fun e w' => e = .returned (.bool true) ∧ Below w0.heap.size w0 w' :=
  (order_walk l a b w ha hb).mono fun _ _ h => ⟨h.1, keep hk h.2⟩
theorem kring (w0 w : World) (hk : Below w0.heap.size w0 w) (l : Bool) (a b c : Int) (ha : (Lit.int .i64 a).wf = true) (hb : (Lit.int .i64 b).wf = true) (hc : (Lit.int .i64 c).wf = true) :
    Calls Try.prog 5 #[.bool l, .int .i64 a, .int .i64 b, .int .i64 c] w fun e w' => e = .returned (.bool true) ∧ Below w0.heap.size w0 w' :=
  (ring_walk l a b c w ha hb hc).mono fun _ _ h => ⟨h.1, keep hk h.2⟩
theorem kbits (w0 w : World) (hk : Below w0.heap.size w0 w) (l : Bool) (a b : Int) (ha : (Lit.int .i64 a).wf = true) (hb : (Lit.int .i64 b).wf = true) :
    Calls Try.prog 7 #[.bool l, .int .i64 a, .int .i64 b] w fun e w' => e = .returned (.bool true) ∧ Below w0.heap.size w0 w' :=
  (bits_walk l a b w ha hb).mono fun _ _ h => ⟨h.1, keep hk h.2⟩

set_option maxRecDepth 100000 in
set_option maxHeartbeats 10000000 in
theorem known_walk (w : World) :
    Calls Try.prog 9 #[] w fun e w' => e = .returned (.bool true) ∧ Below w.heap.size w w' := by
  go_enter Try.func9, Try.ntmps9
  go_wp2_with (first | go_in)
  refine absW (fun W => Lists W w.heap.size (w.heap.size + 1 + 1 + 1) ∧ Below w.heap.size w W) ⟨⟨?_, ?_, ?_, ?_⟩, ?_⟩ ?_
  · simp; omega
  · simp
  · exact nums_at w _ _ _ (((((Below.refl _ _).alloc (Nat.le_refl _) _).alloc (by simp) _).alloc (by first | (simp; done) | (simp; omega)) _).drew) (by kernel_rfl) (by rfl)
  · intro j hj
    refine strs_at (((w.alloc ?o1).alloc ?o2).alloc ?o3) _ _ ?X ?Y ?Z ?t ?hb ?hg ?ha ?hn j hj
    case hb => exact (Below.refl _ _).drew
    case hg => simp
    case ha => kernel_rfl
    case hn => rfl
  · exact (((((Below.refl _ _).alloc (Nat.le_refl _) _).alloc (by simp) _).alloc (by simp; omega) _).alloc (by simp; omega) _).drew
  intro W1 hW1
  obtain ⟨hL, hB1⟩ := hW1
  have HL := Lib.hid hL
  clear hL
  obtain ⟨b, hb⟩ : ∃ b, w.heap.size = b := ⟨_, rfl⟩
  obtain ⟨g, hg⟩ : ∃ g, w.heap.size + 1 + 1 + 1 = g := ⟨_, rfl⟩
  rw [hg, hb] at HL
  rw [hg, hb]
  clear hb hg
  generalize (Question.appendCap 19 16 9).cut (w.tape w.drawn (Question.appendCap 19 16 9)) = cap
  have HB1 := Lib.hid hB1
  clear hB1
  go_loopw [3] (fun i wr => ∃ k : Nat, k ≤ 32 ∧ i = .int .i64 k ∧ Below W1.heap.size W1 wr) (fun i _ => 32 - (intOf i).toNat)
  case atStart => exact ⟨0, by omega, rfl, Below.refl _ _⟩
  case round =>
    obtain ⟨i, hi, rfl, hbi⟩ := hrel
    obtain ⟨wi, rfl⟩ : ∃ wi : World, wi = wr := ⟨_, rfl⟩
    by_cases hlt : i < 32
    · have hltI : (i : Int) < 32 := by omega
      go_wp2_with fail
      go_loopw [4] (fun i wr => ∃ k : Nat, k ≤ 32 ∧ i = .int .i64 k ∧ Below W1.heap.size W1 wr) (fun i _ => 32 - (intOf i).toNat)
      case atStart => exact ⟨0, by omega, rfl, hbi⟩
      case round =>
        obtain ⟨k, hk, rfl, hbk⟩ := hrel
        clear hbi
        obtain ⟨wk, rfl⟩ : ∃ wk : World, wk = wr := ⟨_, rfl⟩
        by_cases hkl : k < 32
        · have hklI : (k : Int) < 32 := by omega
          go_wp2_with fail
          go_loopw [5] (fun i wr => ∃ t : Int, -1 ≤ t ∧ t ≤ 5 ∧ i = .int .i64 t ∧ Below W1.heap.size W1 wr) (fun i _ => (5 - intOf i).toNat)
          case atStart => exact ⟨-1, by omega, by omega, rfl, hbk⟩
          case round =>
            obtain ⟨t, ht1, ht2, rfl, hbt⟩ := hrel
            clear hbk
            obtain ⟨wt, rfl⟩ : ∃ wt : World, wt = wr := ⟨_, rfl⟩
            by_cases htl : t < 5
            · go_wp2_with fail
              go_loopw [6] (fun i wr => ∃ k : Nat, k ≤ 19 ∧ i = .int .i64 k ∧ Below W1.heap.size W1 wr) (fun i _ => 19 - (intOf i).toNat)
              case atStart => exact ⟨0, by omega, rfl, hbt⟩
              case round =>
                obtain ⟨o, ho, rfl, hbo⟩ := hrel
                clear hbt
                obtain ⟨wo, rfl⟩ : ∃ wo : World, wo = wr := ⟨_, rfl⟩
                by_cases hol : o < 19
                · have holI : (o : Int) < 19 := by omega
                  obtain ⟨x, hx, hxw⟩ := HL.out.num hbo i hlt
                  obtain ⟨y, hy, hyw⟩ := HL.out.num hbo k hkl
                  obtain ⟨s, hs, hsw⟩ := HL.out.str hbo o hol
                  have HS : Hid (∀ w', Below W1.heap.size W1 w' → Below W1.heap.size W1 w' ∧ w'.cell? ⟨b, i, none⟩ = some (.int .i64 x) ∧ w'.cell? ⟨b, k, none⟩ = some (.int .i64 y) ∧ w'.cell? ⟨g, o, none⟩ = some (.string s)) :=
                    HL.out.three hbo i k o hlt hkl hol hx hy hs
                  have htw : (Lit.int .i64 t).wf = true := wf_of (by omega)
                  go_wp2_with fail
                  go_region_held3 (fun w' => Below W1.heap.size W1 w' ∧ w'.cell? ⟨b, i, none⟩ = some (.int .i64 x) ∧ w'.cell? ⟨b, k, none⟩ = some (.int .i64 y) ∧ w'.cell? ⟨g, o, none⟩ = some (.string s)) (first | exact HS.out _ hbo.drew | exact HS.out _ (by assumption) | go_keep)
                    (first | (go_at_call 3; refine (kbins W1 _ (by first | exact hbo.drew | assumption) t s x y htw hsw hxw hyw).mono ?_; rintro e w' ⟨rfl, hb'⟩))
                  go_wp2_with fail
                  go_roundw
                  case rel => first | exact ⟨o + 1, by omega, by go_num, by assumption⟩ | ((repeat apply Exists.intro); exact ⟨⟨o + 1, by omega, by go_num, by assumption⟩, rfl⟩)
                  case measure => simp [intOf]; omega
                · obtain ⟨r, hr, hrl⟩ : ∃ r : Nat, (k : Int).tmod 19 = (r : Int) ∧ r < 19 := ⟨k % 19, by rw [Int.tmod_eq_emod]; first | (simp; done) | (simp; omega), Nat.mod_lt _ (by decide)⟩
                  obtain ⟨x, hx, hxw⟩ := HL.out.num hbo i hlt
                  obtain ⟨y, hy, hyw⟩ := HL.out.num hbo k hkl
                  obtain ⟨s, hs, hsw⟩ := HL.out.str hbo r hrl
                  have HS : Hid (∀ w', Below W1.heap.size W1 w' → Below W1.heap.size W1 w' ∧ w'.cell? ⟨b, i, none⟩ = some (.int .i64 x) ∧ w'.cell? ⟨b, k, none⟩ = some (.int .i64 y) ∧ w'.cell? ⟨g, r, none⟩ = some (.string s)) :=
                    HL.out.three hbo i k r hlt hkl hrl hx hy hs
                  have htw : (Lit.int .i64 t).wf = true := wf_of (by omega)
                  have hkw : (Lit.int .i64 (k : Int)).wf = true := wf_of (by omega)
                  have hr0 := Lib.hid hr
                  clear hr
                  go_wp2_with fail
                  have hr1 : (0 : Int) ≤ (r : Int) := by omega
                  have hr2 : (r : Int) < 19 := by omega
                  have hr := hr0.out
                  go_region_held3 (fun w' => Below W1.heap.size W1 w' ∧ w'.cell? ⟨b, i, none⟩ = some (.int .i64 x) ∧ w'.cell? ⟨b, k, none⟩ = some (.int .i64 y) ∧ w'.cell? ⟨g, r, none⟩ = some (.string s)) (first | exact HS.out _ hbo.drew | exact HS.out _ (by assumption) | go_keep)
                    (first | (go_at_call 4; refine (kwraps W1 _ (by first | exact hbo.drew | assumption) t x k s y htw hxw hkw hsw hyw).mono ?_; rintro e w' ⟨rfl, hb'⟩))
                  clear hr
                  go_wp2_with fail
                  go_roundw
                  case rel => first | exact ⟨t + 1, by omega, by omega, by go_num, by assumption⟩ | ((repeat apply Exists.intro); exact ⟨⟨t + 1, by omega, by omega, by go_num, by assumption⟩, rfl⟩)
                  case measure => simp [intOf]; omega
            · obtain ⟨x, hx, hxw⟩ := HL.out.num hbt i hlt
              obtain ⟨y, hy, hyw⟩ := HL.out.num hbt k hkl
              have HS : Hid (∀ w', Below W1.heap.size W1 w' → Below W1.heap.size W1 w' ∧ w'.cell? ⟨b, i, none⟩ = some (.int .i64 x) ∧ w'.cell? ⟨b, k, none⟩ = some (.int .i64 y)) := HL.out.two hbt i k hx hy
              go_wp2_with fail
              go_region_held3 (fun w' => Below W1.heap.size W1 w' ∧ w'.cell? ⟨b, i, none⟩ = some (.int .i64 x) ∧ w'.cell? ⟨b, k, none⟩ = some (.int .i64 y)) (first | exact HS.out _ hbt.drew | exact HS.out _ (by assumption) | go_keep)
                (first | (go_at_call 6; refine (kdivs W1 _ (by first | exact hbt.drew | assumption) _ x y hxw hyw).mono ?_; rintro e w' ⟨rfl, hb'⟩) | (go_at_call 8; refine (korder W1 _ (by first | exact hbt.drew | assumption) _ x y hxw hyw).mono ?_; rintro e w' ⟨rfl, hb'⟩) | (go_at_call 5; refine (kring W1 _ (by first | exact hbt.drew | assumption) _ x y 3 hxw hyw (by decide)).mono ?_; rintro e w' ⟨rfl, hb'⟩))
              go_wp2_with fail
              go_roundw
              case rel => first | exact ⟨k + 1, by omega, by go_num, by assumption⟩ | ((repeat apply Exists.intro); exact ⟨⟨k + 1, by omega, by go_num, by assumption⟩, rfl⟩)
              case measure => simp [intOf]; omega
        · obtain ⟨m, hm, hml⟩ : ∃ m : Nat, IntKind.i64.wrap (31 - (i : Int)) = (m : Int) ∧ m < 32 := ⟨31 - i, by rw [k64]; unfold wrap64; omega, by omega⟩
          obtain ⟨x, hx, hxw⟩ := HL.out.num hbk i hlt
          obtain ⟨y, hy, hyw⟩ := HL.out.num hbk m hml
          have HS : Hid (∀ w', Below W1.heap.size W1 w' → Below W1.heap.size W1 w' ∧ w'.cell? ⟨b, i, none⟩ = some (.int .i64 x) ∧ w'.cell? ⟨b, m, none⟩ = some (.int .i64 y)) := HL.out.two hbk i m hx hy
          have hm0 := Lib.hid hm
          clear hm
          go_wp2_with fail
          have hm1 : (0 : Int) ≤ (m : Int) := by omega
          have hm2 : (m : Int) < 32 := by omega
          have e31 : IntKind.i64.wrap 31 = 31 := by rw [k64]; unfold wrap64; decide
          have hm := hm0.out
          go_region_held3 (fun w' => Below W1.heap.size W1 w' ∧ w'.cell? ⟨b, i, none⟩ = some (.int .i64 x) ∧ w'.cell? ⟨b, m, none⟩ = some (.int .i64 y)) (first | exact HS.out _ hbk.drew | exact HS.out _ (by assumption) | go_keep)
            (first | (go_at_call 7; refine (kbits W1 _ (by first | exact hbk.drew | assumption) _ x _ hxw (by first | assumption | decide)).mono ?_; rintro e w' ⟨rfl, hb'⟩))
          clear hm e31
          go_wp2_with fail
          go_roundw
          case rel => first | exact ⟨i + 1, by omega, by go_num, by assumption⟩ | ((repeat apply Exists.intro); exact ⟨⟨i + 1, by omega, by go_num, by assumption⟩, rfl⟩)
          case measure => simp [intOf]; omega
    · go_wp2_with fail
      refine (kbin W1 _ hbi 1 1 33 2 0 _ [60, 60] (by simp) (by decide +kernel) (by decide) (by decide)).mono ?_
      rintro e y1 ⟨rfl, hb1⟩
      go_wp2_with fail
      refine (kbin W1 _ hb1 1 (-5) (-1) (-1) 0 _ [62, 62] (by simp) (by decide +kernel) (by decide) (by decide)).mono ?_
      rintro e y2 ⟨rfl, hb2⟩
      go_wp2_with fail
      refine (kbin W1 _ hb2 1 (-7) 2 (-1) 0 _ [37] (by simp) (by decide +kernel) (by decide) (by decide)).mono ?_
      rintro e y3 ⟨rfl, hb3⟩
      go_wp2_with fail
      refine (kbin W1 _ hb3 2 2147483647 1 2147483648 0 _ [43] (by simp) (by decide +kernel) (by decide) (by decide)).mono ?_
      rintro e y4 ⟨rfl, hb4⟩
      go_wp2_with fail
      refine (kworks W1 _ hb4).mono ?_
      rintro e y5 ⟨rfl, hb5⟩
      go_wp2_with fail
      go_ret
      exact ⟨rfl, keep HB1.out hb5⟩
end Go.Proofs.Ytfbdoaaicomdjaa
