/-
  Layer parse, printing: tokens of a line, and its end.
-/
import Derived.Test.YtlbjjpfhkgagiaaGreatDoorPrb
namespace Go.Proofs.YtlbjjpfhkgagiaaGreatDoor
open Go.RowKit Go.Shelf
set_option linter.unusedVariables false
set_option linter.unusedSimpArgs false

/-- A line's tokens, a blank ahead of each but the first. -/
def wl (bg : Bool) : Tx → List UInt8
  | [] => []
  | x :: xs => (if bg then [32] else []) ++ x ++ wl true xs
def bgn (bg : Bool) (xs : Tx) : Bool := bg || !xs.isEmpty
theorem wl_append (xs ys : Tx) : ∀ bg, wl bg (xs ++ ys) = wl bg xs ++ wl (bgn bg xs) ys := by
  induction xs with
  | nil => intro bg; simp [wl, bgn]
  | cons x xs ih => intro bg; simp [wl, bgn, ih]
theorem bgn_append (bg : Bool) (xs ys : Tx) : bgn bg (xs ++ ys) = bgn (bgn bg xs) ys := by
  cases xs <;> simp [bgn]
theorem wl_len (xs : Tx) (h : ∀ x ∈ xs, x.length ≤ 45) : ∀ bg, (wl bg xs).length ≤ 46 * xs.length := by
  induction xs with
  | nil => intro bg; simp [wl]
  | cons x xs ih =>
    intro bg
    have h1 := ih (fun y hy => h y (List.mem_cons_of_mem _ hy)) true
    have h2 := h x (by simp)
    simp only [wl, List.length_append, List.length_cons]
    split <;> simp <;> omega
theorem Wb.begun {B b : Nat} {w : World} {l : List UInt8} {bg : Bool} {nv sv v : Value} (h : Wb B b w l bg nv sv v) (bg2 : Bool) : Wb B b (w.setCell ⟨b, 2, none⟩ (.bool bg2)) l bg2 nv sv v := by
  obtain ⟨p, hp, hb⟩ := h.blk
  exact ⟨⟨p, hp, hb.set_ 2 (.bool bg2)⟩, h.base, h.row.kept (row := some b) ⟨rfl, rfl, rfl, by simp [World.setCell], fun k _ hk => Below.heap_setCell _ _ _ _ (fun e => hk (by simp [e]))⟩ (Or.inr h.ne)⟩
theorem Wb.cell2 {B b : Nat} {w : World} {l : List UInt8} {bg : Bool} {nv sv v : Value} (h : Wb B b w l bg nv sv v) : w.cell? ⟨b, 2, none⟩ = some (.bool bg) ∧ w.cell? ⟨b, 3, none⟩ = some nv ∧ w.cell? ⟨b, 4, none⟩ = some sv ∧ b < w.heap.size ∧ w.frozen? ⟨b, 2, none⟩ = false := by
  obtain ⟨p, hp, hb⟩ := h.blk
  exact ⟨hb.cell 2, hb.cell 3, hb.cell 4, hb.lt, hb.frozen 2⟩

set_option maxHeartbeats 2000000 in
set_option maxRecDepth 100000 in
theorem tokens_any {B b : Nat} {w : World} {l : List UInt8} {bg : Bool} {nv sv v : Value} (h : Wb B b w l bg nv sv v) (L : Tx) (n c : Nat) (hn : L.length = n) (hn2 : n ≤ 1000) (hlen : l.length + (wl bg L).length ≤ 1000000000) (g : Nat) (cs : Array Value)
    (hg : Blk w g 9 cs) (hgb : g ≠ b) (hcs : ∀ (j : Nat) (x : List UInt8), L[j]? = some x → cs[j]? = some (Value.string (str x))) :
    Calls Tryz.prog 58 #[.pointer (some ⟨b, 0, none⟩), .slice (some ⟨g, 0, none⟩) n c] w fun e w' => e = .returned (.tuple #[]) ∧ ∃ v', Wb B b w' (l ++ wl bg L) (bgn bg L) nv sv v' ∧ Kw B [b] w w' := by
  have HLEN := Lib.hid hlen
  have HL := Lib.hid hn
  have HG := Lib.hid hg
  have H0 := Lib.hid h
  have hB := h.base
  clear hlen hg h
  go_enter Tryz.func58, Tryz.ntmps58
  go_wp2_with fail
  go_loopw [8] (fun x wr => ∃ (k : Nat) (v' : Value), k ≤ n ∧ x = .int .i64 k ∧ Wb B b wr (l ++ wl bg (L.take k)) (bgn bg (L.take k)) nv sv v' ∧ Kw B [b] w wr) (fun x _ => n - (intOf x).toNat)
  case atStart => exact ⟨0, v, by omega, rfl, by simpa [wl, bgn] using H0.out, Kw.refl _ _ _⟩
  case round =>
    obtain ⟨k, v', hk, rfl, hW, hK⟩ := hrel
    by_cases hlt : k < n
    · have hLk : L[k]? = some (L[k]'(by omega)) := List.getElem?_eq_getElem _
      have hgw : Blk wr g 9 cs := hK.blk HG.out (by simpa using hgb) (by decide)
      have hcell := (hgw.cell k).trans (hcs k _ hLk)
      have hgl : g < wr.heap.size := hgw.lt
      have hts : L.take (k + 1) = L.take k ++ [L[k]'(by omega)] := List.take_succ_eq_append_getElem (by omega)
      have hpl : (wl bg (L.take (k + 1))).length ≤ (wl bg L).length := by
        conv => rhs; rw [← List.take_append_drop (k + 1) L, wl_append]
        rw [List.length_append]; omega
      rw [hts, wl_append] at hpl
      generalize L[k]'(by omega) = x at *
      have HTS := Lib.hid hts
      obtain ⟨l', hl'⟩ : ∃ l', l ++ wl bg (L.take k) = l' := ⟨_, rfl⟩
      obtain ⟨bg', hbg'⟩ : ∃ bg', bgn bg (L.take k) = bg' := ⟨_, rfl⟩
      have hE : l ++ wl bg (L.take (k + 1)) = l' ++ wl bg' [x] ∧ bgn bg (L.take (k + 1)) = true := by
        rw [hts, wl_append, ← List.append_assoc, hl', hbg', bgn_append]
        exact ⟨rfl, by simp [bgn]⟩
      have hl2 : l'.length + (wl bg' [x]).length ≤ 1000000000 := by
        have h1 := HLEN.out
        rw [hbg', List.length_append] at hpl
        rw [← hl', List.length_append]
        omega
      rw [hl', hbg'] at hW
      have HE := Lib.hid hE
      have HW := Lib.hid hW
      have HK := Lib.hid hK
      clear hE hts hpl hLk hgw hK hcs hl' hbg'
      obtain ⟨x2, -, -, xb, xf⟩ := hW.cell2
      clear hW
      cases bg'
      · have hl3 := Lib.hid (show l'.length + x.length ≤ 1000000000 by simpa [wl] using hl2)
        clear hl2
        go_wp2_with fail
        refine (ws_any HW.out x hl3.out).mono ?_
        rintro e w1 ⟨⟨r, rfl⟩, v1, hW, hK⟩
        obtain ⟨y2, -, -, yb, yf⟩ := hW.cell2
        have HW1 := Lib.hid (hW.begun true)
        have HK1 := Lib.hid ((HK.out.trans hK).set_ (j := b) (by simp) hB 2 (.bool true))
        clear hW hK
        go_wp2_with fail
        go_roundw
        case rel => exact ⟨k + 1, v1, by omega, by go_num, by rw [HE.out.1, HE.out.2]; simpa [wl] using HW1.out, HK1.out⟩
        case measure => simp [intOf]; omega
      · have hl3 := Lib.hid (show l'.length + (x.length + 1) ≤ 1000000000 by simp [wl] at hl2; omega)
        clear hl2
        go_wp2_with fail
        refine (wb_any HW.out 32 (by have := hl3.out; omega)).mono ?_
        rintro e w1 ⟨rfl, v1, hW, hK⟩
        have HW1 := Lib.hid hW
        have HK1 := Lib.hid (HK.out.trans hK)
        have hgw : Blk w1 g 9 cs := HK1.out.blk HG.out (by simpa using hgb) (by decide)
        clear hW hK hgw
        go_wp2_with fail
        refine (ws_any HW1.out x (by have := hl3.out; simp; omega)).mono ?_
        rintro e w2 ⟨⟨r, rfl⟩, v2, hW, hK⟩
        obtain ⟨y2, -, -, yb, yf⟩ := hW.cell2
        have HW2 := Lib.hid (hW.begun true)
        have HK2 := Lib.hid ((HK1.out.trans hK).set_ (j := b) (by simp) hB 2 (.bool true))
        clear hW hK
        go_wp2_with fail
        go_roundw
        case rel => exact ⟨k + 1, v2, by omega, by go_num, by rw [HE.out.1, HE.out.2]; simpa [wl] using HW2.out, HK2.out⟩
        case measure => simp [intOf]; omega
    · obtain rfl : k = n := by omega
      rw [← HL.out, List.take_length] at hW
      have HW := Lib.hid hW
      have HK := Lib.hid hK
      clear hW hK
      go_wp2_with fail
      go_end0
      exact ⟨rfl, v', HW.out, HK.out⟩

set_option maxHeartbeats 2000000 in
set_option maxRecDepth 100000 in
theorem endLine_any {B b : Nat} {w : World} {l : List UInt8} {bg : Bool} {nv sv v : Value} (h : Wb B b w l bg nv sv v) (hlen : l.length + 1 ≤ 1000000000) :
    Calls Tryz.prog 60 #[.pointer (some ⟨b, 0, none⟩)] w fun e w' => e = .returned (.tuple #[]) ∧ ∃ v', Wb B b w' (l ++ [10]) false nv sv v' ∧ Kw B [b] w w' := by
  have hB := h.base
  have H0 := Lib.hid h
  clear h
  go_enter Tryz.func60, Tryz.ntmps60
  go_wp2_with fail
  refine (wb_any H0.out 10 hlen).mono ?_
  rintro e w1 ⟨rfl, v1, hW, hK⟩
  obtain ⟨y2, -, -, yb, yf⟩ := hW.cell2
  have HW1 := Lib.hid (hW.begun false)
  have HK1 := Lib.hid (hK.set_ (j := b) (by simp) hB 2 (.bool false))
  clear hW hK
  go_wp2_with fail
  go_end0
  exact ⟨rfl, v1, HW1.out, HK1.out⟩

/-- One token, two, three, as they are handed over. -/
theorem tok1 {B b : Nat} {w : World} {l : List UInt8} {bg : Bool} {nv sv v : Value} (h : Wb B b w l bg nv sv v) {H : Nat} (hH : w.heap.size = H) (L : Tx) (n : Nat) (hn : L.length = n) (hn2 : n ≤ 1000) (hlen : l.length + (wl bg L).length ≤ 1000000000) :
    Calls Tryz.prog 58 #[.pointer (some ⟨b, 0, none⟩), .slice (some ⟨H, 0, none⟩) n n] (w.alloc (.cells (L.map fun x => Value.string (str x)).toArray 9)) fun e w' => e = .returned (.tuple #[]) ∧ ∃ v', Wb B b w' (l ++ wl bg L) (bgn bg L) nv sv v' ∧ Kw B [b] w w' := by
  subst hH
  have hl := h.lt
  have hB := h.base
  have h1 : Wb B b (w.alloc (.cells (L.map fun x => Value.string (str x)).toArray 9)) l bg nv sv v := by
    obtain ⟨p, hp, hb⟩ := h.blk
    exact ⟨⟨p, hp, (heap_alloc_old _ _ _ hb.lt).trans hb⟩, h.base, h.row.alloc _⟩
  refine (tokens_any h1 L n n hn hn2 hlen w.heap.size _ (heap_alloc_new w _) (by omega) ?_).mono ?_
  · intro j x hj
    simp [hj]
  · rintro e w' ⟨rfl, v', hW, hK⟩
    exact ⟨rfl, v', hW, ((Kw.refl _ _ _).alloc (by omega) _).trans hK⟩
end Go.Proofs.YtlbjjpfhkgagiaaGreatDoor
