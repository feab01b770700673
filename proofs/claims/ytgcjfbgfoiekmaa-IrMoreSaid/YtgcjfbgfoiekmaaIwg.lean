/-
  Modules that the statements make: main of some registers and blocks; the main that returns 7.
-/
import Derived.Test.YtgcjfbgfoiekmaaIwe
import Derived.Test.YtgcjfbgfoiekmaaIwd
import Derived.Test.YtgcjfbgfoiekmaaIwf
namespace Go.Proofs.Ytgcjfbgfoiekmaa
open Go Go.RowKit Go.Maps
set_option linter.unusedVariables false
set_option linter.unusedSimpArgs false

def nilV : Value := .slice none 0 0
theorem flat_at {α : Type} (f : α → List Value) (n : Nat) (hf : ∀ x, (f x).length = n) (l : List α) : ∀ (i j : Nat) (x : α) (y : Value), l[i]? = some x → (f x)[j]? = some y → (l.flatMap f)[i * n + j]? = some y := by
  induction l with
  | nil => intro i j x y h; simp at h
  | cons a l ih =>
    intro i j x y h1 h2
    have hj : j < n := by rw [← hf x]; exact (List.getElem?_eq_some_iff.1 h2).1
    rw [List.flatMap_cons]
    cases i with
    | zero =>
      simp only [List.getElem?_cons_zero, Option.some.injEq] at h1
      subst h1
      rw [Nat.zero_mul, Nat.zero_add, List.getElem?_append_left (by rw [hf]; exact hj)]
      exact h2
    | succ i =>
      rw [List.getElem?_cons_succ] at h1
      rw [List.getElem?_append_right (by rw [hf, Nat.add_mul]; omega), hf, show (i + 1) * n + j - n = i * n + j by rw [Nat.add_mul]; omega]
      exact ih i j x y h1 h2
/-- A list of elements of so many cells that lies in a block of its own. -/
theorem isL_blk {α : Type} {w : World} {g n : Nat} {t : TypeId} {l : List α} {p : α → (Nat → Option Value) → Prop} (f : α → List Value) (hf : ∀ x, (f x).length = n) (h : Blk w g t (l.flatMap f).toArray) (hl : l.length ≤ 1000000) (hp : ∀ x ∈ l, ∀ c, (∀ j y, (f x)[j]? = some y → c j = some y) → p x c) :
    IsL w w.heap.size n (.slice (some ⟨g, 0, none⟩) l.length l.length) l p :=
  ⟨_, l.length, rfl, Nat.le_refl _, by unfold maxLen; omega, fun h => (by cases h), .inr ⟨g, 0, rfl, h.lt, fun i x hi => hp x (List.mem_of_getElem? hi) _ fun j y hj => by
    have h1 := h.cell (0 + i * n + j)
    rw [h1, List.getElem?_toArray, Nat.zero_add]
    exact flat_at f n hf l i j x y hi hj⟩⟩
theorem isI_flat {w : World} {g : Nat} {l : List Int} (h : Blk w g tI1 (l.flatMap fun x => [Value.int .i64 x]).toArray) (hl : l.length ≤ 1000000) (hw : ∀ x ∈ l, iw x) : IsI w w.heap.size (.slice (some ⟨g, 0, none⟩) l.length l.length) l :=
  isL_blk (fun x => [Value.int .i64 x]) (fun _ => rfl) h hl fun x hx c hc => ⟨hc 0 _ rfl, hw x hx⟩
theorem isN_flat {w : World} {g : Nat} {l : List Ins} (av : Ins → Value) (h : Blk w g tIn (l.flatMap fun x => insC x (av x)).toArray) (hl : l.length ≤ 1000000) (hw : ∀ x ∈ l, x.w ∧ IsI w w.heap.size (av x) x.args) : IsN w w.heap.size (.slice (some ⟨g, 0, none⟩) l.length l.length) l :=
  isL_blk (fun x => insC x (av x)) (fun _ => rfl) h hl fun x hx c hc => ⟨(hw x hx).1, av x, (hw x hx).2, hc⟩
theorem isB_one {w : World} {g : Nat} {b : Blo} {cv : Value} (h : Blk w g tBl (bloC b cv).toArray) (hw : b.e.w) (hn : IsN w w.heap.size cv b.code) : IsB w w.heap.size (.slice (some ⟨g, 0, none⟩) 1 1) [b] :=
  isL_blk (l := [b]) (fun x => bloC b cv) (fun _ => rfl) (by simpa using h) (by simp) fun x hx c hc => by
    obtain rfl : x = b := by simpa using hx
    exact ⟨hw, cv, hn, hc⟩
theorem isF_one {w : World} {g : Nat} {c : Cod} {rv bv : Value} (h : Blk w g tCo (codC c rv bv).toArray) (hw : iw c.ty ∧ iw c.pr) (hr : IsI w w.heap.size rv c.regs) (hb : IsB w w.heap.size bv c.bl) : IsF w w.heap.size (.slice (some ⟨g, 0, none⟩) 1 1) [c] :=
  isL_blk (l := [c]) (fun x => codC c rv bv) (fun _ => rfl) (by simpa using h) (by simp) fun x hx d hc => by
    obtain rfl : x = c := by simpa using hx
    exact ⟨hw, rv, bv, hr, hb, hc⟩
theorem isG_flat {w : World} {g : Nat} {l : List Glo} (h : Blk w g tGl (l.flatMap gloC).toArray) (hl : l.length ≤ 1000000) (hw : ∀ x ∈ l, iw x.ty ∧ iw x.sz ∧ iw x.at_) : IsG w w.heap.size (.slice (some ⟨g, 0, none⟩) l.length l.length) l :=
  isL_blk gloC (fun _ => rfl) h hl fun x hx c hc => ⟨hw x hx, hc⟩
theorem isG_nil (w : World) (B : Nat) : IsG w B (.slice none 0 0) [] := ⟨none, 0, rfl, Nat.le_refl _, by simp, fun _ => rfl, .inl rfl⟩
theorem isB_nil (w : World) (B : Nat) : IsB w B (.slice none 0 0) [] := ⟨none, 0, rfl, Nat.le_refl _, by simp, fun _ => rfl, .inl rfl⟩

theorem moInfo : (Try.prog.info? tMo).map (·.size) = some 2 := by kernel_rfl
def mainC (regs : List Int) (bl : List Blo) : Cod := ⟨[109, 97, 105, 110], 1, 0, regs, bl⟩
theorem iw_small {x : Int} (h : -1000000000000 ≤ x ∧ x ≤ 1000000000000) : iw x := by
  show (Lit.int .i64 x).wf = true
  simp [Lit.wf, IntKind.min, IntKind.max, IntKind.signed, IntKind.bits]
  omega

set_option maxHeartbeats 1000000 in
set_option maxRecDepth 10000 in
theorem mainR_any (regs : List Int) (bl : List Blo) (rA bA : Option Addr) (rn rc bn bc : Nat) (w : World) :
    Calls Try.prog 16 #[.slice rA rn rc, .slice bA bn bc] w fun e w' => ∃ g, e = .returned (.agg #[.slice none 0 0, .slice (some ⟨g, 0, none⟩) 1 1]) ∧ Blk w' g tCo (codC (mainC regs bl) (.slice rA rn rc) (.slice bA bn bc)).toArray ∧ w.heap.size ≤ g ∧ Below w.heap.size w w' := by
  have hb1 : Below w.heap.size w (w.alloc (.cells #[.slice none 0 0, .slice none 0 0] tMo)) := (Below.refl _ _).alloc (Nat.le_refl _) _
  have HB1 := Lib.hid (And.intro hb1 (Blk.new w tMo #[.slice none 0 0, .slice none 0 0]))
  clear hb1
  go_enter Try.func16, Try.ntmps16
  go_upto_region 1 with (fail)
  obtain ⟨H, hH⟩ : ∃ H, w.heap.size = H := ⟨_, rfl⟩
  have HH := Lib.hid hH
  rw [hH] at HB1
  generalize hw1 : w.alloc (.cells #[.slice none 0 0, .slice none 0 0] tMo) = W1 at *
  simp only [hH]
  clear hH hw1
  have c0 : W1.cell? ⟨H, 0, none⟩ = some (.slice none 0 0) := HB1.out.2.cell 0
  have c1 : W1.cell? ⟨H, 1, none⟩ = some (.slice none 0 0) := HB1.out.2.cell 1
  have f0 := HB1.out.2.frozen 0
  have f1 := HB1.out.2.frozen 1
  have hl := HB1.out.2.lt
  go_wp2_with fail
  have hq := (((HB1.out.2.set_ 0 (.slice none 0 0)).set_ 1 (.slice (some ⟨W1.heap.size, 0, none⟩) 1 1)).alloc (.cells (codC (mainC regs bl) (.slice rA rn rc) (.slice bA bn bc)).toArray tCo))
  obtain ⟨V, hV⟩ : ∃ V, (W1.setCell ⟨H, 0, none⟩ (.slice none 0 0)).setCell ⟨H, 1, none⟩ (.slice (some ⟨W1.heap.size, 0, none⟩) 1 1) = V := ⟨_, rfl⟩
  have hVs : V.heap.size = W1.heap.size := by rw [← hV]; simp
  have hVb : Below H W1 V := by rw [← hV]; exact ((Below.refl H W1).setCell (p := ⟨H, 0, none⟩) (Nat.le_refl _) _).setCell (p := ⟨H, 1, none⟩) (Nat.le_refl _) _
  have hbel : Below H w (V.alloc (.cells (codC (mainC regs bl) (.slice rA rn rc) (.slice bA bn bc)).toArray tCo)) := (HB1.out.1.trans hVb).alloc (by omega) _
  rw [hV] at hq
  rw [hV]
  clear hV
  refine bodyPost_ret (v := .agg #[.slice none 0 0, .slice (some ⟨W1.heap.size, 0, none⟩) 1 1]) (results_cell_row rfl _ _ H tMo _ (0, 0) (.struct _) rfl hq Try.underlying25 rfl moInfo) rfl ?_
  have hN := Blk.new V tCo (codC (mainC regs bl) (.slice rA rn rc) (.slice bA bn bc)).toArray
  rw [hVs] at hN
  have e1 := HB1.out.1.size
  refine ⟨_, rfl, hN, e1, by rw [HH.out]; exact hbel⟩
end Go.Proofs.Ytgcjfbgfoiekmaa
