/-
  Layer ir: a machine is made.
-/
import Derived.Test.YtgcjfbgfoiekmaaIvy
namespace Go.Proofs.Ytgcjfbgfoiekmaa
open Go Go.RowKit Go.Maps
set_option linter.unusedVariables false
set_option linter.unusedSimpArgs false

def st0 (m : Mdl) (inp : List Int) (st : Int) : Mst := ⟨inp, [], st, List.replicate m.g.length 0, fun _ _ => 0, 0⟩
theorem mcv_new {w w' : World} {gv fv iv : Value} {m : Mdl} {inp : List Int} {st : Int} {B b sb mb : Nat} (hB : B ≤ w.heap.size) (hm : IsM w B gv fv m) (hi : IsI w B iv inp) (hbel : Below B w w') (h1 : Blk w' b tMc #[gv, fv, .slice none 0 0, iv, .int .i64 st, .int .i64 0, .slice (some ⟨sb, 0, none⟩) m.g.length m.g.length, .map (some mb)])
    (h2 : Blk w' sb tI1 (intC (List.replicate m.g.length 0))) (h3 : w'.heap[mb]? = some (.map #[] 0)) (hne : b ≠ sb ∧ b ≠ mb ∧ sb ≠ mb) (hbb : B ≤ b ∧ B ≤ sb ∧ B ≤ mb) (hst : -1000000 ≤ st ∧ st ≤ 1000000) :
    McV ⟨b, sb, mb, B, m, gv, fv, 1000000⟩ 0 w' (st0 m inp st) (.slice none 0 0) := by
  have hmp : w'.ownsMap Try.prog tEl (plainElem Try.prog tI1) mb 0 (.map [] : DataW Unit) := by
    have h0 := World.ownsMap_made (H := Unit) w' Try.prog tEl (plainElem Try.prog tI1)
    obtain ⟨es, cl, e1, e2, e3, e4⟩ := h0
    rw [(MapKept.heap_alloc w' _).1] at e1
    simp only [Option.some.injEq, Obj.map.injEq] at e1
    obtain ⟨rfl, rfl⟩ := e1
    exact ⟨_, _, h3, e2, e3, e4⟩
  refine ⟨⟨iv, h1, hi.below hbel⟩, hm.below hbel, World.ownsRow_nil _ _ _ _, h2, by simp [st0], ?_, ⟨0, _, hmp, fun a i kl _ _ _ => rfl, by simp only [st0]; omega⟩, fun a i => iw0, hbb, hne, by simp [Value.ownBlock], by simp [st0]; omega, (by show (1000000 : Int) ≤ 1000000000000; decide), iw_of (by simp only [st0]; omega), by simp [st0]⟩
  intro x hx
  simp only [st0] at hx
  rw [List.eq_of_mem_replicate hx]
  exact iw0

abbrev tMd : TypeId := 25
theorem four (W : World) (o1 o2 o3 o4 : Obj) : ((((W.alloc o1).alloc o2).alloc o3).alloc o4).heap[W.heap.size]? = some o1 ∧ ((((W.alloc o1).alloc o2).alloc o3).alloc o4).heap[W.heap.size + 1]? = some o2 ∧ ((((W.alloc o1).alloc o2).alloc o3).alloc o4).heap[W.heap.size + 2]? = some o3 ∧ ((((W.alloc o1).alloc o2).alloc o3).alloc o4).heap[W.heap.size + 3]? = some o4 ∧ Below W.heap.size W ((((W.alloc o1).alloc o2).alloc o3).alloc o4) := by
  refine ⟨?_, ?_, ?_, ?_, ((((Below.refl _ W).alloc (Nat.le_refl _) _).alloc (by simp) _).alloc (by first | (simp; done) | (simp; omega)) _).alloc (by first | (simp; done) | (simp; omega)) _⟩
  · rw [heap_alloc_old _ _ (by first | (simp; done) | (simp; omega)), heap_alloc_old _ _ (by first | (simp; done) | (simp; omega)), heap_alloc_old _ _ (by simp), heap_alloc_new]
  · rw [heap_alloc_old _ _ (by simp), heap_alloc_old _ _ (by simp)]
    have := heap_alloc_new (W.alloc o1) o2
    simpa using this
  · rw [heap_alloc_old _ _ (by simp)]
    have := heap_alloc_new ((W.alloc o1).alloc o2) o3
    simpa using this
  · have := heap_alloc_new (((W.alloc o1).alloc o2).alloc o3) o4
    simpa using this
abbrev tCrs : TypeId := 69
theorem coInfo : (Try.prog.info? tCrs).map (·.size) = some 4 := by kernel_rfl
def crA (iv : Value) (st : Int) : Array Value := #[.slice none 0 0, iv, .int .i64 st, .int .i64 0]
set_option maxHeartbeats 1000000 in
theorem new_any (iA : Option Addr) (n c : Nat) (st : Int) (w : World) : Calls Try.prog 29 #[.slice iA n c, .int .i64 st] w fun e w' => e = .returned (.agg (crA (.slice iA n c) st)) ∧ w' = w.alloc (.cells (crA (.slice iA n c) st) tCrs) := by
  unfold crA
  have hb := Blk.new w tCrs #[.slice none 0 0, .slice iA n c, .int .i64 st, .int .i64 0]
  go_enter Try.func29, Try.ntmps29
  go_wp2_with fail
  exact bodyPost_ret (v := .agg #[.slice none 0 0, .slice iA n c, .int .i64 st, .int .i64 0]) (results_cell_row rfl _ _ w.heap.size tCrs _ (0, 0) _ rfl hb Try.underlying69 rfl coInfo) rfl ⟨rfl, rfl⟩
set_option maxHeartbeats 1000000 in
set_option maxRecDepth 100000 in
theorem newM_any {w : World} {gv fv iv : Value} {m : Mdl} {inp : List Int} {st : Int} (hm : IsM w w.heap.size gv fv m) (hi : IsI w w.heap.size iv inp) (hg : m.g.length ≤ 1000) (hst : -1000000 ≤ st ∧ st ≤ 1000000) :
    Calls Try.prog 21 #[.agg #[gv, fv], iv, .int .i64 st] w fun e w' => ∃ b sb mb, e = .returned (.pointer (some ⟨b, 0, none⟩)) ∧ McV ⟨b, sb, mb, w.heap.size, m, gv, fv, 1000000⟩ 0 w' (st0 m inp st) (.slice none 0 0) ∧ Below w.heap.size w w' ∧ w.heap.size ≤ b := by
  obtain ⟨gA, gc, rfl, -, -, -⟩ := hm.g.sl
  obtain ⟨fA, fc, rfl, -, -, -⟩ := hm.f.sl
  obtain ⟨iA, ic, rfl, -, -, -⟩ := hi.sl
  have hb1 : Below w.heap.size w (w.alloc (.cells #[.slice gA m.g.length gc, .slice fA m.f.length fc] tMd)) := (Below.refl _ _).alloc (Nat.le_refl _) _
  have b1 := Blk.new w tMd #[.slice gA m.g.length gc, .slice fA m.f.length fc]
  have hs1 : (w.alloc (.cells #[.slice gA m.g.length gc, .slice fA m.f.length fc] tMd)).heap.size = w.heap.size + 1 := by simp
  have HH := Lib.hid (And.intro hm (And.intro hi (And.intro hst hb1)))
  have hmk := make_all m.g.length hg
  have hmm := @run_makeMap Try.prog
  have HS1 := Lib.hid hs1
  go_enter Try.func21, Try.ntmps21
  go_upto_region 1 with (fail)
  clear hm hi hst hb1 hs1
  generalize w.alloc (.cells #[.slice gA m.g.length gc, .slice fA m.f.length fc] tMd) = W1 at *
  have c0 : W1.cell? ⟨w.heap.size, 0, none⟩ = some (.slice gA m.g.length gc) := b1.cell 0
  have c1 : W1.cell? ⟨w.heap.size, 1, none⟩ = some (.slice fA m.f.length fc) := b1.cell 1
  have cl := b1.lt
  obtain ⟨z, hz⟩ : ∃ z, intC (List.replicate m.g.length 0) = z := ⟨_, rfl⟩
  have HZ := Lib.hid hz
  rw [hz] at hmk
  have HNW := Lib.hid fun W => new_any iA inp.length ic st W
  unfold crA at HNW
  have HS : Hid (∀ Wx, Below W1.heap.size W1 Wx → Wx.cell? ⟨w.heap.size, 0, none⟩ = some (.slice gA m.g.length gc) ∧ Wx.cell? ⟨w.heap.size, 1, none⟩ = some (.slice fA m.f.length fc) ∧ w.heap.size < Wx.heap.size) := Lib.hid fun Wx h => by
    have hz := h.size
    exact ⟨(h.cell (p := ⟨w.heap.size, 0, none⟩) cl).trans c0, (h.cell (p := ⟨w.heap.size, 1, none⟩) cl).trans c1, by omega⟩
  clear b1 hz hg
  go_region_held2 (fun Wx => Wx.cell? ⟨w.heap.size, 0, none⟩ = some (.slice gA m.g.length gc) ∧ Wx.cell? ⟨w.heap.size, 1, none⟩ = some (.slice fA m.f.length fc) ∧ w.heap.size < Wx.heap.size)
    (first | exact ⟨c0, c1, cl⟩ | (refine HS.out _ ?_; repeat (first | exact Below.refl _ _ | refine Below.alloc ?_ (by simp <;> omega) _ | refine Below.trans ?_ (bd1 _ |>.mono (by simp <;> omega)))))
    (first
      | (go_at_call 29; (with_reducible refine Calls.mono (HNW.out _) ?_); rintro e v1 ⟨rfl, rfl⟩))
  all_goals
    go_wp2_with fail
    go_ret
    have hs := HS1.out
    first
      | exact ⟨W1.heap.size + 1 + 1 + 1, W1.heap.size + 1, W1.heap.size + 1 + 1, rfl, mcv_new (Nat.le_refl _) HH.out.1 HH.out.2.1 (HH.out.2.2.2.trans (((four W1 (.cells #[.slice none 0 0, .slice iA inp.length ic, .int .i64 st, .int .i64 0] tCrs) (.cells z tI1) (.map #[] 0) _).2.2.2.2.mono (by omega)).trans ⟨rfl, rfl, rfl, Nat.le_refl _, fun _ _ => rfl⟩)) ((four W1 (.cells #[.slice none 0 0, .slice iA inp.length ic, .int .i64 st, .int .i64 0] tCrs) (.cells z tI1) (.map #[] 0) _).2.2.2.1) (by rw [HZ.out]; exact (four W1 (.cells #[.slice none 0 0, .slice iA inp.length ic, .int .i64 st, .int .i64 0] tCrs) (.cells z tI1) (.map #[] 0) _).2.1) ((four W1 (.cells #[.slice none 0 0, .slice iA inp.length ic, .int .i64 st, .int .i64 0] tCrs) (.cells z tI1) (.map #[] 0) _).2.2.1) (by omega) (by omega) HH.out.2.2.1, HH.out.2.2.2.trans (((four W1 (.cells #[.slice none 0 0, .slice iA inp.length ic, .int .i64 st, .int .i64 0] tCrs) (.cells z tI1) (.map #[] 0) _).2.2.2.2.mono (by omega)).trans ⟨rfl, rfl, rfl, Nat.le_refl _, fun _ _ => rfl⟩), by omega⟩
      | exact ⟨W1.heap.size + 1 + 1 + 1, W1.heap.size + 1 + 1, W1.heap.size + 1, rfl, mcv_new (Nat.le_refl _) HH.out.1 HH.out.2.1 (HH.out.2.2.2.trans (((four W1 (.cells #[.slice none 0 0, .slice iA inp.length ic, .int .i64 st, .int .i64 0] tCrs) (.map #[] 0) (.cells z tI1) _).2.2.2.2.mono (by omega)).trans ⟨rfl, rfl, rfl, Nat.le_refl _, fun _ _ => rfl⟩)) ((four W1 (.cells #[.slice none 0 0, .slice iA inp.length ic, .int .i64 st, .int .i64 0] tCrs) (.map #[] 0) (.cells z tI1) _).2.2.2.1) (by rw [HZ.out]; exact (four W1 (.cells #[.slice none 0 0, .slice iA inp.length ic, .int .i64 st, .int .i64 0] tCrs) (.map #[] 0) (.cells z tI1) _).2.2.1) ((four W1 (.cells #[.slice none 0 0, .slice iA inp.length ic, .int .i64 st, .int .i64 0] tCrs) (.map #[] 0) (.cells z tI1) _).2.1) (by omega) (by omega) HH.out.2.2.1, HH.out.2.2.2.trans (((four W1 (.cells #[.slice none 0 0, .slice iA inp.length ic, .int .i64 st, .int .i64 0] tCrs) (.map #[] 0) (.cells z tI1) _).2.2.2.2.mono (by omega)).trans ⟨rfl, rfl, rfl, Nat.le_refl _, fun _ _ => rfl⟩), by omega⟩
      | exact ⟨W1.heap.size + 1 + 1 + 1, W1.heap.size, W1.heap.size + 1 + 1, rfl, mcv_new (Nat.le_refl _) HH.out.1 HH.out.2.1 (HH.out.2.2.2.trans (((four W1 (.cells z tI1) (.cells #[.slice none 0 0, .slice iA inp.length ic, .int .i64 st, .int .i64 0] tCrs) (.map #[] 0) _).2.2.2.2.mono (by omega)).trans ⟨rfl, rfl, rfl, Nat.le_refl _, fun _ _ => rfl⟩)) ((four W1 (.cells z tI1) (.cells #[.slice none 0 0, .slice iA inp.length ic, .int .i64 st, .int .i64 0] tCrs) (.map #[] 0) _).2.2.2.1) (by rw [HZ.out]; exact (four W1 (.cells z tI1) (.cells #[.slice none 0 0, .slice iA inp.length ic, .int .i64 st, .int .i64 0] tCrs) (.map #[] 0) _).1) ((four W1 (.cells z tI1) (.cells #[.slice none 0 0, .slice iA inp.length ic, .int .i64 st, .int .i64 0] tCrs) (.map #[] 0) _).2.2.1) (by omega) (by omega) HH.out.2.2.1, HH.out.2.2.2.trans (((four W1 (.cells z tI1) (.cells #[.slice none 0 0, .slice iA inp.length ic, .int .i64 st, .int .i64 0] tCrs) (.map #[] 0) _).2.2.2.2.mono (by omega)).trans ⟨rfl, rfl, rfl, Nat.le_refl _, fun _ _ => rfl⟩), by omega⟩
      | exact ⟨W1.heap.size + 1 + 1 + 1, W1.heap.size + 1 + 1, W1.heap.size, rfl, mcv_new (Nat.le_refl _) HH.out.1 HH.out.2.1 (HH.out.2.2.2.trans (((four W1 (.map #[] 0) (.cells #[.slice none 0 0, .slice iA inp.length ic, .int .i64 st, .int .i64 0] tCrs) (.cells z tI1) _).2.2.2.2.mono (by omega)).trans ⟨rfl, rfl, rfl, Nat.le_refl _, fun _ _ => rfl⟩)) ((four W1 (.map #[] 0) (.cells #[.slice none 0 0, .slice iA inp.length ic, .int .i64 st, .int .i64 0] tCrs) (.cells z tI1) _).2.2.2.1) (by rw [HZ.out]; exact (four W1 (.map #[] 0) (.cells #[.slice none 0 0, .slice iA inp.length ic, .int .i64 st, .int .i64 0] tCrs) (.cells z tI1) _).2.2.1) ((four W1 (.map #[] 0) (.cells #[.slice none 0 0, .slice iA inp.length ic, .int .i64 st, .int .i64 0] tCrs) (.cells z tI1) _).1) (by omega) (by omega) HH.out.2.2.1, HH.out.2.2.2.trans (((four W1 (.map #[] 0) (.cells #[.slice none 0 0, .slice iA inp.length ic, .int .i64 st, .int .i64 0] tCrs) (.cells z tI1) _).2.2.2.2.mono (by omega)).trans ⟨rfl, rfl, rfl, Nat.le_refl _, fun _ _ => rfl⟩), by omega⟩
      | exact ⟨W1.heap.size + 1 + 1 + 1, W1.heap.size, W1.heap.size + 1, rfl, mcv_new (Nat.le_refl _) HH.out.1 HH.out.2.1 (HH.out.2.2.2.trans (((four W1 (.cells z tI1) (.map #[] 0) (.cells #[.slice none 0 0, .slice iA inp.length ic, .int .i64 st, .int .i64 0] tCrs) _).2.2.2.2.mono (by omega)).trans ⟨rfl, rfl, rfl, Nat.le_refl _, fun _ _ => rfl⟩)) ((four W1 (.cells z tI1) (.map #[] 0) (.cells #[.slice none 0 0, .slice iA inp.length ic, .int .i64 st, .int .i64 0] tCrs) _).2.2.2.1) (by rw [HZ.out]; exact (four W1 (.cells z tI1) (.map #[] 0) (.cells #[.slice none 0 0, .slice iA inp.length ic, .int .i64 st, .int .i64 0] tCrs) _).1) ((four W1 (.cells z tI1) (.map #[] 0) (.cells #[.slice none 0 0, .slice iA inp.length ic, .int .i64 st, .int .i64 0] tCrs) _).2.1) (by omega) (by omega) HH.out.2.2.1, HH.out.2.2.2.trans (((four W1 (.cells z tI1) (.map #[] 0) (.cells #[.slice none 0 0, .slice iA inp.length ic, .int .i64 st, .int .i64 0] tCrs) _).2.2.2.2.mono (by omega)).trans ⟨rfl, rfl, rfl, Nat.le_refl _, fun _ _ => rfl⟩), by omega⟩
      | exact ⟨W1.heap.size + 1 + 1 + 1, W1.heap.size + 1, W1.heap.size, rfl, mcv_new (Nat.le_refl _) HH.out.1 HH.out.2.1 (HH.out.2.2.2.trans (((four W1 (.map #[] 0) (.cells z tI1) (.cells #[.slice none 0 0, .slice iA inp.length ic, .int .i64 st, .int .i64 0] tCrs) _).2.2.2.2.mono (by omega)).trans ⟨rfl, rfl, rfl, Nat.le_refl _, fun _ _ => rfl⟩)) ((four W1 (.map #[] 0) (.cells z tI1) (.cells #[.slice none 0 0, .slice iA inp.length ic, .int .i64 st, .int .i64 0] tCrs) _).2.2.2.1) (by rw [HZ.out]; exact (four W1 (.map #[] 0) (.cells z tI1) (.cells #[.slice none 0 0, .slice iA inp.length ic, .int .i64 st, .int .i64 0] tCrs) _).2.1) ((four W1 (.map #[] 0) (.cells z tI1) (.cells #[.slice none 0 0, .slice iA inp.length ic, .int .i64 st, .int .i64 0] tCrs) _).1) (by omega) (by omega) HH.out.2.2.1, HH.out.2.2.2.trans (((four W1 (.map #[] 0) (.cells z tI1) (.cells #[.slice none 0 0, .slice iA inp.length ic, .int .i64 st, .int .i64 0] tCrs) _).2.2.2.2.mono (by omega)).trans ⟨rfl, rfl, rfl, Nat.le_refl _, fun _ _ => rfl⟩), by omega⟩
end Go.Proofs.Ytgcjfbgfoiekmaa
