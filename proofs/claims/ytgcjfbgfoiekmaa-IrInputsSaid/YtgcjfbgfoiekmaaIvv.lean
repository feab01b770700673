/-
  Layer ir: numbers stay in their bounds while a program runs; the frame of a call.
-/
import Derived.Test.YtgcjfbgfoiekmaaIvu
namespace Go.Proofs.Ytgcjfbgfoiekmaa
open Go Go.RowKit Go.Maps
set_option linter.unusedVariables false
set_option linter.unusedSimpArgs false

structure StW (s : Mst) : Prop where
  inp : ∀ x ∈ s.inp, iw x
  sc : ∀ x ∈ s.sc, iw x
  el : ∀ a i, iw (s.el a i)
def CodW (c : Cod) : Prop := ∀ b ∈ c.bl, ∀ i ∈ b.code, iw i.n
def MdW (m : Mdl) : Prop := ∀ c ∈ m.f, CodW c
def MoW : Mo → Prop
  | .call f a => ∀ x ∈ a, iw x
  | .blk c r p => (∀ x ∈ r, iw x) ∧ CodW c
  | .code r l => (∀ x ∈ r, iw x) ∧ ∀ i ∈ l, iw i.n
def RnW : Rn → Prop
  | .ok v s => (∀ x ∈ v, iw x) ∧ StW s
  | _ => True
theorem iw0 : iw 0 := iw_of (by simp)
theorem iw_getD {l : List Int} (h : ∀ x ∈ l, iw x) (k : Nat) : iw (l.getD k 0) := by
  rw [List.getD_eq_getElem?_getD]
  cases hh : l[k]? with
  | none => exact iw0
  | some v => exact h v (List.mem_of_getElem? hh)
theorem RnW.bind {r : Rn} {k : List Int → Mst → Rn} (h : RnW r) (h2 : ∀ v s, (∀ x ∈ v, iw x) → StW s → RnW (k v s)) : RnW (r.bind k) := by
  cases r with
  | ok v s => exact h2 v s h.1 h.2
  | er a b s => trivial
  | out => trivial
theorem stepM_w {s : Mst} (h : StW s) : RnW (stepM s) := by
  unfold stepM
  split
  · trivial
  · exact ⟨fun x hx => (by cases hx), ⟨h.1, h.2, h.3⟩⟩
theorem one_w {v : Int} {s : Mst} (h : StW s) (hv : iw v) : RnW (.ok [v] s) := ⟨fun x hx => by simp at hx; subst hx; exact hv, h⟩
theorem doM_w {m : Mdl} {r : List Int} {i : Ins} {s : Mst} (h : StW s) (hr : ∀ x ∈ r, iw x) (hi : iw i.n) : RnW (doM m r i s) := by
  have ha := at0_iw hr i.a
  have hb := at0_iw hr i.b
  unfold doM
  split; · exact one_w h hi
  split; · exact one_w h ha
  split
  · split
    · trivial
    · exact one_w h (bn_iw _ _ _ _ ha hb)
  split; · exact one_w h (wr_iw _ _)
  split
  · split
    · trivial
    · exact one_w h (h.el _ _)
  split
  · split
    · trivial
    · refine one_w ⟨h.1, h.2, fun a j => ?_⟩ iw0
      simp only [setEl]
      split
      · exact wr_iw _ _
      · exact h.el _ _
  split; · exact one_w h (at0_iw h.sc _)
  split
  · refine one_w ⟨h.1, fun x hx => ?_, h.3⟩ iw0
    rcases List.mem_or_eq_of_mem_set hx with h9 | rfl
    · exact h.sc _ h9
    · exact ha
  split; · exact one_w ⟨fun x hx => h.inp x (List.mem_of_mem_tail hx), h.2, h.3⟩ (iw_getD h.inp 0)
  split; · exact one_w ⟨h.1, h.2, h.3⟩ iw0
  exact one_w h iw0
theorem put0_w {r : List Int} {to v : Int} (hr : ∀ x ∈ r, iw x) (hv : iw v) : ∀ x ∈ put0 r to v, iw x := by
  intro x hx
  unfold put0 at hx
  split at hx
  · rcases List.mem_or_eq_of_mem_set hx with h9 | rfl
    · exact hr _ h9
    · exact hv
  · exact hr _ hx
theorem regs0_w {c : Cod} {a : List Int} (h : ∀ x ∈ a, iw x) : ∀ x ∈ regs0 c a, iw x := by
  intro x hx
  unfold regs0 at hx
  rcases List.mem_append.1 hx with h1 | h1
  · exact h _ (List.mem_of_mem_take h1)
  · rw [List.eq_of_mem_replicate h1]; exact iw0
theorem fAt_w {m : Mdl} (h : MdW m) (n : Int) : CodW (fAt m n) := by
  unfold fAt
  rw [List.getD_eq_getElem?_getD]
  cases hh : m.f[n.toNat]? with
  | none => intro b hb; cases hb
  | some v => exact h v (List.mem_of_getElem? hh)
theorem ex_w {m : Mdl} (hm : MdW m) : ∀ n md s, StW s → MoW md → RnW (ex m n md s) := by
  intro n
  induction n with
  | zero => intro md s _ _; trivial
  | succ n ih =>
    intro md s hs hd
    cases md with
    | call f a =>
      unfold ex
      split
      · trivial
      · exact ih (.blk (fAt m f) (regs0 (fAt m f) a) 0) _ ⟨hs.1, hs.2, hs.3⟩ ⟨regs0_w hd, fAt_w hm f⟩
    | blk c r p =>
      unfold ex
      have hb : ∀ i ∈ (c.bl.getD p.toNat default).code, iw i.n := by
        rw [List.getD_eq_getElem?_getD]
        cases hh : c.bl[p.toNat]? with
        | none => intro i hi; cases hi
        | some v => exact hd.2 v (List.mem_of_getElem? hh)
      refine (ih (.code r (c.bl.getD p.toNat default).code) s hs ⟨hd.1, hb⟩).bind fun v s hv hs => (stepM_w hs).bind fun _ s _ hs => ?_
      split
      · refine one_w ⟨hs.1, hs.2, hs.3⟩ ?_
        unfold retd
        split
        · exact iw0
        · exact at0_iw hv _
      · exact ih (.blk c v (nxt v (c.bl.getD p.toNat default).e)) s hs ⟨hv, hd.2⟩
    | code r l =>
      cases l with
      | nil => exact ⟨hd.1, hs⟩
      | cons i l =>
        unfold ex
        refine (stepM_w hs).bind fun _ s _ hs => RnW.bind (r := if i.op = 9 then ex m n (.call i.n (i.args.map (at0 r))) s else doM m r i s) ?_ fun v s hv hs => ih (.code _ l) s hs ⟨put0_w hd.1 (iw_getD hv 0), fun j hj => hd.2 j (by simp [hj])⟩
        split
        · exact ih (.call i.n (i.args.map (at0 r))) s hs (fun x hx => by
            obtain ⟨a, -, rfl⟩ := List.mem_map.1 hx
            exact at0_iw hd.1 a)
        · exact doM_w hs hd.1 (hd.2 i (by simp))
theorem IsL.all {α : Type} {w : World} {B n : Nat} {v : Value} {l : List α} {p : α → (Nat → Option Value) → Prop} (h : IsL w B n v l p) : ∀ x ∈ l, ∃ c, p x c := by
  intro x hx
  obtain ⟨k, hk, rfl⟩ := List.mem_iff_getElem.1 hx
  obtain ⟨g, o, c, _, _, _, _, hp⟩ := h.at hk
  exact ⟨_, hp⟩
theorem IsM.mdw {w : World} {B : Nat} {gv fv : Value} {m : Mdl} (h : IsM w B gv fv m) : MdW m := by
  intro c hc b hb i hi
  obtain ⟨_, _, rv, bv, _, h2, _⟩ := IsL.all h.f c hc
  obtain ⟨_, _, cv, h3, _⟩ := IsL.all h2 b hb
  obtain ⟨_, h4⟩ := IsL.all h3 i hi
  exact h4.1.n
theorem McV.stw {X : Mc} {k : Int} {w : World} {s : Mst} {ov : Value} (h : McV X k w s ov) : StW s := by
  obtain ⟨iv, -, hi⟩ := h.blk
  exact ⟨fun x hx => by obtain ⟨_, h⟩ := IsL.all hi x hx; exact h.2, h.scw, h.elw⟩

/-- What a call's body leaves alone: its registers are its own. -/
structure Kb (X : Mc) (rb : Nat) (w : World) (v : Value) (w' : World) (v' : Value) : Prop where
  os : w'.os = w.os
  tape : w'.tape = w.tape
  output : w'.output = w.output
  size : w.heap.size ≤ w'.heap.size
  block : ∀ i, i < w.heap.size → i ≠ X.b → i ≠ X.sb → i ≠ X.mb → i ≠ rb → some i ≠ v.ownBlock → w'.heap[i]? = w.heap[i]?
  own : v'.ownBlock = v.ownBlock ∨ ∃ g, v'.ownBlock = some g ∧ w.heap.size ≤ g
section
variable {X : Mc} {rb : Nat} {w w' : World} {k : Int} {s : Mst} {ov : Value} {r : List Int}
theorem Kb.of {v v' : Value} (h : Km X w v w' v') : Kb X rb w v w' v' := ⟨h.os, h.tape, h.output, h.size, fun i a b c d _ e => h.block i a b c d e, h.own⟩
theorem Kb.refl (X : Mc) (rb : Nat) (w : World) (v : Value) : Kb X rb w v w v := .of (.refl _ _ _)
theorem Kb.trans {a b c : World} {u v x : Value} (h : Kb X rb a u b v) (k : Kb X rb b v c x) : Kb X rb a u c x where
  os := k.os.trans h.os
  tape := k.tape.trans h.tape
  output := k.output.trans h.output
  size := Nat.le_trans h.size k.size
  block i hi h1 h2 h3 h5 h4 := by
    rw [k.block i (Nat.lt_of_lt_of_le hi h.size) h1 h2 h3 h5 ?_, h.block i hi h1 h2 h3 h5 h4]
    rcases h.own with e | ⟨g, e, hg⟩
    · rw [e]; exact h4
    · rw [e]; intro e2; simp only [Option.some.injEq] at e2; omega
  own := by
    rcases k.own with e | ⟨g, e, hg⟩
    · rcases h.own with e2 | ⟨g, e2, hg⟩
      · exact .inl (e.trans e2)
      · exact .inr ⟨g, e.trans e2, hg⟩
    · exact .inr ⟨g, e, Nat.le_trans h.size hg⟩
theorem Kb.low {v' : Value} (h : McV X k w s ov) (hb : X.base ≤ rb) (hk : Kb X rb w ov w' v') : Below X.base w w' := ⟨hk.os, hk.tape, hk.output, hk.size, fun i hi => by
  have := h.bb
  have := h.lt
  refine hk.block i (by omega) (by omega) (by omega) (by omega) (by omega) fun e => ?_
  have := (h.own i e.symm).1
  omega⟩
theorem McV.keep (h : McV X k w s ov) (hB : Below X.base w w') (h1 : w'.heap[X.b]? = w.heap[X.b]?) (h2 : w'.heap[X.sb]? = w.heap[X.sb]?) (h3 : w'.heap[X.mb]? = w.heap[X.mb]?) (h4 : ∀ i, ov.ownBlock = some i → w'.heap[i]? = w.heap[i]?) : McV X k w' s ov := by
  obtain ⟨iv, hb, hi⟩ := h.blk
  obtain ⟨n, D, hmp, he, hn⟩ := h.mp
  exact { h with
    blk := ⟨iv, h1.trans hb, hi.below hB⟩
    mod := h.mod.below hB
    out := rowKeep h.out h4
    sc := h2.trans h.sc
    mp := ⟨n, D, mapKeep hmp h3, he, hn⟩ }
/-- A register is written. -/
theorem RgV.set (hr : RgV X w rb r ov) (h : McV X k w s ov) {j : Nat} {v : Int} (hv : iw v) :
    RgV X (w.setCell ⟨rb, j, none⟩ (.int .i64 v)) rb (r.set j v) ov ∧ McV X k (w.setCell ⟨rb, j, none⟩ (.int .i64 v)) s ov ∧ Kb X rb w ov (w.setCell ⟨rb, j, none⟩ (.int .i64 v)) ov := by
  have hB : Below X.base w (w.setCell ⟨rb, j, none⟩ (.int .i64 v)) := (Below.refl _ _).setCell (p := ⟨rb, j, none⟩) hr.base _
  have hne := hr.ne
  refine ⟨⟨?_, ?_, hr.base, hr.ne, hr.nov⟩, h.keep hB (Below.heap_setCell _ _ _ _ hne.1.symm) (Below.heap_setCell _ _ _ _ hne.2.1.symm) (Below.heap_setCell _ _ _ _ hne.2.2.symm) (fun i hi => Below.heap_setCell _ _ _ _ (fun e => hr.nov (by rw [hi]; exact congrArg some e.symm))), ?_⟩
  · have := (show Blk w rb tI1 (intC r) from hr.blk).set_ j (.int .i64 v)
    rw [intC_set] at this
    exact this
  · intro x hx
    rcases List.mem_or_eq_of_mem_set hx with h9 | rfl
    · exact hr.wf _ h9
    · exact hv
  · exact ⟨rfl, rfl, rfl, by simp, fun i hi _ _ _ h5 _ => Below.heap_setCell _ _ _ _ h5, .inl rfl⟩
end
end Go.Proofs.Ytgcjfbgfoiekmaa
