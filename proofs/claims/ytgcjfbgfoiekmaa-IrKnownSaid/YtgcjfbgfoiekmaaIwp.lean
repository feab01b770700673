/-
  IrKnown: blocks that stand, mains that are made and checked.
-/
import Derived.Test.YtgcjfbgfoiekmaaIwo
namespace Go.Proofs.Ytgcjfbgfoiekmaa
open Go Go.RowKit Go.Maps
set_option linter.unusedVariables false
set_option linter.unusedSimpArgs false

/-- Blocks of a call's own that stand. -/
def Has (w W : World) (L : List (Nat × TypeId × Array Value)) : Prop := Below w.heap.size w W ∧ ∀ x ∈ L, Blk W x.1 x.2.1 x.2.2
theorem Has.on {w W W' : World} {L : List (Nat × TypeId × Array Value)} (h : Has w W L) (hb : Below W.heap.size W W') : Has w W' L := ⟨h.1.trans (hb.mono h.1.size), fun x hx => (h.2 x hx).on hb⟩
theorem Has.add {w W : World} {L : List (Nat × TypeId × Array Value)} (h : Has w W L) (t : TypeId) (cs : Array Value) {g : Nat} (hg : W.heap.size = g) : Has w (W.alloc (.cells cs t)) ((g, t, cs) :: L) := ⟨h.1.alloc h.1.size _, fun x hx => by
  rcases List.mem_cons.1 hx with rfl | hx
  · rw [← hg]; exact Blk.new W t cs
  · exact (h.2 x hx).alloc _⟩
theorem Has.get {w W : World} {L : List (Nat × TypeId × Array Value)} (h : Has w W L) (k : Nat) {x : Nat × TypeId × Array Value} (hk : L[k]? = some x) : Blk W x.1 x.2.1 x.2.2 := h.2 x (List.mem_of_getElem? hk)
theorem Has.nil (w : World) : Has w w [] := ⟨Below.refl _ _, by simp⟩

theorem all_w {l : List Ins} (h : l.all (fun i => decide (-1000000000000 ≤ i.op ∧ i.op ≤ 1000000000000) && decide (-1000000000000 ≤ i.ty ∧ i.ty ≤ 1000000000000) && decide (-1000000000000 ≤ i.dst ∧ i.dst ≤ 1000000000000) && decide (-1000000000000 ≤ i.a ∧ i.a ≤ 1000000000000) && decide (-1000000000000 ≤ i.b ∧ i.b ≤ 1000000000000) && decide (-1000000000000 ≤ i.n ∧ i.n ≤ 1000000000000)) = true) : ∀ i ∈ l, i.w := by
  intro i hi
  have := List.all_eq_true.1 h i hi
  simp only [Bool.and_eq_true, decide_eq_true_eq] at this
  exact ⟨iw_small this.1.1.1.1.1, iw_small this.1.1.1.1.2, iw_small this.1.1.1.2, iw_small this.1.1.2, iw_small this.1.2, iw_small this.2⟩
/-- 'ends' of instructions that were just laid. -/
theorem ends_lit (l : List Ins) (hw : ∀ i ∈ l, i.w) (ha : ∀ i ∈ l, i.args = []) (hl : l.length ≤ 100) {R : Ran} {ck : Int} (hR : endsR l = R ∧ chk (mE l) = ck) (W : World) :
    Calls Try.prog 15 #[.slice (some ⟨W.heap.size, 0, none⟩) l.length l.length] (W.alloc (.cells (l.flatMap fun x => insC x nilV).toArray tIn)) fun e w' => ∃ A c, e = .returned (.tuple #[.agg #[.slice A R.out.length c, .int .i64 R.status, .int .i64 R.code], .int .i64 ck]) ∧ RdV w' w'.heap.size (.slice A R.out.length c) R.out ∧ Below W.heap.size W w' := by
  have hb : Below W.heap.size W (W.alloc (.cells (l.flatMap fun x => insC x nilV).toArray tIn)) := (Below.refl _ _).alloc (Nat.le_refl _) _
  have hN := isN_flat (fun _ => nilV) (Blk.new W tIn (l.flatMap fun x => insC x nilV).toArray) (by omega) fun x hx => ⟨hw x hx, by rw [ha x hx]; exact isI_nil _ _⟩
  have h := ends_any l (fun i hi => by rw [ha i hi]; simp) _ _ hN
  rw [hR.1, hR.2] at h
  exact h.mono fun e w' ⟨A, c, h1, h2, h3⟩ => ⟨A, c, h1, h2, hb.trans (h3.mono hb.size)⟩
theorem la_e (W : World) : Calls Try.prog 15 #[.slice (some ⟨W.heap.size, 0, none⟩) 2 2] (W.alloc (.cells (la.flatMap fun x => insC x nilV).toArray tIn)) fun e w' => ∃ A c, e = .returned (.tuple #[.agg #[.slice A 0 c, .int .i64 1, .int .i64 44], .int .i64 0]) ∧ Below W.heap.size W w' :=
  (ends_lit la (all_w (by decide)) (by simp [la]) (by simp) Ra W).mono fun e w' ⟨A, c, h1, h2, h3⟩ => ⟨A, c, h1, h3⟩
theorem lb_e (W : World) : Calls Try.prog 15 #[.slice (some ⟨W.heap.size, 0, none⟩) 5 5] (W.alloc (.cells (lb.flatMap fun x => insC x nilV).toArray tIn)) fun e w' => ∃ A c, e = .returned (.tuple #[.agg #[.slice A 0 c, .int .i64 1, .int .i64 44], .int .i64 0]) ∧ Below W.heap.size W w' :=
  (ends_lit lb (all_w (by decide)) (by simp [lb]) (by simp) Rb W).mono fun e w' ⟨A, c, h1, h2, h3⟩ => ⟨A, c, h1, h3⟩
theorem lc_e (W : World) : Calls Try.prog 15 #[.slice (some ⟨W.heap.size, 0, none⟩) 2 2] (W.alloc (.cells (lc.flatMap fun x => insC x nilV).toArray tIn)) fun e w' => ∃ A c, e = .returned (.tuple #[.agg #[.slice A 0 c, .int .i64 2, .int .i64 3], .int .i64 0]) ∧ Below W.heap.size W w' :=
  (ends_lit lc (all_w (by decide)) (by simp [lc]) (by simp) Rc W).mono fun e w' ⟨A, c, h1, h2, h3⟩ => ⟨A, c, h1, h3⟩
theorem ld_e (W : World) : Calls Try.prog 15 #[.slice (some ⟨W.heap.size, 0, none⟩) 1 1] (W.alloc (.cells (ld.flatMap fun x => insC x nilV).toArray tIn)) fun e w' => ∃ A c, e = .returned (.tuple #[.agg #[.slice A 0 c, .int .i64 2, .int .i64 1], .int .i64 0]) ∧ Below W.heap.size W w' :=
  (ends_lit ld (all_w (by decide)) (by simp [ld]) (by simp) Rd W).mono fun e w' ⟨A, c, h1, h2, h3⟩ => ⟨A, c, h1, h3⟩
theorem lf_e (W : World) : Calls Try.prog 15 #[.slice (some ⟨W.heap.size, 0, none⟩) 9 9] (W.alloc (.cells (lf.flatMap fun x => insC x nilV).toArray tIn)) fun e w' => ∃ A c, e = .returned (.tuple #[.agg #[.slice A 3 c, .int .i64 1, .int .i64 1], .int .i64 0]) ∧ RdV w' w'.heap.size (.slice A 3 c) [300, -7, 0] ∧ Below W.heap.size W w' :=
  (ends_lit lf (all_w (by decide)) (by simp [lf]) (by simp) Rf W).mono fun e w' ⟨A, c, h1, h2, h3⟩ => ⟨A, c, h1, h2, h3⟩

def avB (H : Nat) (x : Ins) : Value := match x.args with | [] => nilV | _ => .slice (some ⟨H, 0, none⟩) 1 1
theorem bad_args : ∀ x ∈ badL, x.args = [] ∨ x.args = [0] := by decide
theorem bad_isN {V : World} {H : Nat} (q0 : Blk V H tI1 #[.int .i64 0]) (q1 : Blk V (H + 1) tIn (badL.flatMap fun x => insC x (avB H x)).toArray) : IsN V V.heap.size (.slice (some ⟨H + 1, 0, none⟩) 15 15) badL :=
  isN_flat (l := badL) (avB H) q1 (by simp [badL]) fun x hx => ⟨all_w (l := badL) (by decide) x hx, by
    unfold avB
    rcases bad_args x hx with h | h
    · rw [h]; exact isI_nil _ _
    · rw [h]
      exact isI_flat (l := [0]) q0 (by simp) (by intro x hx; obtain rfl : x = 0 := by simpa using hx
                                                 exact iw_small (by decide))⟩
/-- 'ends' of one instruction that was just laid. -/
theorem ends_one (x : Ins) (av : Value) (W : World) (hw : x.w) (ha : IsI W W.heap.size av x.args) (hl : x.args.length ≤ argMax) {ck : Int} (hc : chk (mE [x]) = ck) :
    Calls Try.prog 15 #[.slice (some ⟨W.heap.size, 0, none⟩) 1 1] (W.alloc (.cells (insC x av).toArray tIn)) fun e w' => ∃ A n c s k, e = .returned (.tuple #[.agg #[.slice A n c, .int .i64 s, .int .i64 k], .int .i64 ck]) ∧ Below W.heap.size W w' := by
  have hb : Below W.heap.size W (W.alloc (.cells (insC x av).toArray tIn)) := (Below.refl _ _).alloc (Nat.le_refl _) _
  have hN : IsN (W.alloc (.cells (insC x av).toArray tIn)) (W.alloc (.cells (insC x av).toArray tIn)).heap.size (.slice (some ⟨W.heap.size, 0, none⟩) 1 1) [x] := isN_flat (l := [x]) (fun _ => av) (Blk.new W tIn _) (by simp) fun y hy => by
    obtain rfl : y = x := by simpa using hy
    exact ⟨hw, ha.on hb⟩
  have h := ends_any [x] (fun i hi => by
    obtain rfl : i = x := by simpa using hi
    exact hl) _ _ hN
  rw [hc] at h
  exact h.mono fun e w' ⟨A, c, h1, h2, h3⟩ => ⟨A, _, c, _, _, h1, hb.trans (h3.mono hb.size)⟩
/-- main of registers and blocks that can be read. -/
theorem mainV_any (regs : List Int) (bl : List Blo) (rA bA : Option Addr) (rn rc bn bc : Nat) (V : World) (hr : IsI V V.heap.size (.slice rA rn rc) regs) (hb : IsB V V.heap.size (.slice bA bn bc) bl) :
    Calls Try.prog 16 #[.slice rA rn rc, .slice bA bn bc] V fun e w' => ∃ g, e = .returned (.agg #[.slice none 0 0, .slice (some ⟨g, 0, none⟩) 1 1]) ∧ IsM w' w'.heap.size (.slice none 0 0) (.slice (some ⟨g, 0, none⟩) 1 1) ⟨[], [mainC regs bl]⟩ ∧ Below V.heap.size V w' :=
  (mainR_any regs bl rA bA rn rc bn bc V).mono fun e w' ⟨g, h1, h2, h3, h4⟩ => ⟨g, h1, ⟨isG_nil _ _, isF_one (c := mainC regs bl) h2 ⟨iw_small (by simp [mainC]), iw_small (by simp [mainC])⟩ (hr.on h4) (hb.on h4)⟩, h4⟩
theorem int1_isI {V : World} {g : Nat} (t : Int) (ht : -1000 ≤ t ∧ t ≤ 1000) (q : Blk V g tI1 #[.int .i64 t]) : IsI V V.heap.size (.slice (some ⟨g, 0, none⟩) 1 1) [t] := isI_flat (l := [t]) q (by simp) (by
  intro x hx
  obtain rfl : x = t := by simpa using hx
  exact iw_small (by omega))
/-- main of one register and a block without instructions, which were just laid. -/
theorem mk_end (t : Int) (e : Eb) (ht : -1000 ≤ t ∧ t ≤ 1000) (he : e.w) (W : World) :
    Calls Try.prog 16 #[.slice (some ⟨W.heap.size, 0, none⟩) 1 1, .slice (some ⟨W.heap.size + 1, 0, none⟩) 1 1] ((W.alloc (.cells #[.int .i64 t] tI1)).alloc (.cells (bloC ⟨[], e⟩ nilV).toArray tBl)) fun e' w' => ∃ g, e' = .returned (.agg #[.slice none 0 0, .slice (some ⟨g, 0, none⟩) 1 1]) ∧ IsM w' w'.heap.size (.slice none 0 0) (.slice (some ⟨g, 0, none⟩) 1 1) ⟨[], [mainC [t] [⟨[], e⟩]]⟩ ∧ Below W.heap.size W w' := by
  have hb : Below W.heap.size W ((W.alloc (.cells #[.int .i64 t] tI1)).alloc (.cells (bloC ⟨[], e⟩ nilV).toArray tBl)) := ((Below.refl _ _).alloc (Nat.le_refl _) _).alloc (by simp) _
  have q2 : Blk ((W.alloc (.cells #[.int .i64 t] tI1)).alloc (.cells (bloC ⟨[], e⟩ nilV).toArray tBl)) (W.heap.size + 1) tBl (bloC ⟨[], e⟩ nilV).toArray := by
    have h := Blk.new (W.alloc (.cells #[.int .i64 t] tI1)) tBl (bloC ⟨[], e⟩ nilV).toArray
    rwa [show (W.alloc (.cells #[.int .i64 t] tI1)).heap.size = W.heap.size + 1 by simp] at h
  have hN : ∀ V, IsN V V.heap.size nilV [] := fun V => ⟨none, 0, rfl, Nat.le_refl _, by simp, fun _ => rfl, .inl rfl⟩
  exact (mainV_any [t] [⟨[], e⟩] _ _ _ _ _ _ _ (int1_isI t ht ((Blk.new W tI1 _).alloc _)) (isB_one q2 he (hN _))).mono fun e w' ⟨g, h1, h2, h3⟩ => ⟨g, h1, h2, hb.trans (h3.mono hb.size)⟩
theorem mk_self (W : World) :
    Calls Try.prog 16 #[.slice (some ⟨W.heap.size, 0, none⟩) 1 1, .slice (some ⟨W.heap.size + 2, 0, none⟩) 1 1] (((W.alloc (.cells #[.int .i64 1] tI1)).alloc (.cells (insC ⟨9, 0, -1, 0, 0, 0, [], []⟩ nilV).toArray tIn)).alloc (.cells (bloC ⟨[⟨9, 0, -1, 0, 0, 0, [], []⟩], ⟨3, 0, 0, 0⟩⟩ (.slice (some ⟨W.heap.size + 1, 0, none⟩) 1 1)).toArray tBl)) fun e' w' => ∃ g, e' = .returned (.agg #[.slice none 0 0, .slice (some ⟨g, 0, none⟩) 1 1]) ∧ IsM w' w'.heap.size (.slice none 0 0) (.slice (some ⟨g, 0, none⟩) 1 1) mSelf ∧ Below W.heap.size W w' := by
  have hb : Below W.heap.size W (((W.alloc (.cells #[.int .i64 1] tI1)).alloc (.cells (insC ⟨9, 0, -1, 0, 0, 0, [], []⟩ nilV).toArray tIn)).alloc (.cells (bloC ⟨[⟨9, 0, -1, 0, 0, 0, [], []⟩], ⟨3, 0, 0, 0⟩⟩ (.slice (some ⟨W.heap.size + 1, 0, none⟩) 1 1)).toArray tBl)) := (((Below.refl _ _).alloc (Nat.le_refl _) _).alloc (by simp) _).alloc (by simp; omega) _
  have q1 := (Blk.new (W.alloc (.cells #[.int .i64 1] tI1)) tIn (insC ⟨9, 0, -1, 0, 0, 0, [], []⟩ nilV).toArray).alloc (.cells (bloC ⟨[⟨9, 0, -1, 0, 0, 0, [], []⟩], ⟨3, 0, 0, 0⟩⟩ (.slice (some ⟨W.heap.size + 1, 0, none⟩) 1 1)).toArray tBl)
  rw [show (W.alloc (.cells #[.int .i64 1] tI1)).heap.size = W.heap.size + 1 by simp] at q1
  have q2 := Blk.new ((W.alloc (.cells #[.int .i64 1] tI1)).alloc (.cells (insC ⟨9, 0, -1, 0, 0, 0, [], []⟩ nilV).toArray tIn)) tBl (bloC ⟨[⟨9, 0, -1, 0, 0, 0, [], []⟩], ⟨3, 0, 0, 0⟩⟩ (.slice (some ⟨W.heap.size + 1, 0, none⟩) 1 1)).toArray
  rw [show ((W.alloc (.cells #[.int .i64 1] tI1)).alloc (.cells (insC ⟨9, 0, -1, 0, 0, 0, [], []⟩ nilV).toArray tIn)).heap.size = W.heap.size + 2 by simp] at q2
  have hN := isN_flat (l := [⟨9, 0, -1, 0, 0, 0, [], []⟩]) (fun _ => nilV) q1 (by simp) fun x hx => ⟨all_w (l := [⟨9, 0, -1, 0, 0, 0, [], []⟩]) (by decide) x hx, by
    obtain rfl : x = ⟨9, 0, -1, 0, 0, 0, [], []⟩ := by simpa using hx
    exact isI_nil _ _⟩
  exact (mainV_any [1] [⟨[⟨9, 0, -1, 0, 0, 0, [], []⟩], ⟨3, 0, 0, 0⟩⟩] _ _ _ _ _ _ _ (int1_isI 1 (by omega) (((Blk.new W tI1 _).alloc _).alloc _)) (isB_one q2 e3_w hN)).mono fun e w' ⟨g, h1, h2, h3⟩ => ⟨g, h1, h2, hb.trans (h3.mono hb.size)⟩
/-- A module of mains without arguments is small. -/
theorem small_of {m : Mdl} (h : m.f.all (fun f => f.bl.all fun b => b.code.all fun i => decide (i.args.length ≤ argMax)) = true) : SmM m := by
  intro f hf b hb i hi
  have h1 := List.all_eq_true.1 (List.all_eq_true.1 (List.all_eq_true.1 h f hf) b hb) i hi
  simpa using h1
/-- Part of a list. -/
theorem IsL.one {α : Type} {w : World} {B n : Nat} {g : Nat} {N C : Nat} {l : List α} {p : α → (Nat → Option Value) → Prop} (h : IsL w B n (.slice (some ⟨g, 0, none⟩) N C) l p) {k : Nat} {x : α} (hk : l[k]? = some x) {o c : Nat} (ho : o = k * n) (hc : 1 ≤ c) (hc' : c ≤ maxLen) :
    IsL w B n (.slice (some ⟨g, o, none⟩) 1 c) [x] p := by
  obtain ⟨A, c0, e, h1, h2, h3, h4⟩ := h
  simp only [Value.slice.injEq] at e
  obtain ⟨e1, e2, e3⟩ := e
  refine ⟨_, _, rfl, hc, hc', by simp, .inr ⟨g, o, rfl, ?_⟩⟩
  rcases h4 with rfl | ⟨g', o', e', hg, hx⟩
  · simp at hk
  · rw [e'] at e1
    simp only [Option.some.injEq, Addr.mk.injEq] at e1
    obtain ⟨rfl, rfl, -⟩ := e1
    refine ⟨hg, fun i y hi => ?_⟩
    obtain rfl : i = 0 := by
      have := (List.getElem?_eq_some_iff.1 hi).1
      simp at this
      omega
    obtain rfl : x = y := by simpa using hi
    have := hx k x hk
    simp only [Nat.zero_add] at this
    simp only [Nat.zero_mul, Nat.add_zero]
    rw [ho]
    exact this
/-- Three blocks laid one behind the other. -/
theorem blks3 (W : World) (a b c : Array Value) (t1 t2 t3 : TypeId) : Blk (((W.alloc (.cells a t1)).alloc (.cells b t2)).alloc (.cells c t3)) W.heap.size t1 a ∧ Blk (((W.alloc (.cells a t1)).alloc (.cells b t2)).alloc (.cells c t3)) (W.heap.size + 1) t2 b ∧ Blk (((W.alloc (.cells a t1)).alloc (.cells b t2)).alloc (.cells c t3)) (W.heap.size + 2) t3 c := by
  refine ⟨((Blk.new W t1 a).alloc _).alloc _, ?_, ?_⟩
  · have h := (Blk.new (W.alloc (.cells a t1)) t2 b).alloc (.cells c t3)
    rwa [show (W.alloc (.cells a t1)).heap.size = W.heap.size + 1 by simp] at h
  · have h := Blk.new ((W.alloc (.cells a t1)).alloc (.cells b t2)) t3 c
    rwa [show ((W.alloc (.cells a t1)).alloc (.cells b t2)).heap.size = W.heap.size + 2 by simp] at h
theorem mself_small : SmM mSelf := small_of (by decide)
theorem mloop_small : SmM mLoop := small_of (by decide)
theorem e1_w : (⟨1, 0, 0, 0⟩ : Eb).w := ⟨iw_small (by decide), iw_small (by decide), iw_small (by decide), iw_small (by decide)⟩
theorem oddL_w : ∀ x ∈ oddL, iw x.ty ∧ iw x.sz ∧ iw x.at_ := by
  intro x hx
  simp only [oddL, List.mem_cons, List.not_mem_nil, or_false] at hx
  rcases hx with rfl | rfl | rfl | rfl <;> exact ⟨iw_small (by decide), iw_small (by decide), iw_small (by decide)⟩
theorem Has.of {w W : World} (h : Below w.heap.size w W) : Has w W [] := ⟨h, by simp⟩
/-- Checking seven's main with one global that may not be. -/
theorem odd_chk {W : World} {g i c : Nat} {fv : Value} (hG : IsG W W.heap.size (.slice (some ⟨g, 0, none⟩) 4 4) oddL) (hF : IsF W W.heap.size fv m7.f) (hi : i < 4) {o : Nat} (ho : o = i * 4) (hc : 1 ≤ c) (hc' : c ≤ 4) :
    Calls Try.prog 7 #[.agg #[.slice (some ⟨g, o, none⟩) 1 c, fv]] W fun e w' => e = .returned (.int .i64 6) ∧ Below W.heap.size W w' := by
  have hil : i < oddL.length := by simpa [oddL] using hi
  have h1 : oddL[i]? = some (oddL.getD i default) := by rw [List.getD_eq_getElem?_getD, List.getElem?_eq_getElem hil]; rfl
  have hm : IsM W W.heap.size (.slice (some ⟨g, o, none⟩) 1 c) fv ⟨[oddL.getD i default], m7.f⟩ := ⟨IsL.one hG h1 ho hc (by unfold maxLen; omega), hF⟩
  have h := chk_any ⟨[oddL.getD i default], m7.f⟩ (fun f hf => m7_small f hf) _ _ W hm
  rwa [odd_6 ⟨i, hi⟩] at h
theorem bad_argl : ∀ x ∈ badL, x.args.length ≤ argMax := fun x hx => by
  rcases bad_args x hx with h | h <;> rw [h] <;> simp [argMax]
theorem chk_v {m : Mdl} (hs : SmM m) {k : Int} (hk : chk m = k) {W : World} {gv fv : Value} (h : IsM W W.heap.size gv fv m) : Calls Try.prog 7 #[.agg #[gv, fv]] W fun e w' => e = .returned (.int .i64 k) ∧ Below W.heap.size W w' := by
  have h2 := chk_any m hs _ _ W h
  rwa [hk] at h2
theorem isF_nil (w : World) (B : Nat) : IsF w B (.slice none 0 0) [] := ⟨none, 0, rfl, Nat.le_refl _, by simp, fun _ => rfl, .inl rfl⟩
/-- main's blocks, in memory. -/
theorem m7_blocks {W : World} {sv : Option Addr} {c : Nat} (h : IsF W W.heap.size (.slice sv 1 c) m7.f) : ∃ g o A n cc, sv = some ⟨g, o, none⟩ ∧ g < W.heap.size ∧ W.cell? ⟨g, o + 4, none⟩ = some (.slice A n cc) ∧ IsB W W.heap.size (.slice A n cc) [b7] := by
  obtain ⟨g, o, c', hv, hg, h1, h2, hw, rv, bv, hr, hb, hx⟩ := h.at (k := 0) (by simp [m7])
  simp only [Value.slice.injEq] at hv
  obtain ⟨A, cc, rfl, -⟩ := hb.sl
  refine ⟨g, o, A, _, cc, hv.1, hg, ?_, hb⟩
  have := hx 4 (.slice A (m7.f[0]).bl.length cc) rfl
  simpa using this
theorem run_fieldM (a b : Value) (w : World) : (Instr.field tMo (.agg #[a, b]) 1).run Try.prog w = .ok b w := by kernel_rfl
end Go.Proofs.Ytgcjfbgfoiekmaa
