/-
  Layer parse: a list of places that grows; arguments.
-/
import Derived.Test.YtfaoiajhoifalaaGreatDoorParh
import Derived.Deep.AppendLies
namespace Go.Proofs.YtfaoiajhoifalaaGreatDoor
open Go.RowKit
set_option linter.unusedVariables false
set_option linter.unusedSimpArgs false

/-- A row of places that a walk makes: none of the nodes' own. -/
structure Acc (X : Rdr) (w W : World) (ns : List NV) (g n cp : Nat) (l : List Nat) : Prop where
  row : W.ownsRow X.base tI 1 (.slice (some ⟨g, 0, none⟩) n cp) l.length (kidCells l)
  new : w.heap.size ≤ g
  apart : ∀ x ∈ ns, x.v.ownBlock ≠ some g
theorem Acc.len {X : Rdr} {w W : World} {ns : List NV} {g n cp : Nat} {l : List Nat} (h : Acc X w W ns g n cp l) : n = l.length := by
  rcases h.row.2 with ⟨hv, _⟩ | ⟨g', cap, cur, hv, _⟩
  · cases hv
  · simp at hv; exact hv.2.1
theorem Acc.lt {X : Rdr} {w W : World} {ns : List NV} {g n cp : Nat} {l : List Nat} (h : Acc X w W ns g n cp l) : X.base ≤ g ∧ g < W.heap.size := h.row.lt g rfl
theorem Acc.blk {X : Rdr} {w W : World} {ns : List NV} {g n cp : Nat} {l : List Nat} (h : Acc X w W ns g n cp l) : ∃ cs, W.heap[g]? = some (.cells cs tI (0, 0)) := by
  rcases h.row.2 with ⟨hv, _⟩ | ⟨g', cap, cur, hv, _, hb, _⟩
  · cases hv
  · simp at hv; exact ⟨cur, by rw [hv.1]; exact hb⟩

theorem At.grown {X : Rdr} {W w' : World} {s : St} {ns : List NV} {u : Value} {g : Nat} {cs : Array Value} {row : Option Nat} (h : At X W s ns u) (hr : row = none ∨ row = some g) (hb : W.heap[g]? = some (.cells cs tI (0, 0))) (hbase : X.base ≤ g) (ha : ∀ x ∈ ns, x.v.ownBlock ≠ some g)
    (hg : W.grownBy w' row) : At X w' s ns u := by
  have hk : ∀ i, i < W.heap.size → i ≠ g → w'.heap[i]? = W.heap[i]? := fun i hi hne => hg.block i hi (fun e => by rcases hr with hr | hr <;> rw [hr] at e <;> cases e; exact hne rfl)
  have h1 := h.hb
  have h2 := h.blk.lt
  exact {
    blk := (hk _ h.blk.lt (fun e => by have h3 := h.blk; unfold Blk at h3; rw [e, hb] at h3; cases h3)).trans h.blk
    suf := h.suf
    len := h.len
    toks := h.toks.keep fun i o hi => World.cell?_of_block (a := ⟨i, o, none⟩) (hk i (by omega) (by omega))
    txt := h.txt
    fin := h.fin
    cnt := h.cnt
    max := h.max
    rows := row_keep h.rows fun i hi => hk i (h.rows.lt i hi).2 fun e => by
      rcases h.rows.2 with ⟨hv, _⟩ | ⟨g', cap, cur, hv, _, hgb, _⟩
      · rw [hv] at hi; simp [Value.ownBlock] at hi
      · rw [hv] at hi
        simp [Value.ownBlock] at hi
        rw [hi, e, hb] at hgb
        cases hgb
    kids := fun x hx => row_keep (h.kids x hx) fun i hi => hk i ((h.kids x hx).lt i hi).2 fun e => ha x hx (by rw [hi, e])
    hb := h.hb
    env := h.env.same (hk _ h.env.szY (by have := h.szE; omega)) hg.size
    szE := h.szE
    mph := (hk _ (Array.getElem?_eq_some_iff.1 h.mph).1 (fun e => by
      have h3 := h.mph
      rw [e, hb] at h3
      have h4 := h.mpc
      rw [← Option.some.inj h3] at h4
      simp [Obj.isCells] at h4)).trans h.mph
    mpc := h.mpc }
/-- A place more. -/
theorem Acc.push {X : Rdr} {w W w1 : World} {v u : Value} {s : St} {ns : List NV} {g n cp g1 cp1 : Nat} {l : List Nat} {x : Nat} (h : Acc X w W ns g n cp l) (hC : Cur X w v W s ns u) {o : Obj}
    (hr : w1.ownsRow X.base tI 1 (.slice (some ⟨g1, 0, none⟩) (n + 1) cp1) (n + 1) (kidCells l ++ [.int .i64 (x : Nat)])) (hg : (W.alloc o).grownBy w1 (some g)) (hgl : some g = some g1 ∨ g1 = W.heap.size + 1) :
    Cur X w v w1 s ns u ∧ Acc X w w1 ns g1 (n + 1) cp1 (l ++ [x]) := by
  obtain ⟨cs, hb⟩ := h.blk
  have hb1 : (W.alloc o).heap[g]? = some (.cells cs tI (0, 0)) := (heap_alloc_old _ _ _ h.lt.2).trans hb
  have hA := (hC.alloc o).at_.grown (.inr rfl) hb1 h.lt.1 h.apart hg
  have hlow : Below w.heap.size (W.alloc o) w1 := ⟨hg.os, hg.tape, hg.output, hg.size, fun k hk => hg.block k (Nat.lt_of_lt_of_le hk (hC.alloc o).kp.size) (fun e => by cases e; have := h.new; omega)⟩
  refine ⟨⟨hA, (hC.alloc o).kp.down hlow, (hC.alloc o).low.trans ⟨hg.os, hg.tape, hg.output, hg.size, fun k hk => hg.block k (by have := (hC.alloc o).at_.baselt; omega) (fun e => by cases e; have := h.lt.1; omega)⟩⟩, ⟨?_, ?_, ?_⟩⟩
  · have hl := h.len
    have e1 : kidCells (l ++ [x]) = kidCells l ++ [.int .i64 (x : Nat)] := by simp [kidCells]
    rw [e1, List.length_append, ← hl]
    exact hr
  · rcases hgl with e | e
    · cases e; exact h.new
    · have := hC.kp.size; omega
  · intro y hy e
    rcases hgl with e1 | e1
    · cases e1; exact h.apart y hy e
    · have := ((hC.at_.kids y hy).lt g1 e).2
      omega
/-- It stays so while nodes are made. -/
theorem Acc.kept {X : Rdr} {w W W' : World} {u u' : Value} {s : St} {ns nk : List NV} {g n cp c : Nat} {l : List Nat} {a : Fo} (h : Acc X w W ns g n cp l) (hA : At X W s ns u) (hk : Kp X W u W' u') (hF : Fl W nk a c) : Acc X w W' (ns ++ nk) g n cp l :=
  ⟨kid_kept hA h.row hk, h.new, fun x hx e => (List.mem_append.1 hx).elim (fun hx => h.apart x hx e) fun hx => by have := hF.new x hx g e; have := h.lt.2; omega⟩
theorem Acc.go {X : Rdr} {w W W' : World} {ns : List NV} {g n cp : Nat} {l : List Nat} (h : Acc X w W ns g n cp l) (hb : Below W.heap.size W W') : Acc X w W' ns g n cp l :=
  ⟨row_keep h.row fun i hi => hb.block _ (h.row.lt i hi).2, h.new, h.apart⟩
theorem Loc.grown {X : Rdr} {W W' : World} {u : Value} {j g : Nat} {t : TypeId} {cs : Array Value} (h : Loc X W u j t cs) (hg : W.grownBy W' (some g)) (hne : j ≠ g) : Loc X W' u j t cs :=
  ⟨(hg.block j h.blk.lt (fun e => by cases e; exact hne rfl)).trans h.blk, h.neb, h.neo, h.base⟩
theorem Acc.set_ {X : Rdr} {w W : World} {ns : List NV} {g n cp : Nat} {l : List Nat} (h : Acc X w W ns g n cp l) {j : Nat} (hne : g ≠ j) (o : Nat) (x : Value) : Acc X w (W.setCell ⟨j, o, none⟩ x) ns g n cp l :=
  ⟨row_keep h.row fun i hi => Below.heap_setCell W _ _ i (by simp [Value.ownBlock] at hi; simp; omega), h.new, h.apart⟩
theorem Acc.one {X : Rdr} {w W : World} {v u : Value} {s : St} {ns : List NV} (h : Cur X w v W s ns u) (x : Nat) : Acc X w (W.alloc (.cells #[.int .i64 (x : Nat)] tI)) ns W.heap.size 1 1 [x] :=
  ⟨World.ownsRow_lit (base := X.base) (e := tI) (size := 1) W #[.int .i64 (x : Nat)] 1 h.at_.baselt (by decide) rfl, h.kp.size, fun y hy e => by have := ((h.at_.kids y hy).lt _ e).2; omega⟩
theorem Fo.len_size (a : Fo) : a.len ≤ a.size := by
  induction a with
  | nil => simp [Fo.len, Fo.size]
  | cons h k r _ ih => simp only [Fo.len, Fo.size]; omega
theorem infoI : (Tryz.prog.info? tI).map (fun i => (i.zero, i.size, i.bytes)) = some (some (.int .i64 0), 1, 8) := by kernel_rfl

/-- What stands behind an argument. -/
def tailM (e : Tok) (k d : Nat) (s : St) : Rs Fo := if isT e [44] s then run e k (.args d) s.nx else .ok .nil s
theorem argsB_tail {e : Tok} {k d : Nat} {s : St} : argsB e (run e k) d s = (run e k (.bin d 1) s).bind fun a s => (tailM e k d s).bind fun b s => .ok (a.app b) s := by
  unfold argsB
  congr 1
  funext a s1
  unfold tailM
  split
  · rfl
  · simp only [Rs.bind_ok, Fo.app_nil]
theorem Rs.bind_assoc {α β γ : Type} (r : Rs α) (f : α → St → Rs β) (g : β → St → Rs γ) : (r.bind f).bind g = r.bind fun a s => (f a s).bind g := by cases r <;> rfl

theorem Cur.rt2 {X : Rdr} {w W : World} {v u : Value} {s : St} {ns : List NV} {R : Rs Fo} {e : Ending} {w' : World} (h : Cur X w v W s ns u) (hr : RT X W ns u R e w') :
    (∃ no p, R = .er no p ∧ e = .panicked [{ v := .iface tF (faultV no p), recovered := false }] ∧ Below X.base w w') ∨
    (∃ hh k s' v' nk, R = .ok (Fo.one hh k) s' ∧ e = .returned (.int .i64 (ns.length + k.size : Nat)) ∧ Cur X w v w' s' (ns ++ nk) v' ∧ Kp X W u w' v' ∧ Fl W nk (Fo.one hh k) ns.length) := by
  cases R with
  | ok a s' => obtain ⟨v', nk, h', k, rfl, h2, h3, h4, h5⟩ := hr; exact .inr ⟨h', k, s', v', nk, rfl, h2, h.step h3 h4, h4, h5⟩
  | er no p => exact .inl ⟨no, p, rfl, hr.1, h.low.trans hr.2⟩
  | out => exact hr.elim

set_option maxHeartbeats 4000000 in
set_option maxRecDepth 100000 in
theorem arguments_any {X : Rdr} (n : Nat) (hE : ∀ j, j ≤ n → KEx X (run X.e j)) {w : World} {s : St} {ns : List NV} {v : Value} (h : At X w s ns v) (d : Nat) (hd : d ≤ 100)
    (hno : argsB X.e (run X.e n) d s ≠ .out) : Calls Tryz.prog 195 #[rd X, .int .i64 d] w (RA X w ns v (argsB X.e (run X.e n) d s)) := by
  have hC := Cur.start h
  obtain ⟨i0, hi, hz0, hz1, hz2⟩ := info_parts infoI
  obtain ⟨M, hM⟩ : ∃ M, argsB X.e (run X.e n) d s = M := ⟨_, rfl⟩
  rw [hM]
  rw [argsB_tail] at hM hno
  have HM := Lib.hid hM
  have HMo : Hid (M ≠ .out) := Lib.hid (by rw [← hM]; exact hno)
  have C0 := Lib.hid hC
  have hno1 := ne_out hno
  clear hM h hC hno
  go_enter Tryz.func195, Tryz.ntmps195
  go_wp2_with fail
  refine (hE n (Nat.le_refl _) d w s ns v hd C0.out.at_ hno1).mono ?_
  intro e w1 hR0
  have hR := C0.out.rd hR0
  rcases hR.cases with ⟨no, p, hm, rfl, hb⟩ | ⟨h1, k1, s1, v1, nk1, hm, rfl, hC, hK, hF⟩
  · have HE : M = .er no p := by rw [← HM.out, hm]; rfl
    have HH := Lib.hid (And.intro HE hb)
    clear HE hb hm
    go_wp2_with fail
    refine panic_end rfl ?_
    rw [HH.out.1]
    exact ⟨rfl, HH.out.2⟩
  have hM1 : M = (tailM X.e n d s1).bind fun b s => .ok ((Fo.one h1 k1).app b) s := by rw [← HM.out, hm]; rfl
  have C1 := Lib.hid hC
  have F1 := Lib.hid hF
  have HM1 := Lib.hid hM1
  have hrt : (Fo.one h1 k1).roots ns.length = [ns.length + k1.size] := rfl
  have A1 := Lib.hid (Acc.one hC (ns.length + k1.size))
  clear hm hC hK hR hR0 hF hM1 hno1
  go_wp2_with fail
  go_loopg [5] n (fun g s5 wx => ∃ (a : Fo) (s' : St) (nk : List NV) (u : Value) (b m cp : Nat), g ≤ n ∧ s5 = .slice (some ⟨b, 0, none⟩) m cp ∧ m ≤ 4000 ∧ Cur X w v wx s' (ns ++ nk) u ∧ Fl w nk a ns.length ∧ Acc X w wx (ns ++ nk) b m cp (a.roots ns.length) ∧ M = (tailM X.e g d s').bind fun b s => .ok (a.app b) s)
  case atStart => exact ⟨Fo.one h1 k1, s1, nk1, v1, w1.heap.size, 1, 1, Nat.le_refl _, rfl, by omega, C1.out.alloc _, F1.out, A1.out, HM1.out⟩
  case round =>
    obtain ⟨a, s', nk, u, b, m, cp, hg, rfl, hm4, hC, hF, hA, hM1⟩ := hrel
    have C2 := Lib.hid hC
    have F2 := Lib.hid hF
    have A2 := Lib.hid hA
    clear hC hF hA
    go_wp2_with fail
    refine (c_accept C2.out [44] (by simp)).mono ?_
    rintro e w3 ⟨rfl, hC, hK⟩
    have C3 := Lib.hid hC
    have A3 := Lib.hid (by have := A2.out.kept (nk := []) C2.out.at_ hK (Fl.nil _ 0); rwa [List.append_nil] at this : Acc X w w3 (ns ++ nk) b m cp (a.roots ns.length))
    clear hC hK
    cases hq : isT X.e [44] s'
    · have hE1 : M = .ok a s' := by rw [hM1]; simp only [tailM, hq, Bool.false_eq_true, if_false, Rs.bind_ok, Fo.app_nil]
      have ha : acc X.e [44] s' = s' := by simp [acc, hq]
      rw [ha] at C3
      have HE := Lib.hid hE1
      clear hE1 hM1 ha
      go_wp2_with fail
      go_ret
      rw [HE.out]
      exact ⟨u, nk, b, m, cp, rfl, C3.out.at_, C3.out.kp, F2.out, A3.out.row, A3.out.new, A3.out.apart⟩
    · have ha : acc X.e [44] s' = s'.nx := by simp [acc, hq]
      rw [ha] at C3
      cases gk with
      | zero => exact absurd (hM1.trans (by simp only [tailM, hq, if_true]; rfl)) HMo.out
      | succ j =>
      have hM2 : M = ((run X.e j (.bin d 1) s'.nx).bind fun a2 s2 => (tailM X.e j d s2).bind fun b s => .ok ((a.app a2).app b) s) := by
        rw [hM1]
        simp only [tailM, hq, if_true]
        show ((argsB X.e (run X.e j) d s'.nx).bind _) = _
        rw [argsB_tail, Rs.bind_assoc]
        congr 1
        funext a2 s2
        rw [Rs.bind_assoc]
        congr 1
        funext b2 s3
        simp only [Rs.bind_ok, Fo.app_assoc]
      have hno2 : run X.e j (.bin d 1) s'.nx ≠ .out := ne_out (by rw [← hM2]; exact HMo.out)
      have HM2 := Lib.hid hM2
      clear hM1 hM2 ha
      go_wp2_with fail
      refine (hE j (by omega) d w3 s'.nx (ns ++ nk) u hd C3.out.at_ hno2).mono ?_
      intro e w4 hR0
      rcases C3.out.rt2 hR0 with ⟨no, p, hm, rfl, hb⟩ | ⟨h2, k2, s2, v2, nk2, hm, rfl, hC, hK, hF⟩
      · have HE : M = .er no p := by rw [HM2.out, hm]; rfl
        have HH := Lib.hid (And.intro HE hb)
        clear HE hb hm
        go_wp2_with fail
        refine panic_end rfl ?_
        rw [HH.out.1]
        exact ⟨rfl, HH.out.2⟩
      have hnl : (ns ++ nk).length = ns.length + a.size := by rw [List.length_append, len_of_flat F2.out]
      rw [hnl] at hF ⊢
      have hA4 := A3.out.kept C3.out.at_ hK hF
      have hrow4 := hA4.row.alloc (.cells #[.int .i64 (ns.length + a.size + k2.size : Nat)] tI)
      rw [← hA4.len] at hrow4
      have hrt : (a.app (Fo.one h2 k2)).roots ns.length = a.roots ns.length ++ [ns.length + a.size + k2.size] := by rw [Fo.roots_app]; rfl
      have hsz := hC.at_.max
      have hcn := hC.at_.cnt
      have HX := Lib.hid (And.intro hC (And.intro hA4 (And.intro (flat2 F2.out (hF.old C3.out.kp.size)) (show M = (tailM X.e j d s2).bind fun b s => .ok ((a.app (Fo.one h2 k2)).app b) s by rw [HM2.out, hm]; rfl))))
      have hm2 : m + 1 ≤ 4000 := by
        have h1 := hA4.len
        rw [Fo.roots_length] at h1
        have h3 := Fo.len_size a
        rw [List.length_append, hnl] at hcn
        have h4 := len_of_flat hF
        have h5 : (Fo.one h2 k2).size = k2.size + 1 := by simp [Fo.one, Fo.size]
        omega
      have hbase := hC.at_.baselt
      have HR4 := Lib.hid hrow4
      have hnews : ∀ j u, [Value.int .i64 (ns.length + a.size + k2.size : Nat)][j]? = some u → (w4.alloc (.cells #[.int .i64 (ns.length + a.size + k2.size : Nat)] tI)).cell? ((⟨w4.heap.size, 0, none⟩ : Addr).add j) = some u :=
        World.news_of_block (cs := #[.int .i64 (ns.length + a.size + k2.size : Nat)]) (heap_alloc_new w4 _)
      have HN := Lib.hid hnews
      have HRT := Lib.hid hrt
      clear hm hC hK hF hR0 hno2 hA4 hrow4 hsz hcn hnl hnews hrt
      go_wp2_with (at_builtin; refine wpList_append_lies _ rfl _ _ 40 rfl X.base tI i0 _ 1 8 Tryz.underlying40 hi hz0 hz1 hz2 rfl (by decide) _ m _ rfl HR4.out ⟨w4.heap.size, 0, none⟩ 1 1 [Value.int .i64 (ns.length + a.size + k2.size : Nat)] rfl rfl HN.out (by simp [Value.oneCell']) (by decide) (by unfold maxLen; omega) (by omega) (by simp; omega) (w4.heap.size + 1) (by simp) ?_; intro g1 cp1 w5 hr5 hg5 hgl5 hlt5; have hp := HX.out.2.1.push HX.out.1 hr5 hg5 hgl5; rw [← HRT.out] at hp; have HP := Lib.hid hp; clear hp hr5 hg5 hgl5)
      go_roundg j
      case measure => omega
      case rel => exact ⟨a.app (Fo.one h2 k2), s2, nk ++ nk2, v2, g1, m + 1, cp1, by omega, rfl, hm2, by rw [← List.append_assoc]; exact HP.out.1, HX.out.2.2.1, by rw [← List.append_assoc]; exact HP.out.2, HX.out.2.2.2⟩
end Go.Proofs.YtfaoiajhoifalaaGreatDoor
