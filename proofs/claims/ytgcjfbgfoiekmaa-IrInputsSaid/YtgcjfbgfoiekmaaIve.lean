/-
  Layer ir: the walk of the function that lists what a call needs; all of 'needs'.
-/
import Derived.Test.YtgcjfbgfoiekmaaIvd
namespace Go.Proofs.Ytgcjfbgfoiekmaa
open Go Go.RowKit
set_option linter.unusedVariables false
set_option linter.unusedSimpArgs false

theorem nInf : (Try.prog.info? tNd).map (fun i => (i.zero, i.size, i.bytes)) = some (some (.agg #[.int .i64 0, .nilFunc]), 2, 16) := by kernel_rfl
theorem tNdI : tNd ≠ tI1 := by decide
/-- The closure of the k-th argument. -/
def clo1 (p q b : Nat) : Value := .func (.func 65) #[] #[.pointer (some ⟨p, 0, none⟩), .pointer (some ⟨q, 0, none⟩), .pointer (some ⟨b, 0, none⟩)]
def clo2 (p q : Nat) : Value := .func (.func 66) #[] #[.pointer (some ⟨p, 0, none⟩), .pointer (some ⟨q, 0, none⟩)]
def cnC (p q : Nat) (l : List (Int × Nat)) : List Value := l.flatMap fun x => [.int .i64 x.1, clo1 p q x.2]
theorem cnC_snoc (p q : Nat) (l : List (Int × Nat)) (x : Int × Nat) : cnC p q (l ++ [x]) = cnC p q l ++ [.int .i64 x.1, clo1 p q x.2] := by simp [cnC]
theorem cnC_len (p q : Nat) (l : List (Int × Nat)) : (cnC p q l).length = l.length * 2 := by
  induction l with
  | nil => rfl
  | cons x l ih => simp only [cnC, List.flatMap_cons, List.length_append, List.length_cons, List.length_nil] at *; omega
theorem cnC_at (p q : Nat) (l : List (Int × Nat)) (k : Nat) (x : Int × Nat) (h : l[k]? = some x) : (cnC p q l)[k * 2]? = some (.int .i64 x.1) ∧ (cnC p q l)[k * 2 + 1]? = some (clo1 p q x.2) := by
  induction l generalizing k with
  | nil => simp at h
  | cons a l ih =>
    have e : cnC p q (a :: l) = [.int .i64 a.1, clo1 p q a.2] ++ cnC p q l := by simp [cnC]
    rw [e]
    cases k with
    | zero => simp at h; subst h; exact ⟨rfl, rfl⟩
    | succ k =>
      simp at h
      obtain ⟨h1, h2⟩ := ih k h
      constructor
      · rw [List.getElem?_append_right (by simp; omega), show (k + 1) * 2 - [Value.int .i64 a.1, clo1 p q a.2].length = k * 2 by simp; omega]; exact h1
      · rw [List.getElem?_append_right (by simp; omega), show (k + 1) * 2 + 1 - [Value.int .i64 a.1, clo1 p q a.2].length = k * 2 + 1 by simp; omega]; exact h2
/-- The boxes of the arguments' places. -/
def Bxs (W : World) (B : Nat) (l : List (Int × Nat)) : Prop := ∀ (k : Nat) (x : Int × Nat), l[k]? = some x → B ≤ x.2 ∧ Blk W x.2 tI1 #[.int .i64 k]
theorem Bxs.kept {W W' : World} {B G : Nat} {l : List (Int × Nat)} (h : Bxs W B l) (hG : ∃ c, W.heap[G]? = some (.cells c tNd (0, 0))) (hg : W.grownBy W' (some G)) : Bxs W' B l := fun k x hx => by
  obtain ⟨h1, h2⟩ := h k x hx
  obtain ⟨c, hc⟩ := hG
  refine ⟨h1, h2.kept hg fun e => ?_⟩
  simp only [Option.some.injEq] at e
  have := (show W.heap[x.2]? = _ from h2).symm.trans (e ▸ hc)
  simp at this
  exact absurd this.2 (by decide)
theorem row_at {W : World} {base G n cap : Nat} {cs : List Value} (h : W.ownsRow base tNd 2 (.slice (some ⟨G, 0, none⟩) n cap) n cs) : (∃ c, W.heap[G]? = some (.cells c tNd (0, 0))) ∧ G < W.heap.size ∧ n ≤ cap ∧ cap ≤ maxLen ∧ ∀ j y, cs[j]? = some y → W.cell? ⟨G, 0 + j, none⟩ = some y := by
  rcases h.2 with ⟨hv, h0⟩ | ⟨g', cap', cur, hv, _, hb, hnc, hcm, hsz, hcur⟩
  · cases hv
  · cases hv
    refine ⟨⟨_, hb⟩, (Array.getElem?_eq_some_iff.1 hb).1, hnc, hcm, fun j y hy => ?_⟩
    rw [cell_of_row W G _ cur tNd (0, 0) hb, Nat.zero_add]
    rw [← hcur] at hy
    rw [List.getElem?_take] at hy
    split at hy
    · simpa using hy
    · cases hy

section
variable (p q : Nat)
/-- What the loop over the arguments has made. -/
structure CnR (W1 W : World) (G cap j : Nat) (args : List Int) (l : List (Int × Nat)) : Prop where
  lj : l.length = j
  as_ : l.map (·.1) = args.take j
  row : W.ownsRow W1.heap.size tNd 2 (.slice (some ⟨G, 0, none⟩) j cap) j (cnC p q l)
  bx : Bxs W W1.heap.size l
  low : Below W1.heap.size W1 W
end
theorem below_nn {w w' : World} (h : w.grownBy w' none) : Below w.heap.size w w' := ⟨h.os, h.tape, h.output, h.size, fun k hk => h.block k hk (by simp)⟩
theorem grown_low {W1 W W' : World} {G : Nat} (h : Below W1.heap.size W1 W) (hg : W.grownBy W' (some G)) (hG : W1.heap.size ≤ G) : Below W1.heap.size W1 W' :=
  h.trans ⟨hg.os, hg.tape, hg.output, hg.size, fun k hk => hg.block k (by have := h.size; omega) (fun e => by simp only [Option.some.injEq] at e; omega)⟩
theorem isNd_row {W : World} {base G n cap : Nat} {cs : List Value} {ok : Prop} {L : List (Int × (Int → Bool))} (h : W.ownsRow base tNd 2 (.slice (some ⟨G, 0, none⟩) n cap) n cs) (hL : L.length = n)
    (hx : ∀ (k : Nat) (x : Int × (Int → Bool)), L[k]? = some x → ∃ fv, cs[k * 2]? = some (.int .i64 x.1) ∧ cs[k * 2 + 1]? = some fv ∧ NeedV W ok fv x.2) : IsNd W ok (.slice (some ⟨G, 0, none⟩) n cap) L := by
  obtain ⟨-, h1, h2, h3, h4⟩ := row_at h
  refine ⟨_, cap, by rw [hL], by omega, h3, fun h => by (cases h), .inr ⟨G, 0, rfl, h1, fun k x hk => ?_⟩⟩
  obtain ⟨fv, e1, e2, e3⟩ := hx k x hk
  exact ⟨by have := h4 _ _ e1; simpa using this, fv, by have := h4 _ _ e2; simpa [Nat.add_assoc] using this, e3⟩
theorem cn_nth {W1 W : World} {G cap n cb : Nat} {args : List Int} {l : List (Int × Nat)} {w : World} {m : Mdl} {f : Cod} {i : Ins} {av : Value} (h : CnR w.heap.size (w.heap.size + 1) W1 W G cap n args l) (hn : args.length = n) (hi : i.args = args) (ho : i.op = 9) (hh : NeedHd w W1 cb m f i av)
    {W' : World} (hb : Below W1.heap.size W1 W') (hx : Bxs W' W1.heap.size l) (k : Nat) (x : Int × (Int → Bool)) (hk : (args.mapIdx fun k a => (a, fun t => t == at0 (fAt m i.n).regs k))[k]? = some x) :
    ∃ fv, (cnC w.heap.size (w.heap.size + 1) l)[k * 2]? = some (.int .i64 x.1) ∧ (cnC w.heap.size (w.heap.size + 1) l)[k * 2 + 1]? = some fv ∧ NeedV W' (OkI m f i) fv x.2 := by
  rw [List.getElem?_mapIdx] at hk
  cases ha : args[k]? with
  | none => rw [ha] at hk; cases hk
  | some a =>
    rw [ha] at hk
    simp only [Option.map_some, Option.some.injEq] at hk
    subst hk
    have hlt : k < args.length := (List.getElem?_eq_some_iff.1 ha).1
    have hl : k < l.length := by rw [h.lj]; omega
    obtain ⟨b, hb2⟩ : ∃ b, l[k]? = some (a, b) := by
      have := congrArg (·[k]?) h.as_
      simp only [List.getElem?_map, List.getElem?_take, if_pos (show k < n by omega), ha, List.getElem?_eq_getElem hl, Option.map_some, Option.some.injEq] at this
      exact ⟨l[k].2, by rw [List.getElem?_eq_getElem hl, ← this]⟩
    obtain ⟨e1, e2⟩ := cnC_at w.heap.size (w.heap.size + 1) l k _ hb2
    have hbx := (hx k _ hb2).2
    refine ⟨_, e1, e2, (need_call1 W' m f i av cb _ _ _ k (hh.c.on hb) (hh.p.on hb) (hh.q.on hb) hbx).imp fun ho2 => ?_⟩
    have h3 := ho2.c ho
    exact ⟨h3.1, by rw [hi] at h3; omega⟩
set_option maxHeartbeats 2000000 in
set_option maxRecDepth 100000 in
theorem callN_any (m : Mdl) (f : Cod) (i : Ins) (av : Value) (cb : Nat) (w : World) (hc : CkV w cb m f) (ha : IsI w w.heap.size av i.args) (hal : i.args.length ≤ 17592186043904) (ho : i.op = 9) : Calls Try.prog 53 #[.pointer (some ⟨cb, 0, none⟩), .agg (insA i av)] w (NeedsPost w m f i) := by
  have HH := Lib.hid (needHd i av hc)
  have HO := Lib.hid ho
  obtain ⟨P, hP⟩ : ∃ P, NeedsPost w m f i = P := ⟨_, rfl⟩
  have HP := Lib.hid hP
  rw [hP]
  have HA := Lib.hid ha
  obtain ⟨A0, c0, hav, hlc, hcm, hA0⟩ := ha.sl
  obtain ⟨n, hn⟩ : ∃ n, i.args.length = n := ⟨_, rfl⟩
  rw [hn] at hav hlc hal
  have HN := Lib.hid hn
  clear hc hP ha hn
  unfold insA at HH ⊢
  obtain ⟨op, ty, dst, a, b, nn, s, args⟩ := i
  simp only at ho HH HA HN ⊢
  subst ho
  subst hav
  have hs1 : IntKind.i64.wrap ((n : Int) + 1) = ((n + 1 : Nat) : Int) := by rw [IntWalk.i64_in _ (by omega)]; omega
  obtain ⟨i0, hi, hz0, hz1, hz2⟩ := info_parts nInf
  go_enter Try.func53, Try.ntmps53
  go_upto_region 1 with (fail)
  generalize (w.alloc (.cells #[.pointer (some ⟨cb, 0, none⟩)] tCp)).alloc (.cells #[.int .i64 9, .int .i64 ty, .int .i64 dst, .int .i64 a, .int .i64 b, .int .i64 nn, .string (str s), .slice A0 n c0] tIn) = W1 at *
  have q2 : W1.cell? ⟨w.heap.size + 1, 2, none⟩ = some (.int .i64 dst) := HH.out.q.cell 2
  have q7 : W1.cell? ⟨w.heap.size + 1, 7, none⟩ = some (.slice A0 n c0) := HH.out.q.cell 7
  have ql := HH.out.q.lt
  have q7' := q7
  have hb1 := HH.out.b
  have HA1 := Lib.hid (HA.out.below hb1)
  go_wp2_with (refine wpList_make_own _ rfl _ _ _ rfl W1.heap.size tNd i0 _ 2 Try.underlying85 hi hz0 hz1 _ _ _ (n + 1) rfl rfl (by first | rfl | omega) (by rw [hz2]; omega) (by unfold maxLen; omega) (Nat.le_refl _) ?_; intro w1 hown hgrow; have hl1 : Below W1.heap.size W1 w1 := below_nn hgrow; have q7 : w1.cell? ⟨w.heap.size + 1, 7, none⟩ = some (.slice A0 n c0) := (hl1.cell (p := ⟨w.heap.size + 1, 7, none⟩) ql).trans q7; have ql' : w.heap.size + 1 < w1.heap.size := by have := hl1.size; omega)
  have HQ2 := Lib.hid q2
  have HQ7 := Lib.hid q7'
  have HQL := Lib.hid ql
  clear q2 q7 ql' q7'
  obtain ⟨G, hG⟩ : ∃ G, W1.heap.size = G := ⟨_, rfl⟩
  have HG := Lib.hid hG
  have HR0 : Hid (CnR w.heap.size (w.heap.size + 1) W1 w1 G (n + 1) 0 args []) := Lib.hid ⟨rfl, rfl, by rw [← hG]; exact hown, fun k x hx => by simp at hx, hl1⟩
  rw [hG]
  clear hG hown hgrow hl1
  go_loopw [5, 16] (fun v5 v wr => ∃ j l, j ≤ n ∧ v = .int .i64 (j : Nat) ∧ v5 = .slice (some ⟨G, 0, none⟩) j (n + 1) ∧ CnR w.heap.size (w.heap.size + 1) W1 wr G (n + 1) j args l) (fun _ v _ => n - (intOf v).toNat)
  case atStart => exact ⟨0, [], by omega, rfl, rfl, HR0.out⟩
  case round =>
    obtain ⟨j, l, hj, rfl, rfl, hr⟩ := hrel
    have HR := Lib.hid hr
    by_cases hlt : j < n
    · have hjl : j < args.length := by rw [HN.out]; exact hlt
      obtain ⟨g, o, c9, hv9, hg, -, -, hx, hxw⟩ := (HA1.out.below (hr.low.mono HH.out.b.size)).at hjl
      simp only [Value.slice.injEq] at hv9
      obtain ⟨rfl, -, -⟩ := hv9
      have hx' : wr.cell? ⟨g, o + j, none⟩ = some (.int .i64 args[j]) := by simpa using hx
      have hlt' : (j : Int) < n := by omega
      have hs2 : IntKind.i64.wrap ((j : Int) + 1) = ((j + 1 : Nat) : Int) := by rw [IntWalk.i64_in _ (by omega)]; omega
      have htk := List.take_succ_eq_append_getElem hjl
      have HTK := Lib.hid htk
      have hgl : g < wr.heap.size := by have := hr.low.size; have := HG.out; have := HH.out.b.size; omega
      have q7 : wr.cell? ⟨w.heap.size + 1, 7, none⟩ = some (.slice (some ⟨g, o, none⟩) n c0) := by have := HQ7.out; rw [← (hr.low.cell (p := ⟨w.heap.size + 1, 7, none⟩) HQL.out)] at this; exact this
      generalize args[j] = aj at *
      have HNW : Hid (∀ (k : Nat) u, ([.int .i64 aj, clo1 w.heap.size (w.heap.size + 1) wr.heap.size] : List Value)[k]? = some u → ((wr.alloc (.cells #[.int .i64 (j : Nat)] tI1)).alloc (.cells #[.int .i64 aj, clo1 w.heap.size (w.heap.size + 1) wr.heap.size] tNd)).cell? ((⟨wr.heap.size + 1, 0, none⟩ : Addr).add k) = some u) := by
        refine Lib.hid fun k u hu => ?_
        have h3 := Blk.new (wr.alloc (.cells #[.int .i64 (j : Nat)] tI1)) tNd #[.int .i64 aj, clo1 w.heap.size (w.heap.size + 1) wr.heap.size]
        rw [show (wr.alloc (.cells #[.int .i64 (j : Nat)] tI1)).heap.size = wr.heap.size + 1 by simp] at h3
        rw [Addr.add_mid, Nat.zero_add, h3.cell]
        simpa using hu
      have HBX : Hid (Bxs ((wr.alloc (.cells #[.int .i64 (j : Nat)] tI1)).alloc (.cells #[.int .i64 aj, clo1 w.heap.size (w.heap.size + 1) wr.heap.size] tNd)) W1.heap.size (l ++ [(aj, wr.heap.size)])) := by
        refine Lib.hid fun k x hxx => ?_
        by_cases hk : k < l.length
        · rw [List.getElem?_append_left hk] at hxx
          obtain ⟨h1, h2⟩ := hr.bx k x hxx
          exact ⟨h1, (h2.alloc _).alloc _⟩
        · rw [List.getElem?_append_right (by omega)] at hxx
          have hk2 : k = j := by
            have := (List.getElem?_eq_some_iff.1 hxx).1
            have := hr.lj
            simp at *
            omega
          subst hk2
          rw [show k - l.length = 0 by have := hr.lj; omega] at hxx
          simp at hxx
          subst hxx
          exact ⟨hr.low.size, (Blk.new wr tI1 _).alloc _⟩
      have hrow : ((wr.alloc (.cells #[.int .i64 (j : Nat)] tI1)).alloc (.cells #[.int .i64 aj, clo1 w.heap.size (w.heap.size + 1) wr.heap.size] tNd)).ownsRow W1.heap.size tNd 2 (.slice (some ⟨G, 0, none⟩) j (n + 1)) j (cnC w.heap.size (w.heap.size + 1) l) := (hr.row.alloc _).alloc _
      have HROW := Lib.hid hrow
      have HLOW : Hid (Below W1.heap.size W1 ((wr.alloc (.cells #[.int .i64 (j : Nat)] tI1)).alloc (.cells #[.int .i64 aj, clo1 w.heap.size (w.heap.size + 1) wr.heap.size] tNd))) := Lib.hid ((hr.low.alloc hr.low.size _).alloc (by have := hr.low.size; simp; omega) _)
      clear hrow htk hr hx hxw hg
      unfold clo1 at HNW HROW HLOW HBX
      go_wp2_with (at_builtin; refine wpList_append_fits _ rfl _ _ 85 rfl W1.heap.size tNd i0 2 Try.underlying85 hi hz1 G j (n + 1) _ rfl HROW.out ⟨wr.heap.size + 1, 0, none⟩ 1 1 [.int .i64 aj, clo1 w.heap.size (w.heap.size + 1) wr.heap.size] rfl rfl HNW.out (by unfold clo1; simp [Value.oneCell']) (by omega) ?_; intro w2 hown2 hg2)
      have HO2 := Lib.hid hown2
      have HG2 := Lib.hid hg2
      clear hown2 hg2
      go_roundw
      case rel =>
        refine ⟨j + 1, l ++ [(aj, wr.heap.size)], by omega, by go_num, rfl, ⟨by simp [HR.out.lj], by rw [List.map_append, HR.out.as_]; exact HTK.out.symm, by rw [cnC_snoc]; exact HO2.out, HBX.out.kept (row_at HROW.out).1 HG2.out, grown_low HLOW.out HG2.out (by rw [HG.out]; exact Nat.le_refl _)⟩⟩
      case measure => simp [intOf]; omega
    · obtain rfl : n = j := by omega
      have q2 : wr.cell? ⟨w.heap.size + 1, 2, none⟩ = some (.int .i64 dst) := (hr.low.cell (p := ⟨w.heap.size + 1, 2, none⟩) HQL.out).trans HQ2.out
      have ql' : w.heap.size + 1 < wr.heap.size := by have := hr.low.size; have := HQL.out; omega
      have hnl : ∀ c : Bool, needL m f ⟨9, ty, dst, a, b, nn, s, args⟩ = (args.mapIdx fun k a => (a, fun t => t == at0 (fAt m nn).regs k)) ++ (if 0 ≤ dst then [(dst, fun t => t == (fAt m nn).ty)] else []) := fun _ => rfl
      have HNL := Lib.hid (hnl true)
      by_cases hd : 0 ≤ dst
      · have HD := Lib.hid hd
        have hd1 : decide (0 ≤ dst) = true := by simpa using hd
        have HNW : Hid (∀ (k : Nat) u, ([.int .i64 dst, clo2 w.heap.size (w.heap.size + 1)] : List Value)[k]? = some u → (wr.alloc (.cells #[.int .i64 dst, clo2 w.heap.size (w.heap.size + 1)] tNd)).cell? ((⟨wr.heap.size, 0, none⟩ : Addr).add k) = some u) := by
          refine Lib.hid fun k u hu => ?_
          have h3 := Blk.new wr tNd #[.int .i64 dst, clo2 w.heap.size (w.heap.size + 1)]
          rw [Addr.add_mid, Nat.zero_add, h3.cell]
          simpa using hu
        have HROW : Hid ((wr.alloc (.cells #[.int .i64 dst, clo2 w.heap.size (w.heap.size + 1)] tNd)).ownsRow W1.heap.size tNd 2 (.slice (some ⟨G, 0, none⟩) n (n + 1)) n (cnC w.heap.size (w.heap.size + 1) l)) := Lib.hid (hr.row.alloc _)
        have HLOW : Hid (Below W1.heap.size W1 (wr.alloc (.cells #[.int .i64 dst, clo2 w.heap.size (w.heap.size + 1)] tNd))) := Lib.hid (hr.low.alloc hr.low.size _)
        have HBX : Hid (Bxs (wr.alloc (.cells #[.int .i64 dst, clo2 w.heap.size (w.heap.size + 1)] tNd)) W1.heap.size l) := Lib.hid fun k x hx => ⟨(hr.bx k x hx).1, (hr.bx k x hx).2.alloc _⟩
        clear hr hd hnl
        unfold clo2 at HNW HROW HLOW HBX
        go_wp2_with (at_builtin; refine wpList_append_fits _ rfl _ _ 85 rfl W1.heap.size tNd i0 2 Try.underlying85 hi hz1 G n (n + 1) _ rfl HROW.out ⟨wr.heap.size, 0, none⟩ 1 1 [.int .i64 dst, clo2 w.heap.size (w.heap.size + 1)] rfl rfl HNW.out (by unfold clo2; simp [Value.oneCell']) (by omega) ?_; intro w2 hown2 hg2)
        have hlw := grown_low HLOW.out hg2 (by rw [HG.out]; exact Nat.le_refl _)
        have hbx := HBX.out.kept (row_at HROW.out).1 hg2
        have HF := Lib.hid (And.intro hown2 (And.intro hlw hbx))
        clear hown2 hg2 hlw hbx
        first
          | go_ret
          | skip
        rw [← HP.out]
        refine ⟨_, rfl, ?_, HH.out.b.trans (HF.out.2.1.mono HH.out.b.size)⟩
        rw [HNL.out, if_pos HD.out]
        refine isNd_row HF.out.1 (by simp [HN.out]) fun k x hk => ?_
        by_cases hkn : k < n
        · rw [List.getElem?_append_left (by simp [HN.out]; omega)] at hk
          obtain ⟨fv, e1, e2, e3⟩ := cn_nth (i := ⟨9, ty, dst, a, b, nn, s, args⟩) HR.out HN.out rfl rfl HH.out HF.out.2.1 HF.out.2.2 k x hk
          exact ⟨fv, by rw [List.getElem?_append_left (by rw [cnC_len, HR.out.lj]; omega)]; exact e1, by rw [List.getElem?_append_left (by rw [cnC_len, HR.out.lj]; omega)]; exact e2, e3⟩
        · rw [List.getElem?_append_right (by simp [HN.out]; omega)] at hk
          have hkk : k = n := by
            have := (List.getElem?_eq_some_iff.1 hk).1
            simp [HN.out] at this
            omega
          subst hkk
          simp [HN.out] at hk
          subst hk
          refine ⟨clo2 w.heap.size (w.heap.size + 1), ?_, ?_, (need_call2 _ m f ⟨9, ty, dst, a, b, nn, s, args⟩ _ cb _ _ (HH.out.c.on HF.out.2.1) (HH.out.p.on HF.out.2.1) (HH.out.q.on HF.out.2.1)).imp fun h => (h.c rfl).1⟩
          · rw [List.getElem?_append_right (by rw [cnC_len, HR.out.lj]; omega), cnC_len, HR.out.lj, Nat.sub_self]; rfl
          · rw [List.getElem?_append_right (by rw [cnC_len, HR.out.lj]; omega), cnC_len, HR.out.lj, show k * 2 + 1 - k * 2 = 1 by omega]; rfl
      · have HD := Lib.hid hd
        have hd1 : decide (0 ≤ dst) = false := by simpa using hd
        clear hr hd hnl
        go_wp2_with fail
        first
          | go_ret
          | skip
        rw [← HP.out]
        refine ⟨_, rfl, ?_, HH.out.b.trans (HR.out.low.mono HH.out.b.size)⟩
        rw [HNL.out, if_neg (by have := HD.out; omega), List.append_nil]
        exact isNd_row HR.out.row (by simp [HN.out]) fun k x hk => cn_nth (i := ⟨9, ty, dst, a, b, nn, s, args⟩) HR.out HN.out rfl rfl HH.out HR.out.low HR.out.bx k x hk
set_option maxHeartbeats 1000000 in
set_option maxRecDepth 100000 in
theorem needs9_any (m : Mdl) (f : Cod) (i : Ins) (av : Value) (cb : Nat) (w : World) (hc : CkV w cb m f) (ha : IsI w w.heap.size av i.args) (hal : i.args.length ≤ 17592186043904) (ho : i.op = 9) : Calls Try.prog 37 #[.pointer (some ⟨cb, 0, none⟩), .agg (insA i av)] w (NeedsPost w m f i) := by
  have HH := Lib.hid (needHd i av hc)
  have HCN := Lib.hid (callN_any m f i av cb _ HH.out.c (ha.on HH.out.b) hal ho)
  obtain ⟨P, hP⟩ : ∃ P, NeedsPost w m f i = P := ⟨_, rfl⟩
  have HP := Lib.hid hP
  rw [hP]
  clear hc hP ha
  unfold insA at HH HCN ⊢
  obtain ⟨op, ty, dst, a, b, n, s, args⟩ := i
  simp only at ho HH HCN ⊢
  subst ho
  go_enter Try.func37, Try.ntmps37
  go_upto_region 1 with (fail)
  generalize (w.alloc (.cells #[.pointer (some ⟨cb, 0, none⟩)] tCp)).alloc (.cells #[.int .i64 9, .int .i64 ty, .int .i64 dst, .int .i64 a, .int .i64 b, .int .i64 n, .string (str s), av] tIn) = W1 at *
  have p0 : W1.cell? ⟨w.heap.size, 0, none⟩ = some (.pointer (some ⟨cb, 0, none⟩)) := HH.out.p.cell 0
  have pl := HH.out.p.lt
  have q0 : W1.cell? ⟨w.heap.size + 1, 0, none⟩ = some (.int .i64 9) := HH.out.q.cell 0
  have q1 : W1.cell? ⟨w.heap.size + 1, 1, none⟩ = some (.int .i64 ty) := HH.out.q.cell 1
  have q2 : W1.cell? ⟨w.heap.size + 1, 2, none⟩ = some (.int .i64 dst) := HH.out.q.cell 2
  have q3 : W1.cell? ⟨w.heap.size + 1, 3, none⟩ = some (.int .i64 a) := HH.out.q.cell 3
  have q4 : W1.cell? ⟨w.heap.size + 1, 4, none⟩ = some (.int .i64 b) := HH.out.q.cell 4
  have q5 : W1.cell? ⟨w.heap.size + 1, 5, none⟩ = some (.int .i64 n) := HH.out.q.cell 5
  have q6 : W1.cell? ⟨w.heap.size + 1, 6, none⟩ = some (.string (str s)) := HH.out.q.cell 6
  have q7 : W1.cell? ⟨w.heap.size + 1, 7, none⟩ = some av := HH.out.q.cell 7
  have ql := HH.out.q.lt
  go_wp2_with fail
  refine HCN.out.mono ?_
  rintro e w2 ⟨v, rfl, hv, hb⟩
  have HV := Lib.hid (And.intro hv hb)
  clear hv hb
  go_wp2_with fail
  first
    | go_ret
    | skip
  rw [← HP.out]
  exact ⟨_, rfl, HV.out.1, HH.out.b.trans (HV.out.2.mono HH.out.b.size)⟩
theorem needs_any (m : Mdl) (f : Cod) (i : Ins) (av : Value) (cb : Nat) (w : World) (hc : CkV w cb m f) (ha : IsI w w.heap.size av i.args) (hal : i.args.length ≤ 17592186043904) (ho : 1 ≤ i.op ∧ i.op ≤ 11) : Calls Try.prog 37 #[.pointer (some ⟨cb, 0, none⟩), .agg (insA i av)] w (NeedsPost w m f i) := by
  have : i.op = 1 ∨ i.op = 2 ∨ i.op = 3 ∨ i.op = 4 ∨ i.op = 5 ∨ i.op = 6 ∨ i.op = 7 ∨ i.op = 8 ∨ i.op = 9 ∨ i.op = 10 ∨ i.op = 11 := by omega
  rcases this with h | h | h | h | h | h | h | h | h | h | h
  · exact needs1_any m f i av cb w hc h
  · exact needs2_any m f i av cb w hc h
  · exact needs3_any m f i av cb w hc h
  · exact needs4_any m f i av cb w hc h
  · exact needs5_any m f i av cb w hc h
  · exact needs6_any m f i av cb w hc h
  · exact needs7_any m f i av cb w hc h
  · exact needs8_any m f i av cb w hc h
  · exact needs9_any m f i av cb w hc ha hal h
  · exact needs10_any m f i av cb w hc h
  · exact needs11_any m f i av cb w hc h
end Go.Proofs.Ytgcjfbgfoiekmaa
