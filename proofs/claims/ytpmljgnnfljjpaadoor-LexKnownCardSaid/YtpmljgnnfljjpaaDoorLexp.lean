/-
  Walks of layer lex: Print.
-/
import Derived.Test.YtpmljgnnfljjpaaDoorLexk
import Derived.Lib.AppendIntMem
import Derived.Lib.ItoaLen
namespace Go.Proofs.YtpmljgnnfljjpaaDoor
open Go.RowKit Go.Shelf
set_option linter.unusedVariables false
set_option linter.unusedSimpArgs false

attribute [local go_sem] Oper.semAt_some

/-- The text of a token. -/
def txt (t : Tok) : List UInt8 := if t.k = 2 then Lib.itoa t.n ++ t.s else t.s
/-- The texts of tokens; a TEnd has none. -/
def txts (l : List Tok) : List (List UInt8) := (l.filter fun t => decide (t.k ≠ 4)).map txt
def TokOk (t : Tok) : Prop := t.s.length ≤ 24 ∧ -9223372036854775808 ≤ t.n ∧ t.n ≤ 9223372036854775807

theorem Env.of_heap {w w' : World} (h : Env w) (hh : w'.heap = w.heap) : Env w' := by
  obtain ⟨tp, p, hr⟩ := h.rng
  exact ⟨(World.var?_heap hh _).trans h.tab, ⟨tp, p, (World.var?_heap hh _).trans hr⟩, (World.var?_heap hh _).trans h.sgn, by rw [hh]; exact h.szS, by rw [hh]; exact h.szT, by rw [hh]; exact h.szR⟩

theorem itoa_any (n : Int) (h0 : -9223372036854775808 ≤ n) (h1 : n ≤ 9223372036854775807) (w : World) (hE : Env w) :
    Calls Tryd.prog 38 #[.int .i64 n] w fun e w' => e = .returned (.string (str (Lib.itoa n))) ∧ Below w.heap.size w w' :=
  (Tryd.strconv_Itoa n h0 h1 w hE.tab).mono (by rintro e w' ⟨rfl, k, os, rfl⟩; exact ⟨rfl, Lib.below_grow _ _ (Nat.le_refl _) _ _⟩)

theorem txt_len {t : Tok} (h : TokOk t) : (txt t).length ≤ 45 := by
  obtain ⟨h1, h2, h3⟩ := h
  have h4 := Lib.itoa_length_le t.n h2 h3
  unfold txt
  split
  · rw [List.length_append]; omega
  · omega
theorem txts_snoc (l : List Tok) (t : Tok) : txts (l ++ [t]) = txts l ++ (if t.k = 4 then [] else [txt t]) := by
  unfold txts
  rw [List.filter_append, List.map_append]
  by_cases h : t.k = 4 <;> simp [h]

theorem str_append (a b : List UInt8) : str a ++ str b = str (a ++ b) := by
  apply eq_str
  simp [str]

set_option maxRecDepth 100000 in
set_option maxHeartbeats 4000000 in
theorem texts1_in (n : Nat) (hn : 1 ≤ n) (l Bn : Nat) (w0 : World) (hE : Env w0) (toks : List Tok) (m : Nat) (hm : toks.length = m) (hm2 : m ≤ 2000000) (A : Option Addr) (c : Nat) (hr : RdT w0 w0.heap.size A toks) (hok : ∀ t ∈ toks, TokOk t)
    (J Jx : List (List UInt8) → World → Prop) (W : World) (hJ : AbidesFrom W.heap.size J)
    (hY : ∀ pre (x : List UInt8) W1, x.length ≤ 45 → J pre W1 → pre.length < (txts toks).length → YieldAt Fence.wide (n - 1) Tryd.prog l #[.string (str x)] W1 fun e W' =>
      (e = .returned (.bool true) ∧ J (pre ++ [x]) W' ∧ Below w0.heap.size W1 W') ∨ (e = .returned (.bool false) ∧ Jx (pre ++ [x]) W'))
    (hB : Below w0.heap.size w0 W) (hBn : Boxed W Bn tL (.slice A m c)) (h0 : J [] W) :
    CallsIn Fence.wide n Tryd.prog 37 #[.func (.yield l) #[] #[], .pointer (some ⟨Bn, 0, none⟩)] W fun e W' => (∃ v, e = .returned v) ∧
      ((∃ ys, ys = txts toks ∧ J ys W') ∨ (∃ pre, pre <+: txts toks ∧ Jx pre W')) := by
  have hc0 := hBn.cell
  refine callsIn_of_wp Tryd.func37 rfl trivial ?_ rfl
  simp only [Tryd.ntmps37, List.size_toArray, List.length_cons, List.length_nil, Nat.reduceAdd, Nat.reduceSub, Array.replicate_succ, Array.replicate_zero, List.push_toArray, List.append_toArray, List.nil_append, List.cons_append]
  gi_wp2
  gi_loopw [8] (fun v wr => ∃ k : Nat, v = .int .i64 k ∧ k ≤ m ∧ J (txts (toks.take k)) wr ∧ Below w0.heap.size w0 wr) (fun v _ => m - (intOf v).toNat)
  case atStart => exact ⟨0, rfl, by omega, h0, hB⟩
  case round =>
    obtain ⟨k, rfl, hk, hJr, hbr⟩ := hrel
    by_cases hlt : k < m
    · obtain ⟨g, o, rfl, hg, x0, x1, x2, x3⟩ := (hr.below hbr).at_ (by omega : k < toks.length)
      have ht : toks.take (k + 1) = toks.take k ++ [toks[k]] := by rw [List.take_succ_eq_append_getElem (by omega)]
      have hd : toks = toks.take k ++ toks[k] :: toks.drop (k + 1) := by rw [← List.drop_eq_getElem_cons (by omega), List.take_append_drop]
      have hto := hok toks[k] (List.getElem_mem _)
      have htl := txt_len hto
      generalize toks[k] = t at *
      have HT := Lib.hid ht
      have HDD := Lib.hid hd
      have HLEN := Lib.hid htl
      clear htl
      clear ht hd
      have hbs := hbr.size
      have hgl : g < wr.heap.size := by omega
      have HJ := Lib.hid hJr
      have Hbr := Lib.hid hbr
      have HR := Lib.hid hr
      clear hJr hbr hr
      by_cases h4 : t.k = 4
      · have t4 : (t.k == 4) = true := by simp [h4]
        have HS : Hid (txts (toks.take (k + 1)) = txts (toks.take k)) := Lib.hid (by rw [HT.out, txts_snoc, if_pos h4, List.append_nil])
        clear h4
        gi_wp2
        go_roundw
        case rel => exact ⟨k + 1, by go_num, by omega, by rw [HS.out]; exact hJ _ _ _ none HJ.out (World.grownBy_alloc _ _ none) (fun r e => by cases e), Hbr.out.alloc hbs _⟩
        case measure => simp [intOf]; omega
      · have t4 : (t.k == 4) = false := by simpa using h4
        have HS : Hid (txts (toks.take (k + 1)) = txts (toks.take k) ++ [txt t]) := Lib.hid (by rw [HT.out, txts_snoc, if_neg h4])
        have hpre : txts (toks.take k) ++ [txt t] <+: txts toks := by rw [← HS.out]; exact ⟨txts (toks.drop (k + 1)), by rw [txts, txts, txts, ← List.map_append, ← List.filter_append, List.take_append_drop]⟩
        have hlen : (txts (toks.take k)).length < (txts toks).length := by have := hpre.length_le; rw [List.length_append] at this; simp at this; omega
        have HP := Lib.hid hpre
        have HL := Lib.hid hlen
        clear h4 hpre hlen
        by_cases h2 : t.k = 2
        · have t2 : (t.k == 2) = true := by simp [h2]
          have htx : txt t = Lib.itoa t.n ++ t.s := by rw [txt, if_pos h2]
          have HX := Lib.hid htx
          obtain ⟨o1, o2, o3⟩ := hto
          have hz := Lib.itoa_length_le t.n o2 o3
          have hzz : (str (Lib.itoa t.n)).size + (str t.s).size ≤ 9223372036854775807 := by rw [str_size, str_size]; omega
          have hadd := fun W : World => run_string_add_sum (P := Tryd.prog) W (str (Lib.itoa t.n)) (str t.s) hzz
          simp only [str_append] at hadd
          have hE1 : Env (wr.alloc (.cells #[.int .i64 t.k, .int .i64 t.p, .int .i64 t.n, .string (str t.s)] tE)) := hE.of (Hbr.out.alloc hbs _)
          have HEV := Lib.hid hE1
          have hmx : Tryd.prog.follows .mixedOrders = true := by kernel_rfl
          clear h2 htx hE1 hz
          gi_wp2
          gi_region_with_o (refine ⟨trivial, ?_⟩; gi_at_call 38; refine (callsIn_wide.2 (itoa_any t.n o2 o3 _ (by exact HEV.out.of_heap rfl))).mono ?_; rintro e w1 ⟨rfl, hb1⟩; obtain ⟨hcl, hfr⟩ := bcell hb1)
          all_goals
            have hbw : Below wr.heap.size wr w1 := (((Below.refl _ wr).alloc (Nat.le_refl _) _).drew).trans (hb1.mono (by simp))
            obtain ⟨fn, tmps, assign, body, hy, hR⟩ := hY (txts (toks.take k)) (txt t) w1 HLEN.out (hJ _ _ _ none HJ.out (grown_of_below hbw) (fun r e => by cases e)) HL.out
            rw [HX.out] at hy
            have HB1 := Lib.hid (Hbr.out.trans (hbw.mono hbs))
            clear hbw hb1 hcl hfr
            gi_wp2
            refine hR.mono ?_
            clear hR hy
            rintro e W3 (⟨rfl, hJ3, hk3⟩ | ⟨rfl, hJx3⟩)
            · have HJ3 := Lib.hid hJ3
              have HK3 := Lib.hid hk3
              clear hJ3 hk3
              gi_wp2
              go_roundw
              case rel => exact ⟨k + 1, by go_num, by omega, by rw [HS.out]; exact HJ3.out, HB1.out.trans HK3.out⟩
              case measure => simp [intOf]; omega
            · gi_wp2
              refine bodyPost_ret (results_none rfl _ _ _) rfl ?_
              exact ⟨⟨_, rfl⟩, .inr ⟨_, HP.out, hJx3⟩⟩
        · have t2 : (t.k == 2) = false := by simpa using h2
          have htx : txt t = t.s := by rw [txt, if_neg h2]
          obtain ⟨fn, tmps, assign, body, hy, hR⟩ := hY (txts (toks.take k)) (txt t) (wr.alloc (.cells #[.int .i64 t.k, .int .i64 t.p, .int .i64 t.n, .string (str t.s)] tE)) HLEN.out (hJ _ _ _ none HJ.out (World.grownBy_alloc _ _ none) (fun r e => by cases e)) HL.out
          rw [htx] at hy
          have hE1 := Hbr.out.alloc hbs (.cells #[.int .i64 t.k, .int .i64 t.p, .int .i64 t.n, .string (str t.s)] tE)
          have HB1 := Lib.hid hE1
          clear h2 htx hE1
          gi_wp2
          refine hR.mono ?_
          clear hR hy
          rintro e W3 (⟨rfl, hJ3, hk3⟩ | ⟨rfl, hJx3⟩)
          · have HJ3 := Lib.hid hJ3
            have HK3 := Lib.hid hk3
            clear hJ3 hk3
            gi_wp2
            go_roundw
            case rel => exact ⟨k + 1, by go_num, by omega, by rw [HS.out]; exact HJ3.out, HB1.out.trans HK3.out⟩
            case measure => simp [intOf]; omega
          · gi_wp2
            refine bodyPost_ret (results_none rfl _ _ _) rfl ?_
            exact ⟨⟨_, rfl⟩, .inr ⟨_, HP.out, hJx3⟩⟩
    · obtain rfl : k = m := by omega
      rw [← hm, List.take_length] at hJr
      gi_wp2
      go_end0
      exact ⟨⟨_, rfl⟩, .inl ⟨_, rfl, hJr⟩⟩

/-- Joined by one blank. -/
def jstep (a x : List UInt8) : List UInt8 := if a = [] then x else a ++ 32 :: x
def jn (l : List (List UInt8)) : List UInt8 := l.foldl jstep []
theorem jn_snoc (l : List (List UInt8)) (x : List UInt8) : jn (l ++ [x]) = jstep (jn l) x := by simp [jn]
theorem jn_len (l : List (List UInt8)) (h : ∀ x ∈ l, x.length ≤ 45) : (jn l).length ≤ l.length * 46 := by
  have key : ∀ (l : List (List UInt8)) (a : List UInt8), (∀ x ∈ l, x.length ≤ 45) → (l.foldl jstep a).length ≤ a.length + l.length * 46 := by
    intro l
    induction l with
    | nil => intro a _; simp
    | cons x l ih =>
      intro a h
      have h1 := ih (jstep a x) (fun y hy => h y (List.mem_cons_of_mem _ hy))
      have h2 := h x (by simp)
      have h3 : (jstep a x).length ≤ a.length + 46 := by
        unfold jstep
        split
        · omega
        · rw [List.length_append, List.length_cons]; omega
      rw [List.foldl_cons, List.length_cons]
      omega
  have := key l [] h
  simpa [jn] using this
theorem txts_len {l : List Tok} (h : ∀ t ∈ l, TokOk t) : ∀ x ∈ txts l, x.length ≤ 45 := by
  intro x hx
  obtain ⟨t, ht, rfl⟩ := List.mem_map.1 hx
  exact txt_len (h t (List.mem_filter.1 ht).1)

abbrev tB : TypeId := 50
abbrev tU : TypeId := 5

theorem IsB.kept {B b : Nat} {bs : List Value} {w w' : World} {row : Option Nat} (h : Lib.IsBuilderF tB tU B b bs w) (hg : w.grownBy w' row) (hr : ∀ r, row = some r → ∃ o : Obj, w.heap[r]? = some o ∧ o.isCells = false) : Lib.IsBuilderF tB tU B b bs w' := by
  have key : ∀ p, Lib.BuilderAtF tB tU B b p bs w → Lib.BuilderAtF tB tU B b p bs w' := by
    rintro p ⟨hB, v, hb, hown, hne⟩
    refine ⟨hB, v, ?_, hown.kept hg ?_, hne⟩
    · refine (hg.block b (Array.getElem?_eq_some_iff.1 hb).1 (fun e => ?_)).trans hb
      obtain ⟨o, ho, hc⟩ := hr b e.symm
      rw [hb] at ho; cases ho; cases hc
    · rcases hown.2 with ⟨rfl, _⟩ | ⟨g, cap, cur, fz, rfl, _, hgb, _⟩
      · exact .inl rfl
      · refine .inr fun e => ?_
        obtain ⟨o, ho, hc⟩ := hr g (by simpa [Value.ownBlock] using e.symm)
        rw [hgb] at ho; cases ho; cases hc
  exact h.elim (fun x => .inl (key _ x)) (fun x => .inr (key _ x))
theorem IsB.blk {B b : Nat} {bs : List Value} {w : World} (h : Lib.IsBuilderF tB tU B b bs w) : ∃ cs, w.heap[b]? = some (.cells cs tB (0, 0)) := by
  rcases h with ⟨_, v, hb, _⟩ | ⟨_, v, hb, _⟩ <;> exact ⟨_, hb⟩

theorem keeps_of {B b : Nat} {bs : List Value} {W W' : World} (h : Lib.IsBuilderF tB tU B b bs W) (hb : Below B W W') (hk : Lib.OthersKept tU (some b) W W') : KeepsOthers W W' := by
  obtain ⟨cs, hc⟩ := IsB.blk h
  refine ⟨hb.size, fun k o hk0 ho => hk k o hk0 (fun e => ?_) (fun c fz e => ?_)⟩
  · cases e; rw [hc] at hk0; cases hk0; cases ho
  · subst e; cases ho

theorem texts_in (n : Nat) (A : Option Addr) (m c : Nat) (w : World) :
    CallsIn Fence.wide n Tryd.prog 24 #[.slice A m c] w fun e w' => e = .returned (.func (.func 37) #[] #[.pointer (some ⟨w.heap.size, 0, none⟩)]) ∧ w' = w.alloc (.cells #[.slice A m c] tL) := by
  refine callsIn_of_wp Tryd.func24 rfl trivial ?_ rfl
  simp only [Tryd.ntmps24, List.size_toArray, List.length_cons, List.length_nil, Nat.reduceAdd, Nat.reduceSub, Array.replicate_succ, Array.replicate_zero, List.push_toArray, List.append_toArray, List.nil_append, List.cons_append]
  gi_wp2
  go_ret
  exact ⟨rfl, rfl⟩

/-- A short text. -/
abbrev Sh := { x : List UInt8 // x.length ≤ 45 }
def vals (l : List Sh) : List (List UInt8) := l.map (·.1)
theorem vals_snoc (l : List Sh) (x : Sh) : vals (l ++ [x]) = vals l ++ [x.1] := by simp [vals]

theorem texts_stops (n : Nat) (hn : 1 ≤ n) (Bn : Nat) (w0 : World) (hE : Env w0) (toks : List Tok) (m : Nat) (hm : toks.length = m) (hm2 : m ≤ 2000000) (A : Option Addr) (c : Nat) (hr : RdT w0 w0.heap.size A toks) (hok : ∀ t ∈ toks, TokOk t) (w : World) (hB : Below w0.heap.size w0 w) (hBn : Boxed w Bn tL (.slice A m c)) :
    SeqStopsK Fence.wide n Tryd.prog 37 #[.pointer (some ⟨Bn, 0, none⟩)] (fun x : Sh => #[.string (str x.1)]) (Below w0.heap.size) (fun ys => vals ys = txts toks) (fun pre => vals pre <+: txts toks) (txts toks).length w := fun l J Jx W hW hJ hJx hY h0 => by
  refine (texts1_in n hn l Bn w0 hE toks m hm hm2 A c hr hok (fun pre W => ∃ ys, vals ys = pre ∧ J ys W) (fun pre W => ∃ ys, vals ys = pre ∧ Jx ys W) W ?_ ?_ (hB.trans (hW.mono hB.size)) ((hW.block Bn hBn.lt).trans hBn) ⟨[], rfl, h0⟩).mono ?_
  · rintro pre X Y row ⟨ys, h1, h2⟩ hg hr
    exact ⟨ys, h1, hJ _ _ _ _ h2 hg hr⟩
  · rintro pre x W1 hx ⟨ys, rfl, h2⟩ hlen
    refine (hY ys ⟨x, hx⟩ W1 h2 (by rw [vals, List.length_map] at hlen; exact hlen)).mono ?_
    rintro e W' (⟨h3, h4, h5⟩ | ⟨h3, h4⟩)
    · exact .inl ⟨h3, ⟨_, vals_snoc _ _, h4⟩, h5⟩
    · exact .inr ⟨h3, ⟨_, vals_snoc _ _, h4⟩⟩
  · rintro e W' ⟨h1, ⟨zs, rfl, ys, h2, h3⟩ | ⟨pre, h2, ys, rfl, h3⟩⟩
    · exact ⟨h1, .inl ⟨ys, h2, h3⟩⟩
    · exact ⟨h1, .inr ⟨ys, h2, h3⟩⟩

def PrI (w : World) (pre : List Sh) (W : World) : Prop :=
  Lib.IsBuilderF tB tU w.heap.size w.heap.size (Lib.byteCells (jn (vals pre))) W ∧ Below w.heap.size w W
theorem PrI.own {w : World} {B : Nat} (hB : w.heap.size ≤ B) : OwnFrom B (PrI w) := by
  rintro pre W W' row ⟨h1, h2⟩ hg hr
  exact ⟨IsB.kept h1 hg (fun r e => (hr r e).2), ownFrom_below (β := Unit) (Nat.le_refl _) hB () W W' row h2 hg hr⟩

theorem fb_len (B b : Nat) (a : List UInt8) (w : World) (h : Lib.IsBuilderF tB tU B b (Lib.byteCells a) w) :
    Calls Tryd.prog 25 #[.pointer (some ⟨b, 0, none⟩)] w fun e w' => e = .returned (.int .i64 a.length) ∧ w = w' :=
  (Tryd.Builder_Len_f B b _ w h).mono (by rintro e w' ⟨rfl, rfl⟩; rw [Lib.byteCells_length]; exact ⟨rfl, rfl⟩)
theorem fb_str (B b : Nat) (a x : List UInt8) (w : World) (h : Lib.IsBuilderF tB tU B b (Lib.byteCells a) w) (hl : a.length + x.length ≤ 140737488355328) (hB : B ≤ w.heap.size) :
    Calls Tryd.prog 27 #[.pointer (some ⟨b, 0, none⟩), .string (str x)] w fun e w' => e = .returned (.tuple #[.int .i64 x.length, .nilIface]) ∧ Lib.IsBuilderF tB tU B b (Lib.byteCells (a ++ x)) w' ∧ Below B w w' ∧ KeepsOthers w w' :=
  (Tryd.Builder_WriteString_k B b _ (str x) w h (by rw [Lib.byteCells_length, str_size]; exact hl) hB).mono (by
    rintro e w' ⟨rfl, h1, h2, h3⟩
    refine ⟨by rw [str_size], ?_, h2, keeps_of h h2 h3⟩
    have e2 : Lib.byteCells a ++ Lib.strCells (str x) = Lib.byteCells (a ++ x) := by rw [Lib.byteCells_append]; rfl
    rw [e2] at h1
    exact .inr h1)
theorem fb_byte (B b : Nat) (a : List UInt8) (w : World) (h : Lib.IsBuilderF tB tU B b (Lib.byteCells a) w) (hl : a.length + 1 ≤ 140737488355328) (hB : B ≤ w.heap.size) :
    Calls Tryd.prog 26 #[.pointer (some ⟨b, 0, none⟩), .int .u8 32] w fun e w' => e = .returned .nilIface ∧ Lib.IsBuilderF tB tU B b (Lib.byteCells (a ++ [32])) w' ∧ Below B w w' ∧ KeepsOthers w w' :=
  (Tryd.Builder_WriteByte_k B b _ 32 w h (by rw [Lib.byteCells_length]; exact hl) hB).mono (by
    rintro e w' ⟨rfl, h1, h2, h3⟩
    refine ⟨rfl, ?_, h2, keeps_of h h2 h3⟩
    have e2 : Lib.byteCells a ++ [Value.int .u8 32] = Lib.byteCells (a ++ [32]) := by rw [Lib.byteCells_append]; rfl
    rw [e2] at h1
    exact .inr h1)

set_option maxRecDepth 100000 in
set_option maxHeartbeats 4000000 in
theorem print_in (toks : List Tok) (m : Nat) (hm : toks.length = m) (hm2 : m ≤ 2000000) (A : Option Addr) (c : Nat) (w : World) (hE : Env w) (hr : RdT w w.heap.size A toks) (hok : ∀ t ∈ toks, TokOk t) :
    CallsIn Fence.wide 9 Tryd.prog 13 #[.slice A m c] w fun e w' => e = .returned (.string (str (jn (txts toks)))) ∧ Below w.heap.size w w' := by
  have hlens := txts_len hok
  have htl : (txts toks).length ≤ m := by rw [← hm, txts, List.length_map]; exact List.length_filter_le _ _
  have hjl : ∀ pre, pre <+: txts toks → (jn pre).length ≤ m * 46 := fun pre hp => by
    have h1 := jn_len pre (fun x hx => hlens x (hp.subset hx))
    have h2 := hp.length_le
    have h3 : pre.length * 46 ≤ m * 46 := Nat.mul_le_mul_right _ (by omega)
    omega
  refine callsIn_of_wp_marks Tryd.func13 rfl trivial ?_ rfl
  simp only [Tryd.ntmps13, List.size_toArray, List.length_cons, List.length_nil, Nat.reduceAdd, Nat.reduceSub, Array.replicate_succ, Array.replicate_zero, List.push_toArray, List.append_toArray, List.nil_append, List.cons_append]
  gi_wp2_with (refine ⟨trivial, ?_⟩; gi_at_call 24; refine (texts_in _ _ _ _ _).mono ?_; rintro e w1 ⟨rfl, rfl⟩)
  have bN := Boxed.new (w.alloc (.cells #[.pointer none, .slice none 0 0] tB)) tL (.slice A m c)
  have bB : Lib.IsBuilderF tB tU w.heap.size w.heap.size (Lib.byteCells (jn (vals []))) ((w.alloc (.cells #[.pointer none, .slice none 0 0] tB)).alloc (.cells #[.slice A m c] tL)) :=
    IsB.kept (Lib.IsBuilderF.of (Lib.fresh_isBuilder tB tU w)) (World.grownBy_alloc _ _ none) (fun r e => by cases e)
  rw [World.size_alloc] at bN
  have hB0 : Below w.heap.size w ((w.alloc (.cells #[.pointer none, .slice none 0 0] tB)).alloc (.cells #[.slice A m c] tL)) := ((Below.refl _ w).alloc (Nat.le_refl _) _).alloc (by simp) _
  have hsz : ((w.alloc (.cells #[.pointer none, .slice none 0 0] tB)).alloc (.cells #[.slice A m c] tL)).heap.size = w.heap.size + 2 := by simp
  obtain ⟨W0, hW0⟩ : ∃ W0, (w.alloc (.cells #[.pointer none, .slice none 0 0] tB)).alloc (.cells #[.slice A m c] tL) = W0 := ⟨_, rfl⟩
  rw [hW0] at bN bB hB0 hsz ⊢
  clear hW0
  refine wpIn_rangeFunc_ownF rfl (by omega) (gf := 37) (lb := #[.pointer (some ⟨w.heap.size + 1, 0, none⟩)]) rfl trivial (enters_of Tryd.func37 (by kernel_rfl) rfl)
    (texts_stops _ (by omega) (w.heap.size + 1) w hE toks m hm hm2 A c hr hok W0 hB0 bN) belowK_t (belowK_b (by omega)) (Below.refl _ _) (fun _ => rfl)
    (PrI w) (fun _ _ _ => False) (PrI.own (by omega)) (fun _ _ _ _ _ hs _ _ => hs) ⟨bB, hB0⟩
    (fun x => { tmps := #[.slice A m c, undef, .string ⟨#[]⟩, .pointer (some ⟨w.heap.size, 0, none⟩), .string (str x.1), .slice A m c, .func (.func 37) #[] #[.pointer (some ⟨w.heap.size + 1, 0, none⟩)], .string (str x.1), undef, undef, undef, undef, undef, undef], defers := [] })
    ?assign ?body ?done ?stop
  case assign =>
    intro l x W K hK
    gi_wp2
    exact hK
  case body =>
    rintro l pre ⟨x, hx⟩ W ⟨hb, hbw⟩ hlt
    have hpl := jn_len (vals pre) (fun y hy => by obtain ⟨z, _, rfl⟩ := List.mem_map.1 hy; exact z.2)
    have hvl : (vals pre).length ≤ m := by rw [vals, List.length_map]; omega
    have hjs : jn (vals (pre ++ [⟨x, hx⟩])) = jstep (jn (vals pre)) x := by rw [vals_snoc, jn_snoc]
    have hbs := hbw.size
    simp only
    generalize jn (vals pre) = a at *
    have ha : a.length ≤ 92000000 := by omega
    have HB := Lib.hid hb
    have HBW := Lib.hid hbw
    have HJS := Lib.hid hjs
    clear hb hbw hjs
    by_cases he : a = []
    · subst he
      have hL := Lib.hid (fb_len w.heap.size w.heap.size [] W HB.out)
      have hWS := Lib.hid (fb_str w.heap.size w.heap.size [] x W HB.out (by simp; omega) hbs)
      gi_wp2_with (first
        | (refine ⟨trivial, ?_⟩; gi_at_call 25; refine (CallsIn.inRound l (callsIn_wide.2 hL.out)).mono ?_; rintro e w1 ⟨rfl, rfl⟩)
        | (refine ⟨trivial, ?_⟩; gi_at_call 27; refine (CallsIn.inRound l (callsIn_wide.2 hWS.out)).mono ?_; rintro e w2 ⟨rfl, g1, g2, g3⟩; have G1 := Lib.hid g1; have G2 := Lib.hid g2; have G3 := Lib.hid g3; clear g1 g2 g3))
      exact ⟨G3.out, G2.out, ⟨by rw [HJS.out, jstep, if_pos rfl]; exact G1.out, HBW.out.trans G2.out⟩⟩
    · have hal : 0 < (a.length : Int) := by have := List.length_pos_iff.2 he; omega
      have hL := Lib.hid (fb_len w.heap.size w.heap.size a W HB.out)
      have hWB := Lib.hid (fb_byte w.heap.size w.heap.size a W HB.out (by omega) hbs)
      have HE := Lib.hid he
      clear he
      gi_wp2_with (first
        | (refine ⟨trivial, ?_⟩; gi_at_call 25; refine (CallsIn.inRound l (callsIn_wide.2 hL.out)).mono ?_; rintro e w1 ⟨rfl, rfl⟩)
        | (refine ⟨trivial, ?_⟩; gi_at_call 26; refine (CallsIn.inRound l (callsIn_wide.2 hWB.out)).mono ?_; rintro e w1 ⟨rfl, h1, h2, h3⟩; have hWS := Lib.hid (fb_str w.heap.size w.heap.size (a ++ [32]) x w1 h1 (by rw [List.length_append]; simp; omega) (Nat.le_trans hbs h2.size)); have H1 := Lib.hid h1; have H2 := Lib.hid h2; have H3 := Lib.hid h3; clear h1 h2 h3)
        | (refine ⟨trivial, ?_⟩; gi_at_call 27; refine (CallsIn.inRound l (callsIn_wide.2 hWS.out)).mono ?_; rintro e w2 ⟨rfl, g1, g2, g3⟩; have G1 := Lib.hid g1; have G2 := Lib.hid g2; have G3 := Lib.hid g3; clear g1 g2 g3))
      exact ⟨H3.out.trans G3.out, H2.out.trans G2.out, ⟨by rw [HJS.out, jstep, if_neg HE.out]; have := G1.out; rw [List.append_assoc] at this; exact this, HBW.out.trans (H2.out.trans G2.out)⟩⟩
  case done =>
    rintro D ys W hD hys ⟨hb, hbw⟩ hK
    rw [hys] at hb
    have hbs := hbw.size
    have HS := Lib.hid (Tryd.Builder_String_any_k w.heap.size w.heap.size (jn (txts toks)) W hb hbs)
    have HB := Lib.hid hb
    have HBW := Lib.hid hbw
    have HK := Lib.hid hK
    clear hb hbw hK
    gi_wp2_with (refine ⟨trivial, ?_⟩; gi_at_call 28; refine (callsIn_wide.2 HS.out).mono ?_; rintro e w2 ⟨rfl, g1, g2, g3⟩; have G1 := Lib.hid g1; have G2 := Lib.hid g2; have G3 := Lib.hid g3; clear g1 g2 g3)
    have hK2 := (keeps_of HB.out G2.out G3.out).same D _ HK.out rfl
    refine ⟨by simp, .inl ⟨_, _, rfl, run_takeDeferred hK2, ?_⟩⟩
    exact ⟨_, results_tmp rfl _ _ _, rfl, (HBW.out.trans G2.out).trans (belowK_b (w := w) (Nat.le_refl _) _ D _ _ (by omega) hK2 rfl rfl)⟩
  case stop =>
    rintro D c pre W _ _ h _
    exact h.elim

/-- Print, of tokens that Lex returned. -/
theorem print_any (toks : List Tok) (m : Nat) (hm : toks.length = m) (hm2 : m ≤ 2000000) (A : Option Addr) (c : Nat) (w : World) (hE : Env w) (hr : RdT w w.heap.size A toks) (hok : ∀ t ∈ toks, TokOk t) :
    Calls Tryd.prog 13 #[.slice A m c] w fun e w' => e = .returned (.string (str (jn (txts toks)))) ∧ Below w.heap.size w w' := callsIn_wide.1 (print_in toks m hm hm2 A c w hE hr hok)
end Go.Proofs.YtpmljgnnfljjpaaDoor
