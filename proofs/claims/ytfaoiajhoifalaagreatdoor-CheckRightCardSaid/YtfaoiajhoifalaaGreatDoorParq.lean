/-
  PLAIN MATHEMATICS of layer parse: what is read has its shape.
-/
import Derived.Test.YtfaoiajhoifalaaGreatDoorParp
namespace Go.Proofs.YtfaoiajhoifalaaGreatDoor
set_option linter.unusedVariables false
set_option linter.unusedSimpArgs false
set_option linter.unusedSectionVars false

/-- Where the reader answers, the answer is so. -/
def Ans {α : Type} (P : α → St → Prop) (r : Rs α) : Prop := r.Sat True (fun _ _ => True) P
theorem Ans.bind {α β : Type} {P : α → St → Prop} {Q : β → St → Prop} {r : Rs α} {f : α → St → Rs β} (h : Ans P r) (hf : ∀ a s, P a s → Ans Q (f a s)) : Ans Q (r.bind f) := Rs.Sat.bind h hf
theorem Ans.mono {α : Type} {P Q : α → St → Prop} {r : Rs α} (h : Ans P r) (hf : ∀ a s, P a s → Q a s) : Ans Q r := Rs.Sat.mono h hf
theorem Ans.err {α : Type} {P : α → St → Prop} (n p : Int) : Ans P (Rs.er n p) := trivial

section
variable {V : Tok → Prop} {e : Tok} (he : e.k = 4)
include he
def Vs (V : Tok → Prop) (s : St) : Prop := ∀ t ∈ s.l, V t
theorem Vs.nx {s : St} (h : Vs V s) : Vs V s.nx := fun t ht => h t (List.mem_of_mem_tail ht)
theorem pk_mem {s : St} (h : pk e s ≠ e) : pk e s ∈ s.l := by
  cases hl : s.l with
  | nil => simp [pk, hl] at h
  | cons t l => simp [pk, hl]
theorem must_a {x : List UInt8} {s : St} (hV : Vs V s) : Ans (fun _ s' => Vs V s' ∧ s'.c = s.c) (must e x s) := by
  unfold must
  split
  · exact ⟨Vs.nx he hV, rfl⟩
  · trivial
theorem name_a {s : St} (hV : Vs V s) : Ans (fun t s' => Vs V s' ∧ s'.c = s.c ∧ Nm V t.s) (nameM e s) := by
  unfold nameM
  split
  · rename_i h
    exact ⟨Vs.nx he hV, rfl, _, hV _ (pk_mem he fun h' => by rw [h', nm_end he] at h; cases h), h, rfl⟩
  · trivial
theorem typed_a {ks : List Int} {s : St} (hV : Vs V s) : Ans (fun k s' => Vs V s' ∧ s'.c = s.c ∧ k ∈ ks) (typedM e ks s) := by
  unfold typedM
  split
  · split
    · exact ⟨Vs.nx he hV, rfl, by assumption⟩
    · trivial
  · trivial
theorem enter_a (d : Nat) (s : St) : Ans (fun _ s' => s' = s ∧ d ≤ 40) (enterM e d s) := by
  unfold enterM
  split
  · trivial
  · exact ⟨rfl, by omega⟩

/-- An item has been read. -/
def PX (V : Tok → Prop) (it : It) (s : St) (a : Fo) (s' : St) : Prop := Vs V s' ∧ s'.c = s.c + a.size ∧ s'.c ≤ 4000 ∧ Gr V [it] none a
theorem fin {it : It} {h : Hd} {k : Fo} {s s0 : St} (hV : Vs V s) (hc : s.c = s0.c + k.size) (h1 : okI V it h k.len) (h2 : Gr V (kI it h k.len).1 (kI it h k.len).2 k) :
    Ans (PX V it s0) (addM h k s) := by
  unfold addM
  split
  · trivial
  · exact ⟨hV, by simp [Fo.one, Fo.size]; omega, by simp; omega, Gr.one h1 h2⟩
theorem fin2 {it : It} {h : Hd} {k : Fo} {s s0 : St} (hV : Vs V s) (hc : s.c = s0.c + k.size) (h1 : okI V it h k.len) (h2 : Gr V (kI it h k.len).1 (kI it h k.len).2 k) :
    Ans (fun a s' => PX V it s0 a s' ∧ s'.l = s.l) (addM h k s) := by
  unfold addM
  split
  · trivial
  · exact ⟨⟨hV, by simp [Fo.one, Fo.size]; omega, by simp; omega, Gr.one h1 h2⟩, rfl⟩
def PS (V : Tok → Prop) (e : Tok) (d : Nat) (s : St) (a : Fo) (s' : St) : Prop := PX V (.s d false) s a s' ∧ (q (pk e s') = wElse → Gr V [.s d true] none a)
theorem finS {d : Nat} {h : Hd} {k : Fo} {s s0 : St} (hV : Vs V s) (hc : s.c = s0.c + k.size)
    (h1 : ∀ cl, (cl = true → q (pk e s) = wElse) → okS V d cl h k.len ∧ Gr V (kS d cl h k.len).1 (kS d cl h k.len).2 k) :
    Ans (PS V e d s0) (addM h k s) := by
  unfold addM
  split
  · trivial
  · have h2 := h1 false (by simp)
    exact ⟨⟨hV, by simp [Fo.one, Fo.size]; omega, by simp; omega, Gr.one h2.1 h2.2⟩, fun h' => by have h3 := h1 true (fun _ => h'); exact Gr.one h3.1 h3.2⟩

def lft : Md → Nat
  | .loop _ _ x => x.size
  | _ => 0
def Pre (V : Tok → Prop) (e : Tok) (s : St) : Md → Prop
  | .bin _ l => 1 ≤ l ∧ l ≤ 11
  | .loop d l x => 1 ≤ l ∧ l ≤ 11 ∧ Gr V [.e d (max l (lvl (q (pk e s))))] none x ∧ x.size ≤ s.c
  | _ => True
def Spec (V : Tok → Prop) (e : Tok) (a : Fo) (s' : St) : Md → Prop
  | .bin d l => Gr V [.e d l] none a ∧ lvl (q (pk e s')) < l
  | .loop d l _ => Gr V [.e d l] none a ∧ lvl (q (pk e s')) < l
  | .opd d => Gr V [.e d 11] none a
  | .args d => Gr V [.e d 1] (some (.e d 1)) a
  | .stm d => Gr V [.s d false] none a ∧ (q (pk e s') = wElse → Gr V [.s d true] none a)
  | .blk d => Gr V [] (some (.s (d + 1) false)) a
def Po (V : Tok → Prop) (e : Tok) (m : Md) (s : St) (a : Fo) (s' : St) : Prop := Vs V s' ∧ s'.c + lft m = s.c + a.size ∧ s'.c ≤ 4000 ∧ Spec V e a s' m

variable {r : Md → St → Rs Fo} (hr : ∀ m s, Vs V s → s.c ≤ 4000 → Pre V e s m → Ans (Po V e m s) (r m s))
include hr
theorem rbin {d l : Nat} {s : St} (h1 : 1 ≤ l) (h2 : l ≤ 11) (hV : Vs V s) (hc : s.c ≤ 4000) : Ans (fun a s' => PX V (.e d l) s a s' ∧ lvl (q (pk e s')) < l) (r (.bin d l) s) :=
  (hr (.bin d l) s hV hc ⟨h1, h2⟩).mono fun a s' ⟨x1, x2, x3, x4, x5⟩ => ⟨⟨x1, x2, x3, x4⟩, x5⟩
theorem rex {d : Nat} {s : St} (hV : Vs V s) (hc : s.c ≤ 4000) : Ans (PX V (.e d 1) s) (r (.bin d 1) s) := (rbin he hr (Nat.le_refl _) (by omega) hV hc).mono fun _ _ h => h.1
theorem ropd {d : Nat} {s : St} (hV : Vs V s) (hc : s.c ≤ 4000) : Ans (PX V (.e d 11) s) (r (.opd d) s) :=
  (hr (.opd d) s hV hc trivial).mono fun a s' h => ⟨h.1, h.2.1, h.2.2.1, h.2.2.2⟩
theorem rstm {d : Nat} {s : St} (hV : Vs V s) (hc : s.c ≤ 4000) : Ans (PS V e d s) (r (.stm d) s) :=
  (hr (.stm d) s hV hc trivial).mono fun a s' h => ⟨⟨h.1, h.2.1, h.2.2.1, h.2.2.2.1⟩, h.2.2.2.2⟩
theorem binB_a {d l : Nat} {s : St} (h1 : 1 ≤ l) (h2 : l ≤ 11) (hV : Vs V s) (hc : s.c ≤ 4000) : Ans (Po V e (.bin d l) s) (binB r d l s) := by
  refine (ropd he hr hV hc).bind fun a s1 ⟨a1, a2, a3, a4⟩ => (hr (.loop d l a) s1 a1 a3 ⟨h1, h2, ?_, by omega⟩).mono fun b s2 ⟨b1, b2, b3, b4⟩ => ⟨b1, ?_, b3, b4⟩
  · have := lvl_le (q (pk e s1))
    exact a4.mono (Nat.le_refl _) (by omega)
  · simp only [lft] at b2 ⊢; omega
theorem loopB_a {d l : Nat} {x : Fo} {s : St} (h1 : 1 ≤ l) (h2 : l ≤ 11) (hx : Gr V [.e d (max l (lvl (q (pk e s))))] none x) (hxs : x.size ≤ s.c) (hV : Vs V s) (hc : s.c ≤ 4000) :
    Ans (Po V e (.loop d l x) s) (loopB e r d l x s) := by
  unfold loopB
  have hL := lvl_le (q (pk e s))
  split
  · rename_i hlt
    rw [show max l (lvl (q (pk e s))) = l by omega] at hx
    exact ⟨hV, rfl, hc, hx, hlt⟩
  · rename_i hlt
    have hne : pk e s ≠ e := fun h' => by rw [h', q_end he] at hlt; simp [lvl] at hlt; omega
    have hq : q (pk e s) = (pk e s).s := by
      unfold q
      split
      · rfl
      · rename_i h'
        unfold q at hlt
        rw [if_neg h'] at hlt
        simp [lvl] at hlt
        omega
    rw [show max l (lvl (q (pk e s))) = lvl (q (pk e s)) by omega] at hx
    have hl1 : 1 ≤ lvl (q (pk e s)) + 1 := by omega
    refine (rbin he hr (d := d) (l := lvl (q (pk e s)) + 1) (s := s.nx) hl1 (by omega) (Vs.nx he hV) hc).bind fun b s1 ⟨⟨b1, b2, b3, b4⟩, b5⟩ => ?_
    refine (fin2 he (it := .e d (lvl (q (pk e s)))) (s0 := ⟨s.l, s.c - x.size⟩) b1 ?_ ?_ ?_).bind fun y s2 ⟨⟨y1, y2, y3, y4⟩, y5⟩ => ?_
    · rw [Fo.size_app]; simp only [St.nx] at b2 ⊢; omega
    · simp only [okI, okE, ← hq]
      exact .inr (.inr (.inr (.inr (.inl ⟨by trivial, fun h' => by omega, by omega, by trivial, by trivial, by trivial⟩))))
    · simp only [kI, kE, ← hq]
      simp
      exact Gr.app hx b4
    · have e2 : pk e s2 = pk e s1 := by simp only [pk, y5]
      refine (hr (.loop d l y) s2 y1 y3 ⟨h1, h2, y4.mono (Nat.le_refl _) (by rw [e2]; omega), by simp only at y2; omega⟩).mono fun z s3 ⟨z1, z2, z3, z4⟩ => ⟨z1, ?_, z3, z4⟩
      simp only [lft] at z2 y2 ⊢
      omega

/-- What stands in a call's parentheses, and they. -/
theorem callB_a {f : Tok} {d : Nat} {s : St} {it : It} (hf : Nm V f.s) (hit : ∀ n, okI V it ⟨7, f.p, 0, f.s, 0, 0⟩ n ∧ kI it ⟨7, f.p, 0, f.s, 0, 0⟩ n = ([], some (.e d 1))) (hV : Vs V s) (hc : s.c ≤ 4000) : Ans (PX V it s) (callB e r f d s) := by
  refine (must_a he hV).bind fun _ s1 ⟨a1, a2⟩ => ?_
  refine Ans.bind (P := fun a s' => Vs V s' ∧ s'.c = s1.c + a.size ∧ s'.c ≤ 4000 ∧ Gr V [] (some (.e d 1)) a) ?_ fun a s2 ⟨b1, b2, b3, b4⟩ => (must_a he b1).bind fun _ s3 ⟨c1, c2⟩ => ?_
  · split
    · exact ⟨a1, rfl, by omega, rfl⟩
    · exact (hr (.args d) s1 a1 (by omega) trivial).mono fun a s' ⟨x1, x2, x3, x4⟩ => ⟨x1, x2, x3, by
        simp only [Spec] at x4
        cases a with
        | nil => rfl
        | cons h k r => simpa only [Gr] using x4⟩
  · exact fin he c1 (by omega) (hit _).1 (by rw [(hit _).2]; exact b4)
theorem elemB_a {f : Tok} {d : Nat} {s : St} (hd : d ≤ 40) (hf : Nm V f.s) (hV : Vs V s) (hc : s.c ≤ 4000) : Ans (PX V (.e d 11) s) (elemB e r f (d + 1) s) :=
  (must_a he hV).bind fun _ s1 ⟨a1, a2⟩ => (rex he hr a1 (by omega)).bind fun a s2 ⟨b1, b2, b3, b4⟩ => (must_a he b1).bind fun _ s3 ⟨c1, c2⟩ =>
    fin he c1 (by omega) (.inr (.inr (.inl ⟨rfl, hd, hf, rfl, rfl, rfl⟩))) (by simpa [kI, kE] using b4)
theorem varB_a {d : Nat} {s : St} (hd : d ≤ 40) (hV : Vs V s) (hc : s.c ≤ 4000) : Ans (PX V (.e d 11) s) (varB e r d s) := by
  refine (name_a he hV).bind fun t s1 ⟨a1, a2, a3⟩ => ?_
  have up : ∀ a s', PX V (.e d 11) s1 a s' → PX V (.e d 11) s a s' := fun a s' ⟨x1, x2, x3, x4⟩ => ⟨x1, by omega, x3, x4⟩
  split
  · exact (callB_a he hr (it := .e d 11) a3 (fun n => ⟨(show okE V d 11 ⟨7, t.p, 0, t.s, 0, 0⟩ from .inr (.inr (.inr (.inr (.inr (.inr (.inl ⟨rfl, hd, a3, rfl, rfl, rfl⟩)))))))  , by simp [kI, kE]⟩) a1 (by omega)).mono up
  · split
    · exact (elemB_a he hr hd a3 a1 (by omega)).mono up
    · exact fin he a1 (by simp [Fo.size]; omega) (.inr (.inl ⟨rfl, hd, a3, rfl, rfl, rfl⟩)) (by simp [kI, kE, Gr])
theorem encE_a {d : Nat} {s : St} (hd : d ≤ 40) (hV : Vs V s) (hc : s.c ≤ 4000) : Ans (PX V (.e d 11) s) (encE e r d s) :=
  (rex he hr hV hc).bind fun a s2 ⟨b1, b2, b3, b4⟩ => (must_a he b1).bind fun _ s3 ⟨c1, c2⟩ => ⟨c1, by omega, by omega, Gr.paren hd b4⟩
theorem typeNo_some {x : List UInt8} {k : Int} (h : typeNo x = some k) : k = 0 ∨ k = 1 ∨ k = 2 ∨ k = 3 := by
  unfold typeNo at h
  repeat (split at h; (simp at h; omega))
  simp at h
theorem encB_a {d : Nat} {s : St} (hd : d ≤ 40) (hV : Vs V s) (hc : s.c ≤ 4000) : Ans (PX V (.e d 11) s) (encB e r d s) := by
  unfold encB
  have hE : Ans (PX V (.e d 11) s) (encE e r d s.nx) := encE_a he hr (s := s.nx) hd (Vs.nx he hV) hc
  split
  · split
    · exact hE
    · rename_i k hk hk0
      have hk3 := typeNo_some he hr hk
      refine (must_a he (Vs.nx he (Vs.nx he hV))).bind fun _ s1 ⟨a1, a2⟩ => (ropd he hr a1 (by simp only [St.nx] at a2; omega)).bind fun a s2 ⟨b1, b2, b3, b4⟩ => ?_
      exact fin he b1 (by simp only [St.nx] at a2; omega) (.inr (.inr (.inr (.inr (.inr (.inl ⟨rfl, hd, rfl, rfl, by simp only; omega, rfl⟩)))))) (by simpa [kI, kE] using b4)
  · exact hE
theorem opdB_a {d : Nat} {s : St} (hV : Vs V s) (hc : s.c ≤ 4000) : Ans (PX V (.e d 11) s) (opdB e r d s) := by
  refine (enter_a he d s).bind fun _ s1 ⟨hs1, hd⟩ => ?_
  subst hs1
  split
  · rename_i h2
    have hne : pk e s1 ≠ e := fun h' => by rw [h', he] at h2; cases h2
    exact fin he (Vs.nx he hV) (by simp [Fo.size, St.nx]) (.inl ⟨rfl, hd, ⟨_, hV _ (pk_mem he hne), h2, rfl, rfl⟩, rfl, rfl⟩) (by simp [kI, kE, Gr])
  split
  · exact varB_a he hr hd hV hc
  split
  · rename_i hq
    have hs : (pk e s1).s = q (pk e s1) := by
      unfold q at hq ⊢
      split
      · rfl
      · rename_i h'; rw [if_neg h'] at hq; simp at hq
    refine (ropd he hr (Vs.nx he hV) (by simpa [St.nx] using hc)).bind fun a s2 ⟨b1, b2, b3, b4⟩ => ?_
    exact fin he b1 (by simpa [St.nx] using b2) (.inr (.inr (.inr (.inl ⟨rfl, hd, by simp only [hs]; exact hq, rfl, rfl, rfl⟩)))) (by simpa [kI, kE] using b4)
  split
  · exact encB_a he hr hd hV hc
  split
  · exact (must_a he hV).bind fun _ s2 ⟨a1, a2⟩ => (must_a he a1).bind fun _ s3 ⟨b1, b2⟩ => (must_a he b1).bind fun _ s4 ⟨c1, c2⟩ =>
      fin he c1 (by simp [Fo.size]; omega) (.inr (.inr (.inr (.inr (.inr (.inr (.inr ⟨rfl, hd, rfl, rfl, rfl, rfl⟩))))))) (by simp [kI, kE, Gr])
  · trivial
theorem argsB_a {d : Nat} {s : St} (hV : Vs V s) (hc : s.c ≤ 4000) : Ans (Po V e (.args d) s) (argsB e r d s) := by
  refine (rex he hr hV hc).bind fun a s1 ⟨a1, a2, a3, a4⟩ => ?_
  obtain ⟨h, k, rfl, x1, x2⟩ := a4.un
  split
  · refine (hr (.args d) s1.nx (Vs.nx he a1) (by simpa [St.nx] using a3) trivial).bind fun b s2 ⟨b1, b2, b3, b4⟩ => ⟨b1, ?_, b3, x1, x2, ?_⟩
    · simp only [lft, St.nx, Fo.size_app] at *; omega
    · cases b with
      | nil => simp [Spec, Gr] at b4
      | cons h k r => simpa only [Spec, Gr, Fo.app] using b4
  · exact ⟨a1, by simp only [lft]; omega, a3, x1, x2, rfl⟩
theorem blkB_a {d : Nat} {s : St} (hV : Vs V s) (hc : s.c ≤ 4000) : Ans (Po V e (.blk d) s) (blkB e r d s) := by
  unfold blkB
  split
  · exact ⟨Vs.nx he hV, by simp [lft, Fo.size, St.nx], by simpa [St.nx] using hc, rfl⟩
  · exact (rstm he hr hV hc).bind fun a s1 ⟨⟨a1, a2, a3, a4⟩, _⟩ => (hr (.blk d) s1 a1 a3 trivial).bind fun b s2 ⟨b1, b2, b3, b4⟩ =>
      ⟨b1, by simp only [lft, Fo.size_app] at *; omega, b3, Gr.star_app a4 b4⟩
theorem blockB_a {d : Nat} {s s0 : St} (h0 : s.c = s0.c) (hd : d ≤ 40) (hV : Vs V s) (hc : s.c ≤ 4000) : Ans (PS V e d s0) (blockB e r d s) :=
  (must_a he hV).bind fun _ s1 ⟨a1, a2⟩ => (hr (.blk d) s1 a1 (by omega) trivial).bind fun a s2 ⟨b1, b2, b3, b4⟩ =>
    finS he b1 (by simp only [lft] at b2; omega) fun cl _ => ⟨⟨hd, rfl, rfl, .inl ⟨rfl, rfl, rfl⟩⟩, by simpa [kS, Spec] using b4⟩
theorem localB_a {d : Nat} {s s0 : St} (h0 : s.c = s0.c) (hd : d ≤ 40) (hV : Vs V s) (hc : s.c ≤ 4000) : Ans (PS V e d s0) (localB e r d s) :=
  (typed_a he hV).bind fun k s1 ⟨a1, a2, a3⟩ => (name_a he a1).bind fun t s2 ⟨b1, b2, b3⟩ => (must_a he b1).bind fun _ s3 ⟨c1, c2⟩ => (rex he hr c1 (by omega)).bind fun a s4 ⟨d1, d2, d3, d4⟩ => (must_a he d1).bind fun _ s5 ⟨f1, f2⟩ =>
    finS he f1 (by omega) fun cl _ => ⟨⟨hd, rfl, rfl, .inr (.inl ⟨rfl, b3, by simpa using a3⟩)⟩, by simpa [kS] using d4⟩
theorem guardB_a {d : Nat} {s : St} (hV : Vs V s) (hc : s.c ≤ 4000) : Ans (fun a s' => Vs V s' ∧ s'.c = s.c + a.size ∧ s'.c ≤ 4000 ∧ Gr V [.e (d + 1) 1, .s (d + 1) false] none a ∧ (q (pk e s') = wElse → Gr V [.e (d + 1) 1, .s (d + 1) true] none a)) (guardB e r d s) :=
  (must_a he hV).bind fun _ s1 ⟨a1, a2⟩ => (rex he hr a1 (by omega)).bind fun a s2 ⟨b1, b2, b3, b4⟩ => (must_a he b1).bind fun _ s3 ⟨c1, c2⟩ => (rstm he hr c1 (by omega)).bind fun b s4 ⟨⟨d1, d2, d3, d4⟩, d5⟩ =>
    ⟨d1, by rw [Fo.size_app]; omega, d3, Gr.app b4 d4, fun h => Gr.app b4 (d5 h)⟩
theorem ifB_a {d : Nat} {s s0 : St} (h0 : s.c = s0.c) (hd : d ≤ 40) (hV : Vs V s) (hc : s.c ≤ 4000) : Ans (PS V e d s0) (ifB e r d s) := by
  refine (guardB_a he hr (s := s.nx) (Vs.nx he hV) hc).bind fun a s1 ⟨a1, a2, a3, a4, a5⟩ => ?_
  simp only [St.nx] at a2
  split
  · rename_i hq
    simp only [isT, decide_eq_true_eq] at hq
    refine (rstm he hr (s := s1.nx) (Vs.nx he a1) a3).bind fun b s2 ⟨⟨b1, b2, b3, b4⟩, b5⟩ => finS he b1 (by rw [Fo.size_app]; simp only [St.nx] at b2; omega) fun cl hcl => ?_
    have hb : Gr V [.s (d + 1) cl] none b := by cases cl with
      | false => exact b4
      | true => exact b5 (hcl rfl)
    have hab : Gr V [.e (d + 1) 1, .s (d + 1) true, .s (d + 1) cl] none (a.app b) := Gr.app (a5 hq) hb
    have hl : (a.app b).len = 3 := hab.len
    rw [hl]
    exact ⟨⟨hd, rfl, rfl, .inr (.inr (.inr (.inr (.inl ⟨rfl, rfl, rfl, .inl rfl⟩))))⟩, by simpa [kS] using hab⟩
  · rename_i hq
    simp only [isT, decide_eq_true_eq] at hq
    refine finS he a1 (by omega) fun cl hcl => ?_
    cases cl with
    | true => exact absurd (hcl rfl) hq
    | false =>
      have hl : a.len = 2 := a4.len
      rw [hl]
      exact ⟨⟨hd, rfl, rfl, .inr (.inr (.inr (.inr (.inl ⟨rfl, rfl, rfl, .inr ⟨rfl, rfl⟩⟩))))⟩, by simpa [kS] using a4⟩
theorem whileB_a {d : Nat} {s s0 : St} (h0 : s.c = s0.c) (hd : d ≤ 40) (hV : Vs V s) (hc : s.c ≤ 4000) : Ans (PS V e d s0) (whileB e r d s) := by
  refine (guardB_a he hr (s := s.nx) (Vs.nx he hV) hc).bind fun a s1 ⟨a1, a2, a3, a4, a5⟩ => finS he a1 (by simp only [St.nx] at a2; omega) fun cl hcl => ?_
  have hb : Gr V [.e (d + 1) 1, .s (d + 1) cl] none a := by cases cl with
    | false => exact a4
    | true => exact a5 (hcl rfl)
  exact ⟨⟨hd, rfl, rfl, .inr (.inr (.inr (.inr (.inr (.inl ⟨rfl, rfl, rfl⟩)))))⟩, by simpa [kS] using hb⟩
omit hr in
theorem gotoB_a {d : Nat} {s s0 : St} (h0 : s.c = s0.c) (hd : d ≤ 40) (hV : Vs V s) : Ans (PS V e d s0) (gotoB e d s) :=
  (name_a he (s := s.nx) (Vs.nx he hV)).bind fun t s1 ⟨a1, a2, a3⟩ => (must_a he a1).bind fun _ s2 ⟨b1, b2⟩ =>
    finS he b1 (by simp only [St.nx, Fo.size] at *; omega) fun cl _ => ⟨⟨hd, rfl, rfl, .inr (.inr (.inr (.inr (.inr (.inr (.inl ⟨rfl, a3, rfl⟩))))))⟩, by simp [kS, Gr]⟩
theorem retB_a {d : Nat} {s s0 : St} (h0 : s.c = s0.c) (hd : d ≤ 40) (hV : Vs V s) (hc : s.c ≤ 4000) : Ans (PS V e d s0) (retB e r d s) := by
  refine Ans.bind (P := fun a s' => Vs V s' ∧ s'.c = s.c + a.size ∧ s'.c ≤ 4000 ∧ ((a = .nil) ∨ Gr V [.e (d + 1) 1] none a)) ?_ fun a s2 ⟨b1, b2, b3, b4⟩ => (must_a he b1).bind fun _ s3 ⟨c1, c2⟩ => finS he c1 (by omega) fun cl _ => ?_
  · split
    · exact ⟨Vs.nx he hV, by simp [Fo.size, St.nx], by simpa [St.nx] using hc, .inl rfl⟩
    · exact (rex he hr (s := s.nx) (Vs.nx he hV) hc).mono fun a s' ⟨x1, x2, x3, x4⟩ => ⟨x1, by simpa [St.nx] using x2, x3, .inr x4⟩
  · rcases b4 with rfl | b4
    · exact ⟨⟨hd, rfl, rfl, .inr (.inr (.inr (.inr (.inr (.inr (.inr (.inr (.inl ⟨rfl, rfl, rfl, by simp [Fo.len]⟩))))))))⟩, by simp [kS, Fo.len, Gr]⟩
    · have hl : a.len = 1 := b4.len
      rw [hl]
      exact ⟨⟨hd, rfl, rfl, .inr (.inr (.inr (.inr (.inr (.inr (.inr (.inr (.inl ⟨rfl, rfl, rfl, Nat.le_refl _⟩))))))))⟩, by simpa [kS] using b4⟩
theorem outB_a {d : Nat} {s s0 : St} (h0 : s.c = s0.c) (hd : d ≤ 40) (hV : Vs V s) (hc : s.c ≤ 4000) : Ans (PS V e d s0) (outB e r d s) :=
  (must_a he (s := s.nx) (Vs.nx he hV)).bind fun _ s1 ⟨a1, a2⟩ => (rex he hr a1 (by simp only [St.nx] at a2; omega)).bind fun a s2 ⟨b1, b2, b3, b4⟩ => (must_a he b1).bind fun _ s3 ⟨c1, c2⟩ => (must_a he c1).bind fun _ s4 ⟨d1, d2⟩ =>
    finS he d1 (by simp only [St.nx] at a2; omega) fun cl _ => ⟨⟨hd, rfl, rfl, .inr (.inr (.inr (.inr (.inr (.inr (.inr (.inr (.inr (.inl ⟨rfl, rfl, rfl⟩)))))))))⟩, by simpa [kS] using b4⟩
theorem storeB_a {d : Nat} {s : St} (hV : Vs V s) (hc : s.c ≤ 4000) : Ans (fun a s' => Vs V s' ∧ s'.c = s.c + a.size ∧ s'.c ≤ 4000 ∧ Gr V [.e (d + 1) 1, .e (d + 1) 1] none a) (storeB e r d s) :=
  (must_a he hV).bind fun _ s1 ⟨a1, a2⟩ => (rex he hr a1 (by omega)).bind fun a s2 ⟨b1, b2, b3, b4⟩ => (must_a he b1).bind fun _ s3 ⟨c1, c2⟩ => (must_a he c1).bind fun _ s4 ⟨d1, d2⟩ => (rex he hr d1 (by omega)).bind fun b s5 ⟨f1, f2, f3, f4⟩ => (must_a he f1).bind fun _ s6 ⟨g1, g2⟩ =>
    ⟨g1, by rw [Fo.size_app]; omega, by omega, Gr.app b4 f4⟩
theorem namedB_a {d : Nat} {s s0 : St} (h0 : s.c = s0.c) (hd : d ≤ 40) (hV : Vs V s) (hc : s.c ≤ 4000) : Ans (PS V e d s0) (namedB e r d s) := by
  refine (name_a he hV).bind fun t s1 ⟨a1, a2, a3⟩ => ?_
  split
  · exact (rex he hr (s := s1.nx) (Vs.nx he a1) (by simp only [St.nx]; omega)).bind fun a s2 ⟨b1, b2, b3, b4⟩ => (must_a he b1).bind fun _ s3 ⟨c1, c2⟩ =>
      finS he c1 (by simp only [St.nx] at b2; omega) fun cl _ => ⟨⟨hd, rfl, rfl, .inr (.inr (.inl ⟨rfl, a3, rfl⟩))⟩, by simpa [kS] using b4⟩
  split
  · exact (storeB_a he hr a1 (by omega)).bind fun a s2 ⟨b1, b2, b3, b4⟩ =>
      finS he b1 (by omega) fun cl _ => ⟨⟨hd, rfl, rfl, .inr (.inr (.inr (.inl ⟨rfl, a3, rfl⟩)))⟩, by simpa [kS] using b4⟩
  split
  · exact (callB_a he hr (it := .c d) a3 (fun n => ⟨⟨rfl, a3, rfl, rfl, rfl⟩, rfl⟩) a1 (by omega)).bind fun a s2 ⟨b1, b2, b3, b4⟩ => (must_a he b1).bind fun _ s3 ⟨c1, c2⟩ =>
      finS he c1 (by omega) fun cl _ => ⟨⟨hd, rfl, rfl, .inr (.inr (.inr (.inr (.inr (.inr (.inr (.inr (.inr (.inr ⟨rfl, rfl, rfl⟩)))))))))⟩, by simpa [kS] using b4⟩
  split
  · refine (rstm he hr (s := s1.nx) (Vs.nx he a1) (by simp only [St.nx]; omega)).bind fun a s2 ⟨⟨b1, b2, b3, b4⟩, b5⟩ => finS he b1 (by simp only [St.nx] at b2; omega) fun cl hcl => ?_
    have hb : Gr V [.s (d + 1) cl] none a := by cases cl with
      | false => exact b4
      | true => exact b5 (hcl rfl)
    exact ⟨⟨hd, rfl, rfl, .inr (.inr (.inr (.inr (.inr (.inr (.inr (.inl ⟨rfl, a3, rfl⟩)))))))⟩, by simpa [kS] using hb⟩
  · trivial
theorem stmB_a {d : Nat} {s : St} (hV : Vs V s) (hc : s.c ≤ 4000) : Ans (PS V e d s) (stmB e r d s) := by
  refine (enter_a he d s).bind fun _ s1 ⟨hs1, hd⟩ => ?_
  subst hs1
  split
  · exact namedB_a he hr rfl hd hV hc
  split
  · exact blockB_a he hr rfl hd hV hc
  split
  · exact localB_a he hr rfl hd hV hc
  split
  · exact localB_a he hr rfl hd hV hc
  split
  · exact ifB_a he hr rfl hd hV hc
  split
  · exact whileB_a he hr rfl hd hV hc
  split
  · exact gotoB_a he rfl hd hV
  split
  · exact retB_a he hr rfl hd hV hc
  split
  · exact outB_a he hr rfl hd hV hc
  · trivial
end
theorem run_a {V : Tok → Prop} {e : Tok} (he : e.k = 4) : ∀ n m s, Vs V s → s.c ≤ 4000 → Pre V e s m → Ans (Po V e m s) (run e n m s) := by
  intro n
  induction n with
  | zero => intro m s _ _ _; trivial
  | succ n ih =>
    intro m s hV hc hp
    cases m with
    | bin d l => exact binB_a he ih hp.1 hp.2 hV hc
    | loop d l x => exact loopB_a he ih hp.1 hp.2.1 hp.2.2.1 hp.2.2.2 hV hc
    | opd d => exact (opdB_a he ih hV hc).mono fun a s' h => ⟨h.1, h.2.1, h.2.2.1, h.2.2.2⟩
    | args d => exact argsB_a he ih hV hc
    | stm d => exact (stmB_a he ih hV hc).mono fun a s' h => ⟨h.1.1, h.1.2.1, h.1.2.2.1, h.1.2.2.2, h.2⟩
    | blk d => exact blkB_a he ih hV hc
end Go.Proofs.YtfaoiajhoifalaaGreatDoor
