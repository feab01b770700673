/-
  PLAIN MATHEMATICS of layer parse: what is printed of a tree is read as that tree (but for its places): tokens, expressions. PLAIN MATHEMATICS of layer parse: what is printed of an expression is read as that expression. PLAIN MATHEMATICS of layer parse: what is printed of a statement is read as that statement. PLAIN MATHEMATICS of layer parse: what is printed of a tree of any shape that is read is read as that tree. PLAIN MATHEMATICS of layer parse: what is printed of a program that was read is read as that program. PLAIN MATHEMATICS of layers lex and parse: what is printed of a program that was read is read as that program, but for its places. PLAIN MATHEMATICS of layers lex and parse: how long what is printed is; what is printed of a program without places; read back. A program that was read, in memory: its bounds; Print and SameProgram of it.
-/
import Derived.Test.YtlbjjpfhkgagiaaGreatDoorMg
import Derived.Test.YtlbjjpfhkgagiaaGreatDoorMe
/-! Pua -/
namespace Go.Proofs.YtlbjjpfhkgagiaaGreatDoor
set_option linter.unusedVariables false
set_option linter.unusedSimpArgs false
set_option linter.unusedSectionVars false

/-- The token that a text is, its place aside. -/
def tkx (x : List UInt8) : Tok := (sc x).1.to 0
/-- Tokens that are these texts. -/
def Lx (ts : List Tok) (xs : Tx) : Prop := ts.map (fun t => t.to 0) = xs.map tkx
theorem Lx.nil : Lx [] [] := rfl
theorem Lx.nil_inv {ts : List Tok} (h : Lx ts []) : ts = [] := by simpa [Lx] using h
theorem Lx.cons_inv {ts : List Tok} {x : List UInt8} {xs : Tx} (h : Lx ts (x :: xs)) : ∃ t ts', ts = t :: ts' ∧ t.to 0 = tkx x ∧ Lx ts' xs := by
  cases ts with
  | nil => simp [Lx] at h
  | cons t ts => simp only [Lx, List.map_cons, List.cons.injEq] at h; exact ⟨t, ts, rfl, h.1, h.2⟩
theorem Lx.app_inv {xs ys : Tx} : ∀ {ts : List Tok}, Lx ts (xs ++ ys) → ∃ t1 t2, ts = t1 ++ t2 ∧ Lx t1 xs ∧ Lx t2 ys := by
  induction xs with
  | nil => intro ts h; exact ⟨[], ts, rfl, rfl, h⟩
  | cons x xs ih =>
    intro ts h
    obtain ⟨t, ts', rfl, h1, h2⟩ := Lx.cons_inv h
    obtain ⟨t1, t2, rfl, h3, h4⟩ := ih h2
    exact ⟨t :: t1, t2, rfl, by simp only [Lx, List.map_cons, h1]; rw [show t1.map (fun t => t.to 0) = xs.map tkx from h3], h4⟩
theorem tk_k {t : Tok} {x : List UInt8} (h : t.to 0 = tkx x) : t.k = (sc x).1.k := by have := congrArg Tok.k h; exact this
theorem tk_n {t : Tok} {x : List UInt8} (h : t.to 0 = tkx x) : t.n = (sc x).1.n := by have := congrArg Tok.n h; exact this
theorem tk_s {t : Tok} {x : List UInt8} (h : t.to 0 = tkx x) : t.s = (sc x).1.s := by have := congrArg Tok.s h; exact this
theorem q_to (t : Tok) : q (t.to 0) = q t := rfl
theorem nm_to (t : Tok) : isNm (t.to 0) = isNm t := rfl
theorem q_of {t : Tok} {x : List UInt8} (h : t.to 0 = tkx x) : q t = q (tkx x) := by rw [← q_to, h]
theorem nm_of {t : Tok} {x : List UInt8} (h : t.to 0 = tkx x) : isNm t = isNm (tkx x) := by rw [← nm_to, h]
theorem k_of {t : Tok} {x : List UInt8} (h : t.to 0 = tkx x) : t.k = (tkx x).k := by rw [← h]; rfl

/-! the reader at a token that is known -/
section
variable (e : Tok)
theorem must_c {t : Tok} {l : List Tok} {c : Nat} {x : List UInt8} (h : q t = x) : must e x ⟨t :: l, c⟩ = .ok () ⟨l, c⟩ := by
  unfold must isT
  rw [if_pos (by simp [pk, h])]
  rfl
theorem name_c {t : Tok} {l : List Tok} {c : Nat} (h : isNm t = true) : nameM e ⟨t :: l, c⟩ = .ok t ⟨l, c⟩ := by
  unfold nameM
  rw [if_pos (show isNm (pk e ⟨t :: l, c⟩) = true from h)]
  rfl
theorem add_c {h : Hd} {k : Fo} {l : List Tok} {c : Nat} (hc : c + 1 ≤ 4000) : addM h k ⟨l, c⟩ = .ok (.one h k) ⟨l, c + 1⟩ := by
  unfold addM
  rw [if_neg (by simp only; omega)]
theorem enter_c {d : Nat} {s : St} (h : d ≤ 40) : enterM e d s = .ok () s := by unfold enterM; rw [if_neg (by omega)]
end

/-- Same but for the places. -/
def Sm (x y : Fo) : Prop := x.bare = y.bare
theorem Sm.one {h h' : Hd} {k k' : Fo} (h1 : h'.bare = h.bare) (h2 : Sm k' k) : Sm (.one h' k') (.one h k) := by
  simp only [Sm, Fo.one, Fo.bare] at *
  rw [h1, h2]
theorem Fo.bare_app (x y : Fo) : (x.app y).bare = x.bare.app y.bare := by
  induction x with
  | nil => rfl
  | cons h k r _ ih => simp only [Fo.app, Fo.bare, ih]
theorem Sm.app {x x' y y' : Fo} (h1 : Sm x' x) (h2 : Sm y' y) : Sm (x'.app y') (x.app y) := by
  simp only [Sm, Fo.bare_app] at *
  rw [h1, h2]
theorem Sm.size {x y : Fo} (h : Sm x y) : x.size = y.size := by rw [← Fo.size_bare x, h, Fo.size_bare]

/-! what is read of an item's tokens -/
section
variable (e : Tok)
/-- How deep an expression's kids stand, if it is a binary sign's. -/
def dpt (d lv : Nat) (h : Hd) : Nat := if h.op = 5 ∧ lvl h.s < lv then d + 1 else d
/-- Behind it stands no parenthesis and no bracket that opens. -/
def NC (R : List Tok) : Prop := q (R.headD e) ≠ [40] ∧ q (R.headD e) ≠ [91]
theorem NC.lv {R : List Tok} (h : 1 ≤ lvl (q (R.headD e))) : NC e R := by
  constructor <;> (intro h'; rw [h'] at h; simp [lvl] at h)
/-- An expression, not enclosed: behind it the reader goes on with it in hand. -/
def RdP (d : Nat) (h : Hd) (k : Fo) : Prop := ∀ (l : Nat) (ts R : List Tok) (c n : Nat), NC e R → 1 ≤ l → (h.op = 5 → l ≤ lvl h.s ∧ lvl (q (R.headD e)) ≤ lvl h.s) → Lx ts (nodeT h k.tk) → c + (k.size + 1) ≤ 4000 → 2 + 4 * (ts.length + R.length) ≤ n + 1 →
  ∃ x' m, Sm x' (.one h k) ∧ 1 + 4 * R.length ≤ m ∧ run e (n + 1) (.bin d l) ⟨ts ++ R, c⟩ = run e m (.loop d l x') ⟨R, c + (k.size + 1)⟩
/-- An operand. -/
def RdO (d : Nat) (h : Hd) (k : Fo) : Prop := ∀ (ts R : List Tok) (c n : Nat), NC e R → Lx ts (nodeT h k.tk) → c + (k.size + 1) ≤ 4000 → 1 + 4 * (ts.length + R.length) ≤ n →
  ∃ x', Sm x' (.one h k) ∧ run e n (.opd d) ⟨ts ++ R, c⟩ = .ok x' ⟨R, c + (k.size + 1)⟩
/-- Its first token is no type. -/
def Fst (h : Hd) (k : Fo) : Prop := ∃ x xs, nodeT h k.tk = x :: xs ∧ typeNo (q (tkx x)) = none ∧ q (tkx x) ≠ [41] ∧ q (tkx x) ≠ [59]
def RdE (d lv : Nat) (h : Hd) (k : Fo) : Prop := Fst h k ∧ RdP e (dpt d lv h) h k ∧ (h.op ≠ 5 → RdO e d h k) ∧ (h.op = 5 → (lvl h.s < lv → d ≤ 40) ∧ 1 ≤ lvl h.s)
/-- An expression as it is printed where a level must stand. -/
def encT (lv : Nat) (h : Hd) (t : Tx) : Tx := if h.op = 5 ∧ lvl h.s < lv then [40] :: (t ++ [[41]]) else t
theorem loop_stop {m d l : Nat} {x : Fo} {R : List Tok} {c : Nat} (hm : 1 ≤ m) (h : lvl (q (R.headD e)) < l) : run e m (.loop d l x) ⟨R, c⟩ = .ok x ⟨R, c⟩ := by
  obtain ⟨m, rfl⟩ : ∃ m', m = m' + 1 := ⟨m - 1, by omega⟩
  show loopB e (run e m) d l x ⟨R, c⟩ = _
  unfold loopB
  rw [if_pos (show lvl (q (pk e ⟨R, c⟩)) < l from h)]
theorem tx40 : q (tkx [40]) = [40] ∧ isNm (tkx [40]) = false ∧ (tkx [40]).k = 3 := by decide
theorem tx41 : q (tkx [41]) = [41] ∧ isNm (tkx [41]) = false ∧ (tkx [41]).k = 3 := by decide
/-- In parentheses. -/
theorem RdE.enc {d lv : Nat} {h : Hd} {k : Fo} (hE : RdE e d lv h k) (h5 : h.op = 5) (hl : lvl h.s < lv) {ts R : List Tok} {c n : Nat} (hx : Lx ts ([40] :: (nodeT h k.tk ++ [[41]]))) (hc : c + (k.size + 1) ≤ 4000) (hn : 1 + 4 * (ts.length + R.length) ≤ n) :
    ∃ x', Sm x' (.one h k) ∧ run e n (.opd d) ⟨ts ++ R, c⟩ = .ok x' ⟨R, c + (k.size + 1)⟩ := by
  obtain ⟨t, ts1, rfl, ht, hx1⟩ := Lx.cons_inv hx
  obtain ⟨t2, t3, rfl, hx2, hx3⟩ := Lx.app_inv hx1
  obtain ⟨t4, t5, rfl, ht4, hx4⟩ := Lx.cons_inv hx3
  obtain rfl := Lx.nil_inv hx4
  obtain ⟨⟨f, fs, hf, hf1, hf2⟩, hP, -, hd⟩ := hE
  obtain ⟨hd1, hd2⟩ := hd h5
  have hd40 := hd1 hl
  simp only [dpt, h5, hl, and_self, if_true] at hP
  obtain ⟨n, rfl⟩ : ∃ n', n = n' + 1 := ⟨n - 1, by omega⟩
  obtain ⟨n, rfl⟩ : ∃ n', n = n' + 1 := ⟨n - 1, by simp only [List.length_cons] at hn; omega⟩
  have hq4 : q t4 = [41] := (q_of ht4).trans tx41.1
  obtain ⟨x', m, s1, s2, s3⟩ := hP 1 t2 (t4 :: R) c n (by constructor <;> (rw [List.headD_cons, hq4]; simp)) (Nat.le_refl _) (fun _ => ⟨hd2, by rw [List.headD_cons, hq4]; simp [lvl]⟩) hx2 hc (by simp only [List.length_cons, List.length_append, List.length_nil] at *; omega)
  have s4 := loop_stop e (m := m) (d := d + 1) (l := 1) (x := x') (R := t4 :: R) (c := c + (k.size + 1)) (by omega) (by rw [List.headD_cons, hq4]; simp [lvl])
  refine ⟨x', s1, ?_⟩
  have hq : q t = [40] := (q_of ht).trans tx40.1
  have hk : t.k = 3 := (k_of ht).trans tx40.2.2
  have hnm : isNm t = false := (nm_of ht).trans tx40.2.1
  obtain ⟨u, us, rfl, hu, -⟩ := Lx.cons_inv (hf ▸ hx2)
  have hqu : typeNo (q u) = none := by rw [q_of hu]; exact hf1
  show opdB e (run e (n + 1)) d ⟨t :: (u :: us ++ (t4 :: [])) ++ R, c⟩ = _
  have e0 : (⟨t :: (u :: us ++ (t4 :: [])) ++ R, c⟩ : St) = ⟨t :: (u :: (us ++ (t4 :: R))), c⟩ := by simp
  rw [e0]
  unfold opdB
  rw [enter_c e hd40, Rs.bind_ok]
  have hpk : pk e ⟨t :: (u :: (us ++ (t4 :: R))), c⟩ = t := rfl
  rw [hpk, if_neg (by omega), if_neg (by simp [hnm]), if_neg (by rw [hq]; simp), if_pos hq]
  unfold encB
  have hpk2 : pk e (St.nx ⟨t :: (u :: (us ++ (t4 :: R))), c⟩) = u := rfl
  rw [hpk2, hqu]
  show encE e (run e (n + 1)) d ⟨u :: (us ++ (t4 :: R)), c⟩ = _
  unfold encE
  have e1 : (⟨u :: (us ++ (t4 :: R)), c⟩ : St) = ⟨u :: us ++ (t4 :: R), c⟩ := rfl
  rw [e1, s3, s4, Rs.bind_ok, must_c e hq4, Rs.bind_ok]
/-- As an operand. -/
theorem RdE.opd {d lv : Nat} {h : Hd} {k : Fo} (hE : RdE e d lv h k) (hlv : h.op = 5 → lvl h.s < lv) {ts R : List Tok} {c n : Nat} (hNC : NC e R) (hx : Lx ts (encT lv h (nodeT h k.tk))) (hc : c + (k.size + 1) ≤ 4000) (hn : 1 + 4 * (ts.length + R.length) ≤ n) :
    ∃ x', Sm x' (.one h k) ∧ run e n (.opd d) ⟨ts ++ R, c⟩ = .ok x' ⟨R, c + (k.size + 1)⟩ := by
  by_cases h5 : h.op = 5
  · rw [encT, if_pos ⟨h5, hlv h5⟩] at hx
    exact hE.enc e h5 (hlv h5) hx hc hn
  · rw [encT, if_neg (fun h' => h5 h'.1)] at hx
    exact hE.2.2.1 h5 ts R c n hNC hx hc hn
/-- Where a level must stand, and nothing behind it binds. -/
theorem RdE.bin {d lv : Nat} {h : Hd} {k : Fo} (hE : RdE e d lv h k) (hlv : 1 ≤ lv) {ts R : List Tok} {c n : Nat} (hNC : NC e R) (hR : lvl (q (R.headD e)) < lv) (hx : Lx ts (encT lv h (nodeT h k.tk))) (hc : c + (k.size + 1) ≤ 4000) (hn : 2 + 4 * (ts.length + R.length) ≤ n) :
    ∃ x', Sm x' (.one h k) ∧ run e n (.bin d lv) ⟨ts ++ R, c⟩ = .ok x' ⟨R, c + (k.size + 1)⟩ := by
  obtain ⟨n, rfl⟩ : ∃ n', n = n' + 1 := ⟨n - 1, by omega⟩
  by_cases h5 : h.op = 5 ∧ lvl h.s < lv
  · rw [encT, if_pos h5] at hx
    obtain ⟨x', s1, s2⟩ := hE.enc e h5.1 h5.2 (n := n) (R := R) hx hc (by omega)
    refine ⟨x', s1, ?_⟩
    show binB (run e n) d lv _ = _
    unfold binB
    rw [s2, Rs.bind_ok]
    exact loop_stop e (by omega) hR
  · rw [encT, if_neg h5] at hx
    have hP := hE.2.1
    rw [dpt, if_neg h5] at hP
    obtain ⟨x', m, s1, s2, s3⟩ := hP lv ts R c n hNC hlv (fun h' => by
      have : ¬ lvl h.s < lv := fun h'' => h5 ⟨h', h''⟩
      omega) hx hc (by omega)
    exact ⟨x', s1, by rw [s3]; exact loop_stop e (by omega) hR⟩
/-- One that is no binary sign's. -/
theorem RdE.of {d lv : Nat} {h : Hd} {k : Fo} (h5 : h.op ≠ 5) (hf : Fst h k) (hO : RdO e d h k) : RdE e d lv h k := by
  refine ⟨hf, ?_, fun _ => hO, fun h' => absurd h' h5⟩
  rw [dpt, if_neg (fun h' => h5 h'.1)]
  intro l ts R c n hNC hl _ hx hc hn
  obtain ⟨x', s1, s2⟩ := hO ts R c n hNC hx hc (by omega)
  refine ⟨x', n, s1, by omega, ?_⟩
  show binB (run e n) d l _ = _
  unfold binB
  rw [s2, Rs.bind_ok]
end
end Go.Proofs.YtlbjjpfhkgagiaaGreatDoor
/-! Pub -/
namespace Go.Proofs.YtlbjjpfhkgagiaaGreatDoor
set_option linter.unusedVariables false
set_option linter.unusedSimpArgs false
set_option linter.unusedSectionVars false

/-- A text that is one token. -/
structure LexG (x : List UInt8) : Prop where
  ne : x ≠ []
  sc : (sc x).2 = (x.length, 0)
  sk : sk false x = 0
/-- A token that was lexed: its text is that token. -/
structure TkG (t : Tok) : Prop where
  v : TkV t
  g : t.k ≠ 4 → LexG (txt t) ∧ (tkx (txt t)).k = t.k ∧ (tkx (txt t)).n = t.n ∧ (tkx (txt t)).s = t.s
  m : t.k = 2 → t.s = [] ∨ t.s = [76]
/-- A name's text. -/
structure NmG (x : List UInt8) : Prop where
  g : LexG x
  k : (tkx x).k = 1
  s : (tkx x).s = x
  nm : isNm (tkx x) = true
  q : q (tkx x) = []
theorem Nm.g {x : List UInt8} (h : Nm TkG x) : NmG x := by
  obtain ⟨t, h1, h2, rfl⟩ := h
  have hk : t.k = 1 := by simp only [isNm, Bool.and_eq_true] at h2; exact of_decide_eq_true h2.1
  have hw : isW t.s = false := by simp only [isNm, Bool.and_eq_true] at h2; simpa using h2.2
  obtain ⟨g1, g2, g3, g4⟩ := h1.g (by omega)
  have ht : txt t = t.s := by rw [txt, if_neg (by omega)]
  rw [ht] at g1 g2 g3 g4
  refine ⟨g1, by rw [g2, hk], g4, ?_, ?_⟩
  · simp [isNm, g2, hk, g4, hw]
  · simp [q, g2, hk, g4, hw]

section
variable (e : Tok)
theorem lvl41 : lvl [41] = 0 := by decide
theorem RdE.enc1 {d : Nat} {h : Hd} {k : Fo} (hE : RdE e d 1 h k) (t : Tx) : encT 1 h t = t := by
  unfold encT
  rw [if_neg]
  rintro ⟨h5, hl⟩
  have := (hE.2.2.2 h5).2
  omega
theorem kid_11 {h h' : Hd} {i : Nat} {t : Tx} (ho : h.op = 4 ∨ h.op = 6) : kidT h i (some (h', t)) = encT 11 h' t := by
  have hl := lvl_le h'.s
  have hl2 : lvl h'.s < 11 := by omega
  unfold kidT encl encT
  by_cases h5 : h'.op = 5
  · simp [h5, ho, hl2]
  · simp [h5]
theorem kid_0 {h h' : Hd} {t : Tx} (ho : h.op = 5) : kidT h 0 (some (h', t)) = encT (lvl h.s) h' t := by
  unfold kidT encl encT
  by_cases h5 : h'.op = 5
  · simp [h5, ho]
  · simp [h5]
theorem kid_1 {h h' : Hd} {t : Tx} (ho : h.op = 5) : kidT h 1 (some (h', t)) = encT (lvl h.s + 1) h' t := by
  unfold kidT encl encT
  by_cases h5 : h'.op = 5
  · simp [h5, ho, Nat.lt_succ_iff]
  · simp [h5]
theorem kid_n {h h' : Hd} {i : Nat} {t : Tx} (ho : h.op ≠ 4 ∧ h.op ≠ 5 ∧ h.op ≠ 6) : kidT h i (some (h', t)) = t := by
  unfold kidT encl
  by_cases h5 : h'.op = 5
  · simp [h5, ho]
  · simp [h5]
theorem tx91 : q (tkx [91]) = [91] := by decide
theorem tx93 : q (tkx [93]) = [93] := by decide
theorem tx44 : q (tkx [44]) = [44] := by decide

theorem num_r {d lv : Nat} {h : Hd} (ho : h.op = 1) (hd : d ≤ 40) (ht : ∃ t, TkG t ∧ t.k = 2 ∧ t.n = h.n ∧ h.ty = if t.s = [76] then 2 else 1) (hs : h.s = []) (hto : h.to = 0) : RdE e d lv h .nil := by
  obtain ⟨t, h1, h2, h3, h4⟩ := ht
  obtain ⟨g1, g2, g3, g4⟩ := h1.g (by omega)
  have hdg : digL h = txt t := by
    rw [digL, txt, if_pos h2, h3, h4]
    rcases h1.m h2 with h5 | h5 <;> simp [h5]
  have hT : nodeT h Fo.nil.tk = [digL h] := by simp [nodeT, patL, ho, partT]
  rw [← hdg] at g2 g3 g4
  have hq : q (tkx (digL h)) = [] := by simp [q, g2, h2]
  refine RdE.of e (by omega) ⟨_, _, hT, by rw [hq]; decide, by rw [hq]; simp⟩ ?_
  intro ts R c n _ hx hc hn
  rw [hT] at hx
  obtain ⟨t0, ts', rfl, ht0, hx1⟩ := Lx.cons_inv hx
  obtain rfl := Lx.nil_inv hx1
  obtain ⟨n, rfl⟩ : ∃ n', n = n' + 1 := ⟨n - 1, by omega⟩
  have hk0 : t0.k = 2 := by rw [k_of ht0, g2, h2]
  refine ⟨.one ⟨1, t0.p, t0.n, [], 0, if t0.s = [76] then 2 else 1⟩ .nil, ?_, ?_⟩
  · refine Sm.one ?_ rfl
    have e1 : t0.n = h.n := by have := congrArg Tok.n ht0; rw [← h3, ← g3]; exact this
    have e2 : t0.s = t.s := by have := congrArg Tok.s ht0; rw [← g4]; exact this
    simp only [Hd.bare, e1, e2, ho, hs, hto, h4]
  · show opdB e (run e n) d ⟨t0 :: R, c⟩ = _
    unfold opdB
    rw [enter_c e hd, Rs.bind_ok, if_pos (show (pk e ⟨t0 :: R, c⟩).k = 2 from hk0)]
    exact add_c (by simp only [Fo.size] at hc; omega)
theorem var_start {d n c : Nat} {t0 : Tok} {l : List Tok} {x : List UInt8} (hd : d ≤ 40) (hx : NmG x) (ht : t0.to 0 = tkx x) : run e (n + 1) (.opd d) ⟨t0 :: l, c⟩ =
    (if q (pk e ⟨l, c⟩) = [40] then callB e (run e n) t0 (d + 1) ⟨l, c⟩ else if q (pk e ⟨l, c⟩) = [91] then elemB e (run e n) t0 (d + 1) ⟨l, c⟩ else addM ⟨2, t0.p, 0, t0.s, 0, 0⟩ .nil ⟨l, c⟩) := by
  have hk0 : t0.k = 1 := by rw [k_of ht, hx.k]
  have hn0 : isNm t0 = true := by rw [nm_of ht, hx.nm]
  show opdB e (run e n) d ⟨t0 :: l, c⟩ = _
  unfold opdB
  rw [enter_c e hd, Rs.bind_ok, if_neg (show ¬ (pk e ⟨t0 :: l, c⟩).k = 2 by show ¬ t0.k = 2; omega), if_pos (show isNm (pk e ⟨t0 :: l, c⟩) = true from hn0)]
  unfold varB
  rw [name_c e hn0, Rs.bind_ok]
theorem name_r {d lv : Nat} {h : Hd} (ho : h.op = 2) (hd : d ≤ 40) (hs : NmG h.s) (hn : h.n = 0) (hto : h.to = 0) (hty : h.ty = 0) : RdE e d lv h .nil := by
  have hT : nodeT h Fo.nil.tk = [h.s] := by simp [nodeT, patL, ho, partT]
  refine RdE.of e (by omega) ⟨_, _, hT, by rw [hs.q]; decide, by rw [hs.q]; simp⟩ ?_
  intro ts R c n hNC hx hc hn'
  rw [hT] at hx
  obtain ⟨t0, ts', rfl, ht0, hx1⟩ := Lx.cons_inv hx
  obtain rfl := Lx.nil_inv hx1
  obtain ⟨n, rfl⟩ : ∃ n', n = n' + 1 := ⟨n - 1, by omega⟩
  refine ⟨.one ⟨2, t0.p, 0, t0.s, 0, 0⟩ .nil, Sm.one (by rw [Hd.bare, Hd.bare, tk_s ht0, show (sc h.s).1.s = h.s from hs.s, ho, hn, hto, hty]) rfl, ?_⟩
  rw [show [t0] ++ R = t0 :: R from rfl, var_start e hd hs ht0, if_neg (show ¬ q (pk e ⟨R, c⟩) = [40] from hNC.1), if_neg (show ¬ q (pk e ⟨R, c⟩) = [91] from hNC.2)]
  exact add_c (by simp only [Fo.size] at hc; omega)
theorem idx_r {d lv : Nat} {h h1 : Hd} {k1 : Fo} (ho : h.op = 3) (hd : d ≤ 40) (hs : NmG h.s) (hn : h.n = 0) (hto : h.to = 0) (hty : h.ty = 0) (hk : RdE e (d + 1) 1 h1 k1) : RdE e d lv h (.one h1 k1) := by
  have hT : nodeT h (Fo.one h1 k1).tk = h.s :: [91] :: (nodeT h1 k1.tk ++ [[93]]) := by simp [nodeT, patL, ho, partT, Fo.one, Fo.tk, kid_n]
  refine RdE.of e (by omega) ⟨_, _, hT, by rw [hs.q]; decide, by rw [hs.q]; simp⟩ ?_
  intro ts R c n hNC hx hc hn'
  rw [hT] at hx
  obtain ⟨t0, ts1, rfl, ht0, hx1⟩ := Lx.cons_inv hx
  obtain ⟨t1, ts2, rfl, ht1, hx2⟩ := Lx.cons_inv hx1
  obtain ⟨t2, t3, rfl, hx3, hx4⟩ := Lx.app_inv hx2
  obtain ⟨t4, t5, rfl, ht4, hx5⟩ := Lx.cons_inv hx4
  obtain rfl := Lx.nil_inv hx5
  obtain ⟨n, rfl⟩ : ∃ n', n = n' + 1 := ⟨n - 1, by omega⟩
  have q1 : q t1 = [91] := (q_of ht1).trans tx91
  have q4 : q t4 = [93] := (q_of ht4).trans tx93
  have hsz : (Fo.one h1 k1).size = k1.size + 1 := rfl
  obtain ⟨x', s1, s2⟩ := hk.bin e (Nat.le_refl _) (ts := t2) (R := t4 :: R) (c := c) (n := n) (by constructor <;> (rw [List.headD_cons, q4]; simp)) (by rw [List.headD_cons, q4]; simp [lvl]) (by rw [hk.enc1 e]; exact hx3) (by omega) (by simp only [List.length_cons, List.length_append, List.length_nil] at *; omega)
  refine ⟨.one ⟨3, t0.p, 0, t0.s, 0, 0⟩ x', Sm.one (by rw [Hd.bare, Hd.bare, tk_s ht0, show (sc h.s).1.s = h.s from hs.s, ho, hn, hto, hty]) s1, ?_⟩
  rw [show (t0 :: t1 :: (t2 ++ [t4])) ++ R = t0 :: (t1 :: (t2 ++ t4 :: R)) by simp, var_start e hd hs ht0, if_neg (show ¬ q (pk e ⟨t1 :: (t2 ++ t4 :: R), c⟩) = [40] by show ¬ q t1 = [40]; rw [q1]; simp), if_pos (show q (pk e ⟨t1 :: (t2 ++ t4 :: R), c⟩) = [91] from q1)]
  unfold elemB
  rw [must_c e q1, Rs.bind_ok, s2, Rs.bind_ok, must_c e q4, Rs.bind_ok, add_c (by omega), hsz, Nat.add_assoc]
theorem un_r {d lv : Nat} {h h1 : Hd} {k1 : Fo} (ho : h.op = 4) (hd : d ≤ 40) (hs : h.s = [45] ∨ h.s = [126] ∨ h.s = [33]) (hn : h.n = 0) (hto : h.to = 0) (hty : h.ty = 0) (hk : RdE e (d + 1) 11 h1 k1) : RdE e d lv h (.one h1 k1) := by
  have hT : nodeT h (Fo.one h1 k1).tk = h.s :: encT 11 h1 (nodeT h1 k1.tk) := by simp [nodeT, patL, ho, partT, Fo.one, Fo.tk, kid_11]
  have hq : q (tkx h.s) = h.s ∧ isNm (tkx h.s) = false ∧ (tkx h.s).k = 3 ∧ (tkx h.s).s = h.s ∧ typeNo h.s = none ∧ h.s ≠ [41] ∧ h.s ≠ [59] := by rcases hs with h' | h' | h' <;> rw [h'] <;> decide
  refine RdE.of e (by omega) ⟨_, _, hT, by rw [hq.1]; exact hq.2.2.2.2.1, by rw [hq.1]; exact hq.2.2.2.2.2⟩ ?_
  intro ts R c n hNC hx hc hn'
  rw [hT] at hx
  obtain ⟨t0, ts1, rfl, ht0, hx1⟩ := Lx.cons_inv hx
  obtain ⟨n, rfl⟩ : ∃ n', n = n' + 1 := ⟨n - 1, by omega⟩
  have q0 : q t0 = h.s := (q_of ht0).trans hq.1
  have n0 : isNm t0 = false := (nm_of ht0).trans hq.2.1
  have k0 : t0.k = 3 := (k_of ht0).trans hq.2.2.1
  have s0 : t0.s = h.s := by have := congrArg Tok.s ht0; exact this.trans hq.2.2.2.1
  have hsz : (Fo.one h1 k1).size = k1.size + 1 := rfl
  obtain ⟨x', s1, s2⟩ := hk.opd e (fun _ => by have := lvl_le h1.s; omega) (ts := ts1) (R := R) (c := c) (n := n) hNC hx1 (by omega) (by simp only [List.length_cons] at *; omega)
  refine ⟨.one ⟨4, t0.p, 0, t0.s, 0, 0⟩ x', Sm.one (by rw [Hd.bare, Hd.bare, s0, ho, hn, hto, hty]) s1, ?_⟩
  show opdB e (run e n) d ⟨t0 :: (ts1 ++ R), c⟩ = _
  unfold opdB
  have hpk : pk e ⟨t0 :: (ts1 ++ R), c⟩ = t0 := rfl
  rw [enter_c e hd, Rs.bind_ok, hpk, if_neg (by omega), if_neg (by simp [n0]), q0, if_pos hs]
  unfold unB
  rw [hpk, show (St.nx ⟨t0 :: (ts1 ++ R), c⟩) = ⟨ts1 ++ R, c⟩ from rfl, s2, Rs.bind_ok, add_c (by omega), hsz, Nat.add_assoc]
theorem tyW_q {t : Int} (h : t = 1 ∨ t = 2 ∨ t = 3) : q (tkx (typeW t)) = typeW t ∧ isNm (tkx (typeW t)) = false ∧ typeNo (typeW t) = some t := by
  rcases h with rfl | rfl | rfl <;> decide
theorem cast_r {d lv : Nat} {h h1 : Hd} {k1 : Fo} (ho : h.op = 6) (hd : d ≤ 40) (hs : h.s = []) (hn : h.n = 0) (hto : h.to = 1 ∨ h.to = 2 ∨ h.to = 3) (hty : h.ty = 0) (hk : RdE e (d + 1) 11 h1 k1) : RdE e d lv h (.one h1 k1) := by
  have hT : nodeT h (Fo.one h1 k1).tk = [40] :: typeW h.to :: [41] :: encT 11 h1 (nodeT h1 k1.tk) := by simp [nodeT, patL, ho, partT, Fo.one, Fo.tk, kid_11]
  refine RdE.of e (by omega) ⟨_, _, hT, by rw [tx40.1]; decide, by rw [tx40.1]; simp⟩ ?_
  intro ts R c n hNC hx hc hn'
  rw [hT] at hx
  obtain ⟨t0, ts1, rfl, ht0, hx1⟩ := Lx.cons_inv hx
  obtain ⟨t1, ts2, rfl, ht1, hx2⟩ := Lx.cons_inv hx1
  obtain ⟨t2, ts3, rfl, ht2, hx3⟩ := Lx.cons_inv hx2
  obtain ⟨n, rfl⟩ : ∃ n', n = n' + 1 := ⟨n - 1, by omega⟩
  have q0 : q t0 = [40] := (q_of ht0).trans tx40.1
  have n0 : isNm t0 = false := (nm_of ht0).trans tx40.2.1
  have k0 : t0.k = 3 := (k_of ht0).trans tx40.2.2
  have q1 : q t1 = typeW h.to := (q_of ht1).trans (tyW_q hto).1
  have q2 : q t2 = [41] := (q_of ht2).trans tx41.1
  have hsz : (Fo.one h1 k1).size = k1.size + 1 := rfl
  obtain ⟨x', s1, s2⟩ := hk.opd e (fun _ => by have := lvl_le h1.s; omega) (ts := ts3) (R := R) (c := c) (n := n) hNC hx3 (by omega) (by simp only [List.length_cons] at *; omega)
  refine ⟨.one ⟨6, t0.p, 0, [], h.to, 0⟩ x', Sm.one (by rw [Hd.bare, Hd.bare, ho, hs, hn, hty]) s1, ?_⟩
  show opdB e (run e n) d ⟨t0 :: (t1 :: (t2 :: (ts3 ++ R))), c⟩ = _
  unfold opdB
  have hpk : pk e ⟨t0 :: (t1 :: (t2 :: (ts3 ++ R))), c⟩ = t0 := rfl
  rw [enter_c e hd, Rs.bind_ok, hpk, if_neg (by omega), if_neg (by simp [n0]), if_neg (by rw [q0]; simp), if_pos q0]
  unfold encB
  rw [show pk e (St.nx ⟨t0 :: (t1 :: (t2 :: (ts3 ++ R))), c⟩) = t1 from rfl, q1, (tyW_q hto).2.2]
  simp only
  rw [if_neg (by omega), show (St.nx (St.nx ⟨t0 :: (t1 :: (t2 :: (ts3 ++ R))), c⟩)) = ⟨t2 :: (ts3 ++ R), c⟩ from rfl, must_c e q2, Rs.bind_ok, s2, Rs.bind_ok, hpk, add_c (by omega), hsz, Nat.add_assoc]
theorem txin : q (tkx wIn) = wIn ∧ isNm (tkx wIn) = false ∧ (tkx wIn).k = 1 := by decide
theorem in_r {d lv : Nat} {h : Hd} (ho : h.op = 8) (hd : d ≤ 40) (hs : h.s = []) (hn : h.n = 0) (hto : h.to = 0) (hty : h.ty = 0) : RdE e d lv h .nil := by
  have hT : nodeT h Fo.nil.tk = [wIn, [40], [41]] := by simp [nodeT, patL, ho, partT, wIn]
  refine RdE.of e (by omega) ⟨_, _, hT, by rw [txin.1]; decide, by rw [txin.1]; decide⟩ ?_
  intro ts R c n hNC hx hc hn'
  rw [hT] at hx
  obtain ⟨t0, ts1, rfl, ht0, hx1⟩ := Lx.cons_inv hx
  obtain ⟨t1, ts2, rfl, ht1, hx2⟩ := Lx.cons_inv hx1
  obtain ⟨t2, ts3, rfl, ht2, hx3⟩ := Lx.cons_inv hx2
  obtain rfl := Lx.nil_inv hx3
  obtain ⟨n, rfl⟩ : ∃ n', n = n' + 1 := ⟨n - 1, by omega⟩
  have q0 : q t0 = wIn := (q_of ht0).trans txin.1
  have n0 : isNm t0 = false := (nm_of ht0).trans txin.2.1
  have k0 : t0.k = 1 := (k_of ht0).trans txin.2.2
  have q1 : q t1 = [40] := (q_of ht1).trans tx40.1
  have q2 : q t2 = [41] := (q_of ht2).trans tx41.1
  refine ⟨.one ⟨8, t0.p, 0, [], 0, 0⟩ .nil, Sm.one (by rw [Hd.bare, Hd.bare, ho, hs, hn, hto, hty]) rfl, ?_⟩
  show opdB e (run e n) d ⟨t0 :: (t1 :: (t2 :: R)), c⟩ = _
  unfold opdB
  have hpk : pk e ⟨t0 :: (t1 :: (t2 :: R)), c⟩ = t0 := rfl
  rw [enter_c e hd, Rs.bind_ok, hpk, if_neg (by omega), if_neg (by simp [n0]), if_neg (by rw [q0]; decide), if_neg (by rw [q0]; decide), if_pos q0]
  unfold inB
  rw [must_c e q0, Rs.bind_ok, must_c e q1, Rs.bind_ok, must_c e q2, Rs.bind_ok, hpk]
  exact add_c (by simp only [Fo.size] at hc; omega)
/-! binary signs -/
theorem bin_tok {x : List UInt8} (h : 1 ≤ lvl x) : q (tkx x) = x ∧ (tkx x).s = x := by
  unfold lvl at h
  split at h; · rename_i e; subst e; decide
  split at h; · rename_i e; subst e; decide
  split at h; · rename_i e; subst e; decide
  split at h; · rename_i e; subst e; decide
  split at h; · rename_i e; subst e; decide
  split at h; · rename_i e; rcases e with rfl | rfl <;> decide
  split at h; · rename_i e; rcases e with rfl | rfl | rfl | rfl <;> decide
  split at h; · rename_i e; rcases e with rfl | rfl <;> decide
  split at h; · rename_i e; rcases e with rfl | rfl <;> decide
  split at h; · rename_i e; rcases e with rfl | rfl | rfl <;> decide
  omega
theorem bin_r {d lv : Nat} {h a b : Hd} {ka kb : Fo} (ho : h.op = 5) (hd : lvl h.s < lv → d ≤ 40) (hl : 1 ≤ lvl h.s) (hn : h.n = 0) (hto : h.to = 0) (hty : h.ty = 0)
    (hA : RdE e (dpt d lv h) (lvl h.s) a ka) (hB : RdE e (dpt d lv h) (lvl h.s + 1) b kb) : RdE e d lv h (.cons a ka (.one b kb)) := by
  have hT : nodeT h (Fo.cons a ka (.one b kb)).tk = encT (lvl h.s) a (nodeT a ka.tk) ++ (h.s :: encT (lvl h.s + 1) b (nodeT b kb.tk)) := by simp [nodeT, patL, ho, partT, Fo.one, Fo.tk, kid_0, kid_1]
  obtain ⟨hq, hs⟩ := bin_tok hl
  refine ⟨?_, ?_, fun h5 => absurd ho h5, fun _ => ⟨hd, hl⟩⟩
  · obtain ⟨x, xs, h1, h2, h3⟩ := hA.1
    unfold Fst
    rw [hT]
    unfold encT
    split
    · exact ⟨_, _, rfl, by rw [tx40.1]; decide, by rw [tx40.1]; simp⟩
    · exact ⟨x, xs ++ _, by rw [h1]; rfl, h2, h3⟩
  · intro l ts R c n hNC h1 h5 hx hc hn'
    obtain ⟨hl2, hR⟩ := h5 ho
    rw [hT] at hx
    obtain ⟨ta, tb, rfl, hxa, hx1⟩ := Lx.app_inv hx
    obtain ⟨t0, tc, rfl, ht0, hxb⟩ := Lx.cons_inv hx1
    have q0 : q t0 = h.s := (q_of ht0).trans hq
    have s0 : t0.s = h.s := by have := congrArg Tok.s ht0; exact this.trans hs
    have hsz : (Fo.cons a ka (.one b kb)).size = ka.size + 1 + (kb.size + 1) := rfl
    rw [hsz] at hc
    -- the left kid
    obtain ⟨x', m, s1, s2, s3⟩ : ∃ x' m, Sm x' (.one a ka) ∧ 1 + 4 * (t0 :: (tc ++ R)).length ≤ m ∧ run e (n + 1) (.bin (dpt d lv h) l) ⟨ta ++ (t0 :: (tc ++ R)), c⟩ = run e m (.loop (dpt d lv h) l x') ⟨t0 :: (tc ++ R), c + (ka.size + 1)⟩ := by
      by_cases h6 : a.op = 5 ∧ lvl a.s < lvl h.s
      · rw [encT, if_pos h6] at hxa
        obtain ⟨x', s1, s2⟩ := hA.enc e h6.1 h6.2 (n := n) (R := t0 :: (tc ++ R)) (c := c) hxa (by omega) (by simp only [List.length_cons, List.length_append] at *; omega)
        refine ⟨x', n, s1, by simp only [List.length_cons, List.length_append] at *; omega, ?_⟩
        show binB (run e n) (dpt d lv h) l _ = _
        unfold binB
        rw [s2, Rs.bind_ok]
      · rw [encT, if_neg h6] at hxa
        have hP := hA.2.1
        rw [dpt, if_neg h6] at hP
        refine hP l ta (t0 :: (tc ++ R)) c n ?_ h1 (fun h7 => ?_) hxa (by omega) (by simp only [List.length_cons, List.length_append] at *; omega)
        · constructor <;> (rw [List.headD_cons, q0]; intro h'; rw [h'] at hl; simp [lvl] at hl)
        · have h8 : ¬ lvl a.s < lvl h.s := fun h' => h6 ⟨h7, h'⟩
          rw [List.headD_cons, q0]
          omega
    -- the sign and the right kid
    obtain ⟨m, rfl⟩ : ∃ m', m = m' + 1 := ⟨m - 1, by omega⟩
    obtain ⟨y', r1, r2⟩ := hB.bin e (by omega) (ts := tc) (R := R) (c := c + (ka.size + 1)) (n := m) hNC (by omega) hxb (by omega) (by simp only [List.length_cons, List.length_append] at *; omega)
    refine ⟨.one ⟨5, t0.p, 0, t0.s, 0, 0⟩ (x'.app y'), m, Sm.one (by rw [Hd.bare, Hd.bare, s0, ho, hn, hto, hty]) (Sm.app s1 r1), by simp only [List.length_cons, List.length_append] at *; omega, ?_⟩
    rw [show (ta ++ t0 :: tc) ++ R = ta ++ (t0 :: (tc ++ R)) by simp, s3]
    show loopB e (run e m) (dpt d lv h) l x' ⟨t0 :: (tc ++ R), c + (ka.size + 1)⟩ = _
    unfold loopB
    have hpk : pk e ⟨t0 :: (tc ++ R), c + (ka.size + 1)⟩ = t0 := rfl
    rw [hpk, q0, if_neg (by omega), show (St.nx ⟨t0 :: (tc ++ R), c + (ka.size + 1)⟩) = ⟨tc ++ R, c + (ka.size + 1)⟩ from rfl, r2, Rs.bind_ok, add_c (by omega), Rs.bind_ok, hsz]
    congr 2
    omega

theorem isT_y {s : St} {x : List UInt8} (h : q (s.l.headD e) = x) : isT e x s = true := decide_eq_true h
theorem isT_n {s : St} {x : List UInt8} (h : q (s.l.headD e) ≠ x) : ¬ isT e x s = true := fun h' => h (of_decide_eq_true h')

theorem isT_yc {t : Tok} {l : List Tok} {c : Nat} {x : List UInt8} (h : q t = x) : isT e x ⟨t :: l, c⟩ = true := decide_eq_true h
theorem isT_nc {t : Tok} {l : List Tok} {c : Nat} {x : List UInt8} (h : q t ≠ x) : ¬ isT e x ⟨t :: l, c⟩ = true := fun h' => h (of_decide_eq_true h')

/-! what a list of items is read as -/
/-- A call's parentheses and what stands in them. -/
def RdC (dd : Nat) (h : Hd) (k : Fo) : Prop := ∀ (f : Tok) (ts R : List Tok) (c n : Nat), f.s = h.s → Lx ts ([40] :: (sepT [44] k.tk ++ [[41]])) → c + (k.size + 1) ≤ 4000 → 4 * (ts.length + R.length) ≤ n →
  ∃ x', Sm x' (.one h k) ∧ callB e (run e n) f dd ⟨ts ++ R, c⟩ = .ok x' ⟨R, c + (k.size + 1)⟩
/-- Arguments, each read as an expression. -/
def RdA (d : Nat) : Fo → Prop
  | .nil => True
  | .cons h k r => RdE e d 1 h k ∧ RdA d r
theorem args_r {d : Nat} : ∀ (k : Fo), k ≠ .nil → RdA e d k → ∀ (ts R : List Tok) (c n : Nat), q (R.headD e) = [41] → Lx ts (sepT [44] k.tk) → c + k.size ≤ 4000 → 3 + 4 * (ts.length + R.length) ≤ n →
    ∃ x', Sm x' k ∧ run e n (.args d) ⟨ts ++ R, c⟩ = .ok x' ⟨R, c + k.size⟩ := by
  intro k
  induction k with
  | nil => intro h; exact absurd rfl h
  | cons h k r _ ih =>
    intro _ hA ts R c n hR hx hc hn
    obtain ⟨n, rfl⟩ : ∃ n', n = n' + 1 := ⟨n - 1, by omega⟩
    cases r with
    | nil =>
      simp only [Fo.tk, sepT, List.flatMap_nil, List.append_nil] at hx
      obtain ⟨x', s1, s2⟩ := hA.1.bin e (Nat.le_refl _) (ts := ts) (R := R) (c := c) (n := n) (by constructor <;> (rw [hR]; simp)) (by rw [hR]; simp [lvl]) (by rw [hA.1.enc1 e]; exact hx) (by simp only [Fo.size] at hc; omega) (by omega)
      refine ⟨x', s1, ?_⟩
      show argsB e (run e n) d ⟨ts ++ R, c⟩ = _
      unfold argsB
      rw [s2, Rs.bind_ok, if_neg (isT_n e (show q (R.headD e) ≠ [44] by rw [hR]; simp))]
      rfl
    | cons h2 k2 r2 =>
      have hsz : (Fo.cons h k (.cons h2 k2 r2)).size = k.size + 1 + (Fo.cons h2 k2 r2).size := rfl
      have hT : sepT [44] (Fo.cons h k (.cons h2 k2 r2)).tk = nodeT h k.tk ++ ([44] :: sepT [44] (Fo.cons h2 k2 r2).tk) := by simp [Fo.tk, sepT]
      rw [hT] at hx
      obtain ⟨ta, tb, rfl, hxa, hx1⟩ := Lx.app_inv hx
      obtain ⟨t0, tc, rfl, ht0, hxb⟩ := Lx.cons_inv hx1
      have q0 : q t0 = [44] := (q_of ht0).trans tx44
      obtain ⟨x', s1, s2⟩ := hA.1.bin e (Nat.le_refl _) (ts := ta) (R := t0 :: (tc ++ R)) (c := c) (n := n) (by constructor <;> (rw [List.headD_cons, q0]; simp)) (by rw [List.headD_cons, q0]; simp [lvl]) (by rw [hA.1.enc1 e]; exact hxa) (by omega) (by simp only [List.length_cons, List.length_append] at *; omega)
      obtain ⟨y', r1, r2'⟩ := ih (by simp) hA.2 tc R (c + (k.size + 1)) n hR hxb (by omega) (by simp only [List.length_cons, List.length_append] at *; omega)
      refine ⟨x'.app y', by have := Sm.app s1 r1; simpa [Sm, Fo.one, Fo.bare, Fo.app] using this, ?_⟩
      rw [show (ta ++ t0 :: tc) ++ R = ta ++ (t0 :: (tc ++ R)) by simp]
      show argsB e (run e n) d ⟨ta ++ (t0 :: (tc ++ R)), c⟩ = _
      unfold argsB
      rw [s2, Rs.bind_ok, if_pos (isT_yc e q0), show (St.nx ⟨t0 :: (tc ++ R), c + (k.size + 1)⟩) = ⟨tc ++ R, c + (k.size + 1)⟩ from rfl, r2', Rs.bind_ok, hsz, Nat.add_assoc c]
/-- The first text of arguments is no parenthesis that shuts. -/
theorem args_fst {d : Nat} {k : Fo} (hk : k ≠ .nil) (hA : RdA e d k) : ∃ x xs, sepT [44] k.tk = x :: xs ∧ q (tkx x) ≠ [41] := by
  cases k with
  | nil => exact absurd rfl hk
  | cons h k r =>
    obtain ⟨x, xs, h1, h2, h3⟩ := hA.1.1
    exact ⟨x, xs ++ _, by simp only [Fo.tk, sepT, h1]; rfl, h3.1⟩
theorem call_c {d : Nat} {h : Hd} {k : Fo} (ho : h.op = 7) (hn : h.n = 0) (hto : h.to = 0) (hty : h.ty = 0) (hA : RdA e d k) : RdC e d h k := by
  intro f ts R c n hf hx hc hn'
  obtain ⟨t0, ts1, rfl, ht0, hx1⟩ := Lx.cons_inv hx
  obtain ⟨t1, t2, rfl, hx2, hx3⟩ := Lx.app_inv hx1
  obtain ⟨t3, t4, rfl, ht3, hx4⟩ := Lx.cons_inv hx3
  obtain rfl := Lx.nil_inv hx4
  have q0 : q t0 = [40] := (q_of ht0).trans tx40.1
  have q3 : q t3 = [41] := (q_of ht3).trans tx41.1
  rw [show (t0 :: (t1 ++ [t3])) ++ R = t0 :: (t1 ++ t3 :: R) by simp]
  by_cases hk : k = .nil
  · subst hk
    obtain rfl := Lx.nil_inv (show Lx t1 [] from hx2)
    refine ⟨.one ⟨7, f.p, 0, f.s, 0, 0⟩ .nil, Sm.one (by rw [Hd.bare, Hd.bare, hf, ho, hn, hto, hty]) rfl, ?_⟩
    unfold callB
    rw [must_c e q0, Rs.bind_ok, List.nil_append, if_pos (isT_yc e q3), Rs.bind_ok, must_c e q3, Rs.bind_ok]
    exact add_c (by simp only [Fo.size] at hc; omega)
  · obtain ⟨x', s1, s2⟩ := args_r e k hk hA t1 (t3 :: R) c n (by rw [List.headD_cons]; exact q3) hx2 (by omega) (by simp only [List.length_cons, List.length_append, List.length_nil] at *; omega)
    obtain ⟨x, xs, h1, h2⟩ := args_fst e hk hA
    obtain ⟨t5, t6, rfl, ht5, -⟩ := Lx.cons_inv (h1 ▸ hx2)
    refine ⟨.one ⟨7, f.p, 0, f.s, 0, 0⟩ x', Sm.one (by rw [Hd.bare, Hd.bare, hf, ho, hn, hto, hty]) s1, ?_⟩
    unfold callB
    rw [must_c e q0, Rs.bind_ok, if_neg (show ¬ isT e [41] ⟨t5 :: t6 ++ t3 :: R, c⟩ = true from isT_nc e (by rw [q_of ht5]; exact h2)), s2, Rs.bind_ok, must_c e q3, Rs.bind_ok, add_c (by omega), Nat.add_assoc]
theorem call_r {d lv : Nat} {h : Hd} {k : Fo} (ho : h.op = 7) (hd : d ≤ 40) (hs : NmG h.s) (hn : h.n = 0) (hto : h.to = 0) (hty : h.ty = 0) (hA : RdA e (d + 1) k) : RdE e d lv h k := by
  have hT : nodeT h k.tk = h.s :: [40] :: (sepT [44] k.tk ++ [[41]]) := by simp [nodeT, patL, ho, partT]
  refine RdE.of e (by omega) ⟨_, _, hT, by rw [hs.q]; decide, by rw [hs.q]; simp⟩ ?_
  intro ts R c n hNC hx hc hn'
  rw [hT] at hx
  obtain ⟨t0, ts1, rfl, ht0, hx1⟩ := Lx.cons_inv hx
  obtain ⟨n, rfl⟩ : ∃ n', n = n' + 1 := ⟨n - 1, by omega⟩
  have s0 : t0.s = h.s := by have := congrArg Tok.s ht0; exact this.trans hs.s
  obtain ⟨x', s1, s2⟩ := call_c e ho hn hto hty hA t0 ts1 R c n s0 hx1 hc (by simp only [List.length_cons] at *; omega)
  refine ⟨x', s1, ?_⟩
  obtain ⟨t1, ts2, rfl, ht1, -⟩ := Lx.cons_inv hx1
  have q1 : q t1 = [40] := (q_of ht1).trans tx40.1
  rw [show (t0 :: t1 :: ts2) ++ R = t0 :: ((t1 :: ts2) ++ R) from rfl, var_start e hd hs ht0, if_pos (show q (pk e ⟨t1 :: ts2 ++ R, c⟩) = [40] from q1), s2]
end
end Go.Proofs.YtlbjjpfhkgagiaaGreatDoor
/-! Puc -/
namespace Go.Proofs.YtlbjjpfhkgagiaaGreatDoor
set_option linter.unusedVariables false
set_option linter.unusedSimpArgs false
set_option linter.unusedSectionVars false

section
variable (e : Tok)
/-- A statement. -/
def RdS (d : Nat) (cl : Bool) (h : Hd) (k : Fo) : Prop := (∃ x xs, nodeT h k.tk = x :: xs ∧ q (tkx x) ≠ wElse ∧ q (tkx x) ≠ [125]) ∧
  ∀ (ts R : List Tok) (c n : Nat), (cl = false → q (R.headD e) ≠ wElse) → Lx ts (nodeT h k.tk) → c + (k.size + 1) ≤ 4000 → 1 + 4 * (ts.length + R.length) ≤ n →
    ∃ x', Sm x' (.one h k) ∧ run e n (.stm d) ⟨ts ++ R, c⟩ = .ok x' ⟨R, c + (k.size + 1)⟩
theorem txs59 : q (tkx [59]) = [59] := by decide
theorem txs61 : q (tkx [61]) = [61] := by decide
theorem txs58 : q (tkx [58]) = [58] := by decide
theorem txs123 : q (tkx [123]) = [123] ∧ isNm (tkx [123]) = false := by decide
theorem txs125 : q (tkx [125]) = [125] ∧ isNm (tkx [125]) = false := by decide
theorem txIf : q (tkx wIf) = wIf ∧ isNm (tkx wIf) = false := by decide
theorem txElse : q (tkx wElse) = wElse ∧ isNm (tkx wElse) = false := by decide
theorem txWhile : q (tkx wWhile) = wWhile ∧ isNm (tkx wWhile) = false := by decide
theorem txGoto : q (tkx wGoto) = wGoto ∧ isNm (tkx wGoto) = false := by decide
theorem txReturn : q (tkx wReturn) = wReturn ∧ isNm (tkx wReturn) = false := by decide
theorem txOut : q (tkx wOut) = wOut ∧ isNm (tkx wOut) = false := by decide

/-- An expression that stands ahead of a sign that does not bind. -/
theorem RdE.ex {d : Nat} {h : Hd} {k : Fo} (hE : RdE e d 1 h k) {ts R : List Tok} {t : Tok} {c n : Nat} {x : List UInt8} (hq : q t = x) (hx1 : lvl x = 0) (hx2 : x ≠ [40]) (hx3 : x ≠ [91]) (hx : Lx ts (nodeT h k.tk)) (hc : c + (k.size + 1) ≤ 4000) (hn : 2 + 4 * (ts.length + (t :: R).length) ≤ n) :
    ∃ x', Sm x' (.one h k) ∧ run e n (.bin d 1) ⟨ts ++ (t :: R), c⟩ = .ok x' ⟨t :: R, c + (k.size + 1)⟩ :=
  hE.bin e (Nat.le_refl _) (by constructor <;> (rw [List.headD_cons, hq]; assumption)) (by rw [List.headD_cons, hq, hx1]; exact Nat.zero_lt_one) (by rw [hE.enc1 e]; exact hx) hc hn
theorem named_start {d n c : Nat} {t0 : Tok} {l : List Tok} {x : List UInt8} (hd : d ≤ 40) (hx : NmG x) (ht : t0.to 0 = tkx x) : run e (n + 1) (.stm d) ⟨t0 :: l, c⟩ = namedB e (run e n) d ⟨t0 :: l, c⟩ := by
  have hn0 : isNm t0 = true := by rw [nm_of ht, hx.nm]
  show stmB e (run e n) d ⟨t0 :: l, c⟩ = _
  unfold stmB
  rw [enter_c e hd, Rs.bind_ok, if_pos (show isNm (pk e ⟨t0 :: l, c⟩) = true from hn0)]
theorem word_start {d n c : Nat} {t0 : Tok} {l : List Tok} (hd : d ≤ 40) (hn : isNm t0 = false) : run e (n + 1) (.stm d) ⟨t0 :: l, c⟩ =
    if q t0 = [123] then blockB e (run e n) d ⟨t0 :: l, c⟩ else if q t0 = wInt then localB e (run e n) d ⟨t0 :: l, c⟩ else if q t0 = wLong then localB e (run e n) d ⟨t0 :: l, c⟩
    else if q t0 = wIf then ifB e (run e n) d ⟨t0 :: l, c⟩ else if q t0 = wWhile then whileB e (run e n) d ⟨t0 :: l, c⟩ else if q t0 = wGoto then gotoB e d ⟨t0 :: l, c⟩
    else if q t0 = wReturn then retB e (run e n) d ⟨t0 :: l, c⟩ else if q t0 = wOut then outB e (run e n) d ⟨t0 :: l, c⟩ else wr e 2 ⟨t0 :: l, c⟩ := by
  show stmB e (run e n) d ⟨t0 :: l, c⟩ = _
  unfold stmB
  rw [enter_c e hd, Rs.bind_ok, if_neg (show ¬ isNm (pk e ⟨t0 :: l, c⟩) = true by show ¬ isNm t0 = true; simp [hn])]
  rfl
theorem assign_r {d : Nat} {cl : Bool} {h h1 : Hd} {k1 : Fo} (ho : h.op = 13) (hd : d ≤ 40) (hs : NmG h.s) (hn : h.n = 0) (hto : h.to = 0) (hty : h.ty = 0) (hk : RdE e (d + 1) 1 h1 k1) : RdS e d cl h (.one h1 k1) := by
  have hT : nodeT h (Fo.one h1 k1).tk = h.s :: [61] :: (nodeT h1 k1.tk ++ [[59]]) := by simp [nodeT, patL, ho, partT, Fo.one, Fo.tk, kid_n]
  refine ⟨⟨_, _, hT, by rw [hs.q]; decide, by rw [hs.q]; simp⟩, ?_⟩
  intro ts R c n _ hx hc hn'
  rw [hT] at hx
  obtain ⟨t0, ts1, rfl, ht0, hx1⟩ := Lx.cons_inv hx
  obtain ⟨t1, ts2, rfl, ht1, hx2⟩ := Lx.cons_inv hx1
  obtain ⟨t2, t3, rfl, hx3, hx4⟩ := Lx.app_inv hx2
  obtain ⟨t4, t5, rfl, ht4, hx5⟩ := Lx.cons_inv hx4
  obtain rfl := Lx.nil_inv hx5
  obtain ⟨n, rfl⟩ : ∃ n', n = n' + 1 := ⟨n - 1, by omega⟩
  have q1 : q t1 = [61] := (q_of ht1).trans txs61
  have q4 : q t4 = [59] := (q_of ht4).trans txs59
  have n0 : isNm t0 = true := by rw [nm_of ht0, hs.nm]
  have s0 : t0.s = h.s := by have := congrArg Tok.s ht0; exact this.trans hs.s
  have hsz : (Fo.one h1 k1).size = k1.size + 1 := rfl
  obtain ⟨x', s1, s2⟩ := hk.ex e (ts := t2) (R := R) (t := t4) (c := c) (n := n) q4 (by decide) (by decide) (by decide) hx3 (by omega) (by simp only [List.length_cons, List.length_append, List.length_nil] at *; omega)
  refine ⟨.one ⟨13, t0.p, 0, t0.s, 0, 0⟩ x', Sm.one (by rw [Hd.bare, Hd.bare, s0, ho, hn, hto, hty]) s1, ?_⟩
  rw [show (t0 :: t1 :: (t2 ++ [t4])) ++ R = t0 :: (t1 :: (t2 ++ t4 :: R)) by simp, named_start e hd hs ht0]
  unfold namedB
  rw [name_c e n0, Rs.bind_ok, if_pos (show q (pk e ⟨t1 :: (t2 ++ t4 :: R), c⟩) = [61] from q1), show (St.nx ⟨t1 :: (t2 ++ t4 :: R), c⟩) = ⟨t2 ++ t4 :: R, c⟩ from rfl, s2, Rs.bind_ok, must_c e q4, Rs.bind_ok, add_c (by omega), hsz, Nat.add_assoc]
theorem store_r {d : Nat} {cl : Bool} {h h1 h2 : Hd} {k1 k2 : Fo} (ho : h.op = 14) (hd : d ≤ 40) (hs : NmG h.s) (hn : h.n = 0) (hto : h.to = 0) (hty : h.ty = 0) (hk : RdE e (d + 1) 1 h1 k1) (hk2 : RdE e (d + 1) 1 h2 k2) : RdS e d cl h (.cons h1 k1 (.one h2 k2)) := by
  have hT : nodeT h (Fo.cons h1 k1 (.one h2 k2)).tk = h.s :: [91] :: (nodeT h1 k1.tk ++ ([93] :: [61] :: (nodeT h2 k2.tk ++ [[59]]))) := by simp [nodeT, patL, ho, partT, Fo.one, Fo.tk, kid_n]
  refine ⟨⟨_, _, hT, by rw [hs.q]; decide, by rw [hs.q]; simp⟩, ?_⟩
  intro ts R c n _ hx hc hn'
  rw [hT] at hx
  obtain ⟨t0, ts1, rfl, ht0, hx1⟩ := Lx.cons_inv hx
  obtain ⟨t1, ts2, rfl, ht1, hx2⟩ := Lx.cons_inv hx1
  obtain ⟨t2, t3, rfl, hx3, hx4⟩ := Lx.app_inv hx2
  obtain ⟨t4, t5, rfl, ht4, hx5⟩ := Lx.cons_inv hx4
  obtain ⟨t6, t7, rfl, ht6, hx6⟩ := Lx.cons_inv hx5
  obtain ⟨t8, t9, rfl, hx7, hx8⟩ := Lx.app_inv hx6
  obtain ⟨ta, tb, rfl, hta, hx9⟩ := Lx.cons_inv hx8
  obtain rfl := Lx.nil_inv hx9
  obtain ⟨n, rfl⟩ : ∃ n', n = n' + 1 := ⟨n - 1, by omega⟩
  have q1 : q t1 = [91] := (q_of ht1).trans tx91
  have q4 : q t4 = [93] := (q_of ht4).trans tx93
  have q6 : q t6 = [61] := (q_of ht6).trans txs61
  have qa : q ta = [59] := (q_of hta).trans txs59
  have n0 : isNm t0 = true := by rw [nm_of ht0, hs.nm]
  have s0 : t0.s = h.s := by have := congrArg Tok.s ht0; exact this.trans hs.s
  have hsz : (Fo.cons h1 k1 (.one h2 k2)).size = k1.size + 1 + (k2.size + 1) := rfl
  obtain ⟨x', s1, s2⟩ := hk.ex e (ts := t2) (R := t6 :: (t8 ++ ta :: R)) (t := t4) (c := c) (n := n) q4 (by decide) (by decide) (by decide) hx3 (by omega) (by simp only [List.length_cons, List.length_append, List.length_nil] at *; omega)
  obtain ⟨y', r1, r2⟩ := hk2.ex e (ts := t8) (R := R) (t := ta) (c := c + (k1.size + 1)) (n := n) qa (by decide) (by decide) (by decide) hx7 (by omega) (by simp only [List.length_cons, List.length_append, List.length_nil] at *; omega)
  refine ⟨.one ⟨14, t0.p, 0, t0.s, 0, 0⟩ (x'.app y'), Sm.one (by rw [Hd.bare, Hd.bare, s0, ho, hn, hto, hty]) (Sm.app s1 r1), ?_⟩
  rw [show (t0 :: t1 :: (t2 ++ t4 :: t6 :: (t8 ++ [ta]))) ++ R = t0 :: (t1 :: (t2 ++ t4 :: (t6 :: (t8 ++ ta :: R)))) by simp, named_start e hd hs ht0]
  unfold namedB
  rw [name_c e n0, Rs.bind_ok, show pk e ⟨t1 :: (t2 ++ t4 :: (t6 :: (t8 ++ ta :: R))), c⟩ = t1 from rfl, q1, if_neg (by simp), if_pos rfl]
  unfold storeB
  rw [must_c e q1, Rs.bind_ok, s2, Rs.bind_ok, must_c e q4, Rs.bind_ok, must_c e q6, Rs.bind_ok, r2, Rs.bind_ok, must_c e qa, Rs.bind_ok, Rs.bind_ok, add_c (by omega), hsz]
  congr 2
  omega
theorem sexpr_r {d : Nat} {cl : Bool} {h h1 : Hd} {k1 : Fo} (ho : h.op = 21) (hd : d ≤ 40) (hs : h.s = []) (hn : h.n = 0) (hto : h.to = 0) (hty : h.ty = 0) (ho1 : h1.op = 7) (hs1 : NmG h1.s) (hk : RdC e (d + 1) h1 k1) : RdS e d cl h (.one h1 k1) := by
  have hT1 : nodeT h1 k1.tk = h1.s :: [40] :: (sepT [44] k1.tk ++ [[41]]) := by simp [nodeT, patL, ho1, partT]
  have hT : nodeT h (Fo.one h1 k1).tk = h1.s :: (([40] :: (sepT [44] k1.tk ++ [[41]])) ++ [[59]]) := by
    have : nodeT h (Fo.one h1 k1).tk = nodeT h1 k1.tk ++ [[59]] := by simp [nodeT, patL, ho, partT, Fo.one, Fo.tk, kid_n]
    rw [this, hT1]; rfl
  refine ⟨⟨_, _, hT, by rw [hs1.q]; decide, by rw [hs1.q]; simp⟩, ?_⟩
  intro ts R c n _ hx hc hn'
  rw [hT] at hx
  obtain ⟨t0, ts1, rfl, ht0, hx1⟩ := Lx.cons_inv hx
  obtain ⟨t2, t3, rfl, hx3, hx4⟩ := Lx.app_inv hx1
  obtain ⟨t4, t5, rfl, ht4, hx5⟩ := Lx.cons_inv hx4
  obtain rfl := Lx.nil_inv hx5
  obtain ⟨n, rfl⟩ : ∃ n', n = n' + 1 := ⟨n - 1, by omega⟩
  have q4 : q t4 = [59] := (q_of ht4).trans txs59
  have n0 : isNm t0 = true := by rw [nm_of ht0, hs1.nm]
  have s0 : t0.s = h1.s := by have := congrArg Tok.s ht0; exact this.trans hs1.s
  have hsz : (Fo.one h1 k1).size = k1.size + 1 := rfl
  obtain ⟨x', s1, s2⟩ := hk t0 t2 (t4 :: R) c n s0 hx3 (by omega) (by simp only [List.length_cons, List.length_append, List.length_nil] at *; omega)
  obtain ⟨t1, ts2, rfl, ht1, -⟩ := Lx.cons_inv hx3
  have q1 : q t1 = [40] := (q_of ht1).trans tx40.1
  refine ⟨.one ⟨21, t0.p, 0, [], 0, 0⟩ x', Sm.one (by rw [Hd.bare, Hd.bare, hs, ho, hn, hto, hty]) s1, ?_⟩
  rw [show (t0 :: (t1 :: ts2 ++ [t4])) ++ R = t0 :: (t1 :: ts2 ++ t4 :: R) by simp, named_start e hd hs1 ht0]
  unfold namedB
  rw [name_c e n0, Rs.bind_ok, show pk e ⟨t1 :: ts2 ++ t4 :: R, c⟩ = t1 from rfl, q1, if_neg (by simp), if_neg (by simp), if_pos rfl, s2, Rs.bind_ok, must_c e q4, Rs.bind_ok, add_c (by omega), hsz, Nat.add_assoc]
theorem label_r {d : Nat} {cl : Bool} {h h1 : Hd} {k1 : Fo} (ho : h.op = 18) (hd : d ≤ 40) (hs : NmG h.s) (hn : h.n = 0) (hto : h.to = 0) (hty : h.ty = 0) (hk : RdS e (d + 1) cl h1 k1) : RdS e d cl h (.one h1 k1) := by
  have hT : nodeT h (Fo.one h1 k1).tk = h.s :: [58] :: nodeT h1 k1.tk := by simp [nodeT, patL, ho, partT, Fo.one, Fo.tk, kid_n]
  refine ⟨⟨_, _, hT, by rw [hs.q]; decide, by rw [hs.q]; simp⟩, ?_⟩
  intro ts R c n hR hx hc hn'
  rw [hT] at hx
  obtain ⟨t0, ts1, rfl, ht0, hx1⟩ := Lx.cons_inv hx
  obtain ⟨t1, ts2, rfl, ht1, hx2⟩ := Lx.cons_inv hx1
  obtain ⟨n, rfl⟩ : ∃ n', n = n' + 1 := ⟨n - 1, by omega⟩
  have q1 : q t1 = [58] := (q_of ht1).trans txs58
  have n0 : isNm t0 = true := by rw [nm_of ht0, hs.nm]
  have s0 : t0.s = h.s := by have := congrArg Tok.s ht0; exact this.trans hs.s
  have hsz : (Fo.one h1 k1).size = k1.size + 1 := rfl
  obtain ⟨x', s1, s2⟩ := hk.2 ts2 R c n hR hx2 (by omega) (by simp only [List.length_cons, List.length_append, List.length_nil] at *; omega)
  refine ⟨.one ⟨18, t0.p, 0, t0.s, 0, 0⟩ x', Sm.one (by rw [Hd.bare, Hd.bare, s0, ho, hn, hto, hty]) s1, ?_⟩
  rw [show (t0 :: t1 :: ts2) ++ R = t0 :: (t1 :: (ts2 ++ R)) by simp, named_start e hd hs ht0]
  unfold namedB
  rw [name_c e n0, Rs.bind_ok, show pk e ⟨t1 :: (ts2 ++ R), c⟩ = t1 from rfl, q1, if_neg (by simp), if_neg (by simp), if_neg (by simp), if_pos rfl, show (St.nx ⟨t1 :: (ts2 ++ R), c⟩) = ⟨ts2 ++ R, c⟩ from rfl, s2, Rs.bind_ok, add_c (by omega), hsz, Nat.add_assoc]
theorem goto_r {d : Nat} {cl : Bool} {h : Hd} (ho : h.op = 17) (hd : d ≤ 40) (hs : NmG h.s) (hn : h.n = 0) (hto : h.to = 0) (hty : h.ty = 0) : RdS e d cl h .nil := by
  have hT : nodeT h Fo.nil.tk = [wGoto, h.s, [59]] := by simp [nodeT, patL, ho, partT, wGoto]
  refine ⟨⟨_, _, hT, by rw [txGoto.1]; decide, by rw [txGoto.1]; decide⟩, ?_⟩
  intro ts R c n hR hx hc hn'
  rw [hT] at hx
  obtain ⟨t0, ts1, rfl, ht0, hx1⟩ := Lx.cons_inv hx
  obtain ⟨t1, ts2, rfl, ht1, hx2⟩ := Lx.cons_inv hx1
  obtain ⟨t2, ts3, rfl, ht2, hx3⟩ := Lx.cons_inv hx2
  obtain rfl := Lx.nil_inv hx3
  obtain ⟨n, rfl⟩ : ∃ n', n = n' + 1 := ⟨n - 1, by omega⟩
  have q0 : q t0 = wGoto := (q_of ht0).trans txGoto.1
  have q2 : q t2 = [59] := (q_of ht2).trans txs59
  have n0 : isNm t0 = false := (nm_of ht0).trans txGoto.2
  have n1 : isNm t1 = true := by rw [nm_of ht1, hs.nm]
  have s1 : t1.s = h.s := by have := congrArg Tok.s ht1; exact this.trans hs.s
  refine ⟨.one ⟨17, t0.p, 0, t1.s, 0, 0⟩ .nil, Sm.one (by rw [Hd.bare, Hd.bare, s1, ho, hn, hto, hty]) rfl, ?_⟩
  rw [show [t0, t1, t2] ++ R = t0 :: (t1 :: (t2 :: R)) from rfl, word_start e hd n0, q0, if_neg (by decide), if_neg (by decide), if_neg (by decide), if_neg (by decide), if_neg (by decide), if_pos rfl]
  unfold gotoB
  rw [show (St.nx ⟨t0 :: (t1 :: (t2 :: R)), c⟩) = ⟨t1 :: (t2 :: R), c⟩ from rfl, name_c e n1, Rs.bind_ok, must_c e q2, Rs.bind_ok]
  exact add_c (by simp only [Fo.size] at hc; omega)
theorem local_r {d : Nat} {cl : Bool} {h h1 : Hd} {k1 : Fo} (ho : h.op = 12) (hd : d ≤ 40) (hs : NmG h.s) (hn : h.n = 0) (hto : h.to = 1 ∨ h.to = 2) (hty : h.ty = 0) (hk : RdE e (d + 1) 1 h1 k1) : RdS e d cl h (.one h1 k1) := by
  have hT : nodeT h (Fo.one h1 k1).tk = typeW h.to :: h.s :: [61] :: (nodeT h1 k1.tk ++ [[59]]) := by simp [nodeT, patL, ho, partT, Fo.one, Fo.tk, kid_n]
  have hw : typeW h.to = wInt ∨ typeW h.to = wLong := by rcases hto with h' | h' <;> rw [h'] <;> simp [typeW]
  have hty2 := tyW_q (t := h.to) (by omega)
  refine ⟨⟨_, _, hT, by rw [hty2.1]; rcases hw with h' | h' <;> rw [h'] <;> decide, by rw [hty2.1]; rcases hw with h' | h' <;> rw [h'] <;> decide⟩, ?_⟩
  intro ts R c n _ hx hc hn'
  rw [hT] at hx
  obtain ⟨tt, ts0, rfl, htt, hx0⟩ := Lx.cons_inv hx
  obtain ⟨t0, ts1, rfl, ht0, hx1⟩ := Lx.cons_inv hx0
  obtain ⟨t1, ts2, rfl, ht1, hx2⟩ := Lx.cons_inv hx1
  obtain ⟨t2, t3, rfl, hx3, hx4⟩ := Lx.app_inv hx2
  obtain ⟨t4, t5, rfl, ht4, hx5⟩ := Lx.cons_inv hx4
  obtain rfl := Lx.nil_inv hx5
  obtain ⟨n, rfl⟩ : ∃ n', n = n' + 1 := ⟨n - 1, by omega⟩
  have qt : q tt = typeW h.to := (q_of htt).trans hty2.1
  have nt : isNm tt = false := (nm_of htt).trans hty2.2.1
  have q1 : q t1 = [61] := (q_of ht1).trans txs61
  have q4 : q t4 = [59] := (q_of ht4).trans txs59
  have n0 : isNm t0 = true := by rw [nm_of ht0, hs.nm]
  have s0 : t0.s = h.s := by have := congrArg Tok.s ht0; exact this.trans hs.s
  have hsz : (Fo.one h1 k1).size = k1.size + 1 := rfl
  obtain ⟨x', s1, s2⟩ := hk.ex e (ts := t2) (R := R) (t := t4) (c := c) (n := n) q4 (by decide) (by decide) (by decide) hx3 (by omega) (by simp only [List.length_cons, List.length_append, List.length_nil] at *; omega)
  refine ⟨.one ⟨12, tt.p, 0, t0.s, h.to, 0⟩ x', Sm.one (by rw [Hd.bare, Hd.bare, s0, ho, hn, hty]) s1, ?_⟩
  have htyp : typedM e [1, 2] ⟨tt :: (t0 :: (t1 :: (t2 ++ t4 :: R))), c⟩ = .ok h.to ⟨t0 :: (t1 :: (t2 ++ t4 :: R)), c⟩ := by
    unfold typedM
    rw [show pk e ⟨tt :: (t0 :: (t1 :: (t2 ++ t4 :: R))), c⟩ = tt from rfl, qt, hty2.2.2]
    simp only
    rw [if_pos (by rcases hto with h' | h' <;> rw [h'] <;> simp)]
    rfl
  have hl : localB e (run e n) d ⟨tt :: (t0 :: (t1 :: (t2 ++ t4 :: R))), c⟩ = .ok (.one ⟨12, tt.p, 0, t0.s, h.to, 0⟩ x') ⟨R, c + ((Fo.one h1 k1).size + 1)⟩ := by
    unfold localB
    rw [htyp, Rs.bind_ok, name_c e n0, Rs.bind_ok, must_c e q1, Rs.bind_ok, s2, Rs.bind_ok, must_c e q4, Rs.bind_ok, show pk e ⟨tt :: (t0 :: (t1 :: (t2 ++ t4 :: R))), c⟩ = tt from rfl, add_c (by omega), hsz, Nat.add_assoc]
  rw [show (tt :: t0 :: t1 :: (t2 ++ [t4])) ++ R = tt :: (t0 :: (t1 :: (t2 ++ t4 :: R))) by simp, word_start e hd nt, qt]
  rcases hw with h' | h'
  · rw [h', if_neg (by decide), if_pos rfl, hl]
  · rw [h', if_neg (by decide), if_neg (by decide), if_pos rfl, hl]
end
end Go.Proofs.YtlbjjpfhkgagiaaGreatDoor
/-! Pud -/
namespace Go.Proofs.YtlbjjpfhkgagiaaGreatDoor
set_option linter.unusedVariables false
set_option linter.unusedSimpArgs false
set_option linter.unusedSectionVars false

section
variable (e : Tok)
theorem out_r {d : Nat} {cl : Bool} {h h1 : Hd} {k1 : Fo} (ho : h.op = 20) (hd : d ≤ 40) (hs : h.s = []) (hn : h.n = 0) (hto : h.to = 0) (hty : h.ty = 0) (hk : RdE e (d + 1) 1 h1 k1) : RdS e d cl h (.one h1 k1) := by
  have hT : nodeT h (Fo.one h1 k1).tk = wOut :: [40] :: (nodeT h1 k1.tk ++ ([41] :: [[59]])) := by simp [nodeT, patL, ho, partT, Fo.one, Fo.tk, kid_n, wOut]
  refine ⟨⟨_, _, hT, by rw [txOut.1]; decide, by rw [txOut.1]; decide⟩, ?_⟩
  intro ts R c n _ hx hc hn'
  rw [hT] at hx
  obtain ⟨t0, ts1, rfl, ht0, hx1⟩ := Lx.cons_inv hx
  obtain ⟨t1, ts2, rfl, ht1, hx2⟩ := Lx.cons_inv hx1
  obtain ⟨t2, t3, rfl, hx3, hx4⟩ := Lx.app_inv hx2
  obtain ⟨t4, t5, rfl, ht4, hx5⟩ := Lx.cons_inv hx4
  obtain ⟨t6, t7, rfl, ht6, hx6⟩ := Lx.cons_inv hx5
  obtain rfl := Lx.nil_inv hx6
  obtain ⟨n, rfl⟩ : ∃ n', n = n' + 1 := ⟨n - 1, by omega⟩
  have q0 : q t0 = wOut := (q_of ht0).trans txOut.1
  have n0 : isNm t0 = false := (nm_of ht0).trans txOut.2
  have q1 : q t1 = [40] := (q_of ht1).trans tx40.1
  have q4 : q t4 = [41] := (q_of ht4).trans tx41.1
  have q6 : q t6 = [59] := (q_of ht6).trans txs59
  have hsz : (Fo.one h1 k1).size = k1.size + 1 := rfl
  obtain ⟨x', s1, s2⟩ := hk.ex e (ts := t2) (R := t6 :: R) (t := t4) (c := c) (n := n) q4 (by decide) (by decide) (by decide) hx3 (by omega) (by simp only [List.length_cons, List.length_append, List.length_nil] at *; omega)
  refine ⟨.one ⟨20, t0.p, 0, [], 0, 0⟩ x', Sm.one (by rw [Hd.bare, Hd.bare, hs, ho, hn, hto, hty]) s1, ?_⟩
  rw [show (t0 :: t1 :: (t2 ++ [t4, t6])) ++ R = t0 :: (t1 :: (t2 ++ t4 :: (t6 :: R))) by simp, word_start e hd n0, q0, if_neg (by decide), if_neg (by decide), if_neg (by decide), if_neg (by decide), if_neg (by decide), if_neg (by decide), if_neg (by decide), if_pos rfl]
  unfold outB
  rw [show (St.nx ⟨t0 :: (t1 :: (t2 ++ t4 :: (t6 :: R))), c⟩) = ⟨t1 :: (t2 ++ t4 :: (t6 :: R)), c⟩ from rfl, must_c e q1, Rs.bind_ok, s2, Rs.bind_ok, must_c e q4, Rs.bind_ok, must_c e q6, Rs.bind_ok, show pk e ⟨t0 :: (t1 :: (t2 ++ t4 :: (t6 :: R))), c⟩ = t0 from rfl, add_c (by omega), hsz, Nat.add_assoc]
theorem ret0_r {d : Nat} {cl : Bool} {h : Hd} (ho : h.op = 19) (hd : d ≤ 40) (hs : h.s = []) (hn : h.n = 0) (hto : h.to = 0) (hty : h.ty = 0) : RdS e d cl h .nil := by
  have hT : nodeT h Fo.nil.tk = [wReturn, [59]] := by simp [nodeT, patL, ho, partT, wReturn, Fo.tk]
  refine ⟨⟨_, _, hT, by rw [txReturn.1]; decide, by rw [txReturn.1]; decide⟩, ?_⟩
  intro ts R c n _ hx hc hn'
  rw [hT] at hx
  obtain ⟨t0, ts1, rfl, ht0, hx1⟩ := Lx.cons_inv hx
  obtain ⟨t1, ts2, rfl, ht1, hx2⟩ := Lx.cons_inv hx1
  obtain rfl := Lx.nil_inv hx2
  obtain ⟨n, rfl⟩ : ∃ n', n = n' + 1 := ⟨n - 1, by omega⟩
  have q0 : q t0 = wReturn := (q_of ht0).trans txReturn.1
  have n0 : isNm t0 = false := (nm_of ht0).trans txReturn.2
  have q1 : q t1 = [59] := (q_of ht1).trans txs59
  refine ⟨.one ⟨19, t0.p, 0, [], 0, 0⟩ .nil, Sm.one (by rw [Hd.bare, Hd.bare, hs, ho, hn, hto, hty]) rfl, ?_⟩
  rw [show [t0, t1] ++ R = t0 :: (t1 :: R) from rfl, word_start e hd n0, q0, if_neg (by decide), if_neg (by decide), if_neg (by decide), if_neg (by decide), if_neg (by decide), if_neg (by decide), if_pos rfl]
  unfold retB
  rw [show (St.nx ⟨t0 :: (t1 :: R), c⟩) = ⟨t1 :: R, c⟩ from rfl, if_pos (isT_yc e q1), Rs.bind_ok, must_c e q1, Rs.bind_ok]
  exact add_c (by simp only [Fo.size] at hc; omega)
theorem ret1_r {d : Nat} {cl : Bool} {h h1 : Hd} {k1 : Fo} (ho : h.op = 19) (hd : d ≤ 40) (hs : h.s = []) (hn : h.n = 0) (hto : h.to = 0) (hty : h.ty = 0) (hk : RdE e (d + 1) 1 h1 k1) (hf : ∃ x xs, nodeT h1 k1.tk = x :: xs ∧ q (tkx x) ≠ [59]) : RdS e d cl h (.one h1 k1) := by
  have hT : nodeT h (Fo.one h1 k1).tk = wReturn :: (nodeT h1 k1.tk ++ [[59]]) := by simp [nodeT, patL, ho, partT, wReturn, Fo.one, Fo.tk, kid_n]
  refine ⟨⟨_, _, hT, by rw [txReturn.1]; decide, by rw [txReturn.1]; decide⟩, ?_⟩
  intro ts R c n _ hx hc hn'
  rw [hT] at hx
  obtain ⟨t0, ts1, rfl, ht0, hx1⟩ := Lx.cons_inv hx
  obtain ⟨t2, t3, rfl, hx3, hx4⟩ := Lx.app_inv hx1
  obtain ⟨t4, t5, rfl, ht4, hx5⟩ := Lx.cons_inv hx4
  obtain rfl := Lx.nil_inv hx5
  obtain ⟨n, rfl⟩ : ∃ n', n = n' + 1 := ⟨n - 1, by omega⟩
  have q0 : q t0 = wReturn := (q_of ht0).trans txReturn.1
  have n0 : isNm t0 = false := (nm_of ht0).trans txReturn.2
  have q4 : q t4 = [59] := (q_of ht4).trans txs59
  have hsz : (Fo.one h1 k1).size = k1.size + 1 := rfl
  obtain ⟨x', s1, s2⟩ := hk.ex e (ts := t2) (R := R) (t := t4) (c := c) (n := n) q4 (by decide) (by decide) (by decide) hx3 (by omega) (by simp only [List.length_cons, List.length_append, List.length_nil] at *; omega)
  obtain ⟨x, xs, hf1, hf2⟩ := hf
  obtain ⟨t6, t7, rfl, ht6, -⟩ := Lx.cons_inv (hf1 ▸ hx3)
  have q6 : q t6 ≠ [59] := by rw [q_of ht6]; exact hf2
  refine ⟨.one ⟨19, t0.p, 0, [], 0, 0⟩ x', Sm.one (by rw [Hd.bare, Hd.bare, hs, ho, hn, hto, hty]) s1, ?_⟩
  rw [show (t0 :: (t6 :: t7 ++ [t4])) ++ R = t0 :: (t6 :: t7 ++ t4 :: R) by simp, word_start e hd n0, q0, if_neg (by decide), if_neg (by decide), if_neg (by decide), if_neg (by decide), if_neg (by decide), if_neg (by decide), if_pos rfl]
  unfold retB
  rw [show (St.nx ⟨t0 :: (t6 :: t7 ++ t4 :: R), c⟩) = ⟨t6 :: t7 ++ t4 :: R, c⟩ from rfl, if_neg (show ¬ isT e [59] ⟨t6 :: t7 ++ t4 :: R, c⟩ = true from isT_nc e q6), s2, Rs.bind_ok, must_c e q4, Rs.bind_ok, show pk e ⟨t0 :: (t6 :: t7 ++ t4 :: R), c⟩ = t0 from rfl, add_c (by omega), hsz, Nat.add_assoc]
theorem guard_r {d : Nat} {cl : Bool} {h1 h2 : Hd} {k1 k2 : Fo} (hk : RdE e (d + 1) 1 h1 k1) (hk2 : RdS e (d + 1) cl h2 k2) {ts R : List Tok} {c n : Nat} (hR : cl = false → q (R.headD e) ≠ wElse) (hx : Lx ts ([40] :: (nodeT h1 k1.tk ++ ([41] :: nodeT h2 k2.tk)))) (hc : c + (k1.size + 1 + (k2.size + 1)) ≤ 4000) (hn : 4 * (ts.length + R.length) ≤ n) :
    ∃ x', Sm x' (.cons h1 k1 (.one h2 k2)) ∧ guardB e (run e n) d ⟨ts ++ R, c⟩ = .ok x' ⟨R, c + (k1.size + 1 + (k2.size + 1))⟩ := by
  obtain ⟨t1, ts2, rfl, ht1, hx2⟩ := Lx.cons_inv hx
  obtain ⟨t2, t3, rfl, hx3, hx4⟩ := Lx.app_inv hx2
  obtain ⟨t4, t5, rfl, ht4, hx5⟩ := Lx.cons_inv hx4
  have q1 : q t1 = [40] := (q_of ht1).trans tx40.1
  have q4 : q t4 = [41] := (q_of ht4).trans tx41.1
  obtain ⟨x', s1, s2⟩ := hk.ex e (ts := t2) (R := t5 ++ R) (t := t4) (c := c) (n := n) q4 (by decide) (by decide) (by decide) hx3 (by omega) (by simp only [List.length_cons, List.length_append, List.length_nil] at *; omega)
  obtain ⟨y', r1, r2⟩ := hk2.2 t5 R (c + (k1.size + 1)) n hR hx5 (by omega) (by simp only [List.length_cons, List.length_append, List.length_nil] at *; omega)
  refine ⟨x'.app y', Sm.app s1 r1, ?_⟩
  rw [show (t1 :: (t2 ++ t4 :: t5)) ++ R = t1 :: (t2 ++ t4 :: (t5 ++ R)) by simp]
  unfold guardB
  rw [must_c e q1, Rs.bind_ok, s2, Rs.bind_ok, must_c e q4, Rs.bind_ok, r2, Rs.bind_ok, Nat.add_assoc]
theorem while_r {d : Nat} {cl : Bool} {h h1 h2 : Hd} {k1 k2 : Fo} (ho : h.op = 16) (hd : d ≤ 40) (hs : h.s = []) (hn : h.n = 0) (hto : h.to = 0) (hty : h.ty = 0) (hk : RdE e (d + 1) 1 h1 k1) (hk2 : RdS e (d + 1) cl h2 k2) : RdS e d cl h (.cons h1 k1 (.one h2 k2)) := by
  have hT : nodeT h (Fo.cons h1 k1 (.one h2 k2)).tk = wWhile :: ([40] :: (nodeT h1 k1.tk ++ ([41] :: nodeT h2 k2.tk))) := by simp [nodeT, patL, ho, partT, wWhile, Fo.one, Fo.tk, kid_n]
  refine ⟨⟨_, _, hT, by rw [txWhile.1]; decide, by rw [txWhile.1]; decide⟩, ?_⟩
  intro ts R c n hR hx hc hn'
  rw [hT] at hx
  obtain ⟨t0, ts1, rfl, ht0, hx1⟩ := Lx.cons_inv hx
  obtain ⟨n, rfl⟩ : ∃ n', n = n' + 1 := ⟨n - 1, by omega⟩
  have q0 : q t0 = wWhile := (q_of ht0).trans txWhile.1
  have n0 : isNm t0 = false := (nm_of ht0).trans txWhile.2
  have hsz : (Fo.cons h1 k1 (.one h2 k2)).size = k1.size + 1 + (k2.size + 1) := rfl
  obtain ⟨x', s1, s2⟩ := guard_r e hk hk2 (R := R) (c := c) (n := n) hR hx1 (by omega) (by simp only [List.length_cons] at *; omega)
  refine ⟨.one ⟨16, t0.p, 0, [], 0, 0⟩ x', Sm.one (by rw [Hd.bare, Hd.bare, hs, ho, hn, hto, hty]) s1, ?_⟩
  rw [show (t0 :: ts1) ++ R = t0 :: (ts1 ++ R) from rfl, word_start e hd n0, q0, if_neg (by decide), if_neg (by decide), if_neg (by decide), if_neg (by decide), if_pos rfl]
  unfold whileB
  rw [show (St.nx ⟨t0 :: (ts1 ++ R), c⟩) = ⟨ts1 ++ R, c⟩ from rfl, s2, Rs.bind_ok, show pk e ⟨t0 :: (ts1 ++ R), c⟩ = t0 from rfl, add_c (by omega), hsz, Nat.add_assoc]
theorem if2_r {d : Nat} {h h1 h2 : Hd} {k1 k2 : Fo} (ho : h.op = 15) (hd : d ≤ 40) (hs : h.s = []) (hn : h.n = 0) (hto : h.to = 0) (hty : h.ty = 0) (hk : RdE e (d + 1) 1 h1 k1) (hk2 : RdS e (d + 1) false h2 k2) : RdS e d false h (.cons h1 k1 (.one h2 k2)) := by
  have hT : nodeT h (Fo.cons h1 k1 (.one h2 k2)).tk = wIf :: ([40] :: (nodeT h1 k1.tk ++ ([41] :: nodeT h2 k2.tk))) := by simp [nodeT, patL, ho, partT, wIf, Fo.one, Fo.tk, kid_n]
  refine ⟨⟨_, _, hT, by rw [txIf.1]; decide, by rw [txIf.1]; decide⟩, ?_⟩
  intro ts R c n hR hx hc hn'
  rw [hT] at hx
  obtain ⟨t0, ts1, rfl, ht0, hx1⟩ := Lx.cons_inv hx
  obtain ⟨n, rfl⟩ : ∃ n', n = n' + 1 := ⟨n - 1, by omega⟩
  have q0 : q t0 = wIf := (q_of ht0).trans txIf.1
  have n0 : isNm t0 = false := (nm_of ht0).trans txIf.2
  have hsz : (Fo.cons h1 k1 (.one h2 k2)).size = k1.size + 1 + (k2.size + 1) := rfl
  obtain ⟨x', s1, s2⟩ := guard_r e hk hk2 (R := R) (c := c) (n := n) hR hx1 (by omega) (by simp only [List.length_cons] at *; omega)
  refine ⟨.one ⟨15, t0.p, 0, [], 0, 0⟩ x', Sm.one (by rw [Hd.bare, Hd.bare, hs, ho, hn, hto, hty]) s1, ?_⟩
  rw [show (t0 :: ts1) ++ R = t0 :: (ts1 ++ R) from rfl, word_start e hd n0, q0, if_neg (by decide), if_neg (by decide), if_neg (by decide), if_pos rfl]
  unfold ifB
  rw [show (St.nx ⟨t0 :: (ts1 ++ R), c⟩) = ⟨ts1 ++ R, c⟩ from rfl, s2, Rs.bind_ok, if_neg (isT_n e (s := ⟨R, c + (k1.size + 1 + (k2.size + 1))⟩) (hR rfl)), show pk e ⟨t0 :: (ts1 ++ R), c⟩ = t0 from rfl, add_c (by omega), hsz, Nat.add_assoc]
theorem if3_r {d : Nat} {cl : Bool} {h h1 h2 h3 : Hd} {k1 k2 k3 : Fo} (ho : h.op = 15) (hd : d ≤ 40) (hs : h.s = []) (hn : h.n = 0) (hto : h.to = 0) (hty : h.ty = 0) (hk : RdE e (d + 1) 1 h1 k1) (hk2 : RdS e (d + 1) true h2 k2) (hk3 : RdS e (d + 1) cl h3 k3) : RdS e d cl h (.cons h1 k1 (.cons h2 k2 (.one h3 k3))) := by
  have hT : nodeT h (Fo.cons h1 k1 (.cons h2 k2 (.one h3 k3))).tk = wIf :: (([40] :: (nodeT h1 k1.tk ++ ([41] :: nodeT h2 k2.tk))) ++ (wElse :: nodeT h3 k3.tk)) := by simp [nodeT, patL, ho, partT, wIf, wElse, Fo.one, Fo.tk, kid_n]
  refine ⟨⟨_, _, hT, by rw [txIf.1]; decide, by rw [txIf.1]; decide⟩, ?_⟩
  intro ts R c n hR hx hc hn'
  rw [hT] at hx
  obtain ⟨t0, ts1, rfl, ht0, hx1⟩ := Lx.cons_inv hx
  obtain ⟨ta, tb, rfl, hxa, hxb⟩ := Lx.app_inv hx1
  obtain ⟨t2, tc, rfl, ht2, hxc⟩ := Lx.cons_inv hxb
  obtain ⟨n, rfl⟩ : ∃ n', n = n' + 1 := ⟨n - 1, by omega⟩
  have q0 : q t0 = wIf := (q_of ht0).trans txIf.1
  have n0 : isNm t0 = false := (nm_of ht0).trans txIf.2
  have q2 : q t2 = wElse := (q_of ht2).trans txElse.1
  have hsz : (Fo.cons h1 k1 (.cons h2 k2 (.one h3 k3))).size = k1.size + 1 + (k2.size + 1 + (k3.size + 1)) := rfl
  obtain ⟨x', s1, s2⟩ := guard_r e hk hk2 (ts := ta) (R := t2 :: (tc ++ R)) (c := c) (n := n) (fun h' => by cases h') hxa (by omega) (by simp only [List.length_cons, List.length_append] at *; omega)
  obtain ⟨y', r1, r2⟩ := hk3.2 tc R (c + (k1.size + 1 + (k2.size + 1))) n hR hxc (by omega) (by simp only [List.length_cons, List.length_append] at *; omega)
  refine ⟨.one ⟨15, t0.p, 0, [], 0, 0⟩ (x'.app y'), Sm.one (by rw [Hd.bare, Hd.bare, hs, ho, hn, hto, hty]) (by have := Sm.app s1 r1; simpa [Sm, Fo.one, Fo.bare, Fo.app] using this), ?_⟩
  rw [show (t0 :: (ta ++ t2 :: tc)) ++ R = t0 :: (ta ++ (t2 :: (tc ++ R))) by simp, word_start e hd n0, q0, if_neg (by decide), if_neg (by decide), if_neg (by decide), if_pos rfl]
  unfold ifB
  rw [show (St.nx ⟨t0 :: (ta ++ (t2 :: (tc ++ R))), c⟩) = ⟨ta ++ (t2 :: (tc ++ R)), c⟩ from rfl, s2, Rs.bind_ok, if_pos (isT_yc e q2), show ∀ cc, (St.nx ⟨t2 :: (tc ++ R), cc⟩) = ⟨tc ++ R, cc⟩ from fun _ => rfl, r2, Rs.bind_ok, show pk e ⟨t0 :: (ta ++ (t2 :: (tc ++ R))), c⟩ = t0 from rfl, add_c (by omega), hsz]
  congr 2
  omega
/-- Statements, one behind the other, as blocks have them. -/
def RdB (d : Nat) : Fo → Prop
  | .nil => True
  | .cons h k r => RdS e (d + 1) false h k ∧ RdB d r
theorem blk_r {d : Nat} : ∀ (k : Fo), RdB e d k → ∀ (ts R : List Tok) (c n : Nat), Lx ts (k.tk.flatMap (·.2) ++ [[125]]) → c + k.size ≤ 4000 → 2 + 4 * (ts.length + R.length) ≤ n →
    ∃ x', Sm x' k ∧ run e n (.blk d) ⟨ts ++ R, c⟩ = .ok x' ⟨R, c + k.size⟩ := by
  intro k
  induction k with
  | nil =>
    intro _ ts R c n hx hc hn
    obtain ⟨t0, ts1, rfl, ht0, hx1⟩ := Lx.cons_inv (show Lx ts [[125]] from hx)
    obtain rfl := Lx.nil_inv hx1
    obtain ⟨n, rfl⟩ : ∃ n', n = n' + 1 := ⟨n - 1, by omega⟩
    have q0 : q t0 = [125] := (q_of ht0).trans txs125.1
    refine ⟨.nil, rfl, ?_⟩
    show blkB e (run e n) d ⟨t0 :: R, c⟩ = _
    unfold blkB
    rw [if_pos (isT_yc e q0)]
    rfl
  | cons h k r _ ih =>
    intro hB ts R c n hx hc hn
    obtain ⟨n, rfl⟩ : ∃ n', n = n' + 1 := ⟨n - 1, by omega⟩
    have hT : (Fo.cons h k r).tk.flatMap (·.2) ++ [[125]] = nodeT h k.tk ++ (r.tk.flatMap (·.2) ++ [[125]]) := by simp [Fo.tk]
    rw [hT] at hx
    obtain ⟨ta, tb, rfl, hxa, hxb⟩ := Lx.app_inv hx
    have hsz : (Fo.cons h k r).size = k.size + 1 + r.size := rfl
    obtain ⟨x, xs, hf1, hf2, hf3⟩ := hB.1.1
    have hne : q ((tb ++ R).headD e) ≠ wElse := by
      cases r with
      | nil =>
        obtain ⟨t0, ts1, rfl, ht0, hx1⟩ := Lx.cons_inv (show Lx tb [[125]] from hxb)
        rw [List.cons_append, List.headD_cons, q_of ht0, txs125.1]
        decide
      | cons h2 k2 r2 =>
        obtain ⟨y, ys, hg1, hg2, hg3⟩ := hB.2.1.1
        have hT2 : (Fo.cons h2 k2 r2).tk.flatMap (·.2) ++ [[125]] = y :: (ys ++ (r2.tk.flatMap (·.2) ++ [[125]])) := by simp [Fo.tk, hg1]
        rw [hT2] at hxb
        obtain ⟨t0, ts1, rfl, ht0, hx1⟩ := Lx.cons_inv hxb
        rw [List.cons_append, List.headD_cons, q_of ht0]
        exact hg2
    have hla : 1 ≤ ta.length := by
      rw [hf1] at hxa
      obtain ⟨t0, ts1, rfl, -, -⟩ := Lx.cons_inv hxa
      simp
    obtain ⟨x', s1, s2⟩ := hB.1.2 ta (tb ++ R) c n (fun _ => hne) hxa (by omega) (by simp only [List.length_append] at *; omega)
    obtain ⟨y', r1, r2⟩ := ih hB.2 tb R (c + (k.size + 1)) n hxb (by omega) (by simp only [List.length_append] at *; omega)
    refine ⟨x'.app y', by have := Sm.app s1 r1; simpa [Sm, Fo.one, Fo.bare, Fo.app] using this, ?_⟩
    rw [List.append_assoc]
    show blkB e (run e n) d ⟨ta ++ (tb ++ R), c⟩ = _
    unfold blkB
    rw [hf1] at hxa
    obtain ⟨t0, ts1, rfl, ht0, -⟩ := Lx.cons_inv hxa
    rw [if_neg (show ¬ isT e [125] ⟨t0 :: ts1 ++ (tb ++ R), c⟩ = true from isT_nc e (by rw [q_of ht0]; exact hf3)), s2, Rs.bind_ok, r2, Rs.bind_ok, hsz, Nat.add_assoc]
theorem blockB_r {d : Nat} {h : Hd} {k : Fo} (ho : h.op = 11) (hs : h.s = []) (hn : h.n = 0) (hto : h.to = 0) (hty : h.ty = 0) (hB : RdB e d k) {ts R : List Tok} {c n : Nat} (hx : Lx ts ([123] :: (k.tk.flatMap (·.2) ++ [[125]]))) (hc : c + (k.size + 1) ≤ 4000) (hn' : 4 * (ts.length + R.length) ≤ n) :
    ∃ x', Sm x' (.one h k) ∧ blockB e (run e n) d ⟨ts ++ R, c⟩ = .ok x' ⟨R, c + (k.size + 1)⟩ := by
  obtain ⟨t0, ts1, rfl, ht0, hx1⟩ := Lx.cons_inv hx
  have q0 : q t0 = [123] := (q_of ht0).trans txs123.1
  obtain ⟨x', s1, s2⟩ := blk_r e k hB ts1 R c n hx1 (by omega) (by simp only [List.length_cons] at *; omega)
  refine ⟨.one ⟨11, t0.p, 0, [], 0, 0⟩ x', Sm.one (by rw [Hd.bare, Hd.bare, hs, ho, hn, hto, hty]) s1, ?_⟩
  rw [show (t0 :: ts1) ++ R = t0 :: (ts1 ++ R) from rfl]
  unfold blockB
  rw [must_c e q0, Rs.bind_ok, s2, Rs.bind_ok, show pk e ⟨t0 :: (ts1 ++ R), c⟩ = t0 from rfl, add_c (by omega), Nat.add_assoc]
theorem block_r {d : Nat} {cl : Bool} {h : Hd} {k : Fo} (ho : h.op = 11) (hd : d ≤ 40) (hs : h.s = []) (hn : h.n = 0) (hto : h.to = 0) (hty : h.ty = 0) (hB : RdB e d k) : RdS e d cl h k := by
  have hT : nodeT h k.tk = [123] :: (k.tk.flatMap (·.2) ++ [[125]]) := by simp [nodeT, patL, ho, partT]
  refine ⟨⟨_, _, hT, by rw [txs123.1]; decide, by rw [txs123.1]; decide⟩, ?_⟩
  intro ts R c n _ hx hc hn'
  rw [hT] at hx
  obtain ⟨n, rfl⟩ : ∃ n', n = n' + 1 := ⟨n - 1, by omega⟩
  have hl1 : 1 ≤ ts.length := by
    obtain ⟨t0, ts1, rfl, -, -⟩ := Lx.cons_inv hx
    simp
  obtain ⟨x', s1, s2⟩ := blockB_r e ho hs hn hto hty hB (R := R) (c := c) (n := n) hx hc (by omega)
  refine ⟨x', s1, ?_⟩
  obtain ⟨t0, ts1, rfl, ht0, hx1⟩ := Lx.cons_inv hx
  have q0 : q t0 = [123] := (q_of ht0).trans txs123.1
  have n0 : isNm t0 = false := (nm_of ht0).trans txs123.2
  rw [show (t0 :: ts1) ++ R = t0 :: (ts1 ++ R) from rfl, word_start e hd n0, q0, if_pos rfl]
  exact s2
end
end Go.Proofs.YtlbjjpfhkgagiaaGreatDoor
/-! Pue -/
namespace Go.Proofs.YtlbjjpfhkgagiaaGreatDoor
set_option linter.unusedVariables false
set_option linter.unusedSimpArgs false
set_option linter.unusedSectionVars false

section
variable (e : Tok)
def RdJ : It → Hd → Fo → Prop
  | .e d lv, h, k => RdE e d lv h k
  | .s d cl, h, k => RdS e d cl h k
  | .c d, h, k => RdC e (d + 1) h k ∧ h.op = 7 ∧ NmG h.s
def RdL : List It → Option It → Fo → Prop
  | p, _, .nil => p = []
  | it :: p, st, .cons h k r => RdJ e it h k ∧ RdL p st r
  | [], some it, .cons h k r => RdJ e it h k ∧ RdL [] (some it) r
  | [], none, .cons _ _ _ => False
theorem RdL.nil_inv {k : Fo} (h : RdL e [] none k) : k = .nil := by
  cases k with
  | nil => rfl
  | cons _ _ _ => exact h.elim
theorem RdL.one_inv {it : It} {k : Fo} (h : RdL e [it] none k) : ∃ h1 k1, k = .one h1 k1 ∧ RdJ e it h1 k1 := by
  cases k with
  | nil => cases h
  | cons h1 k1 r =>
    obtain ⟨a, b⟩ := h
    obtain rfl := RdL.nil_inv e b
    exact ⟨h1, k1, rfl, a⟩
theorem RdL.two_inv {it it2 : It} {k : Fo} (h : RdL e [it, it2] none k) : ∃ h1 k1 h2 k2, k = .cons h1 k1 (.one h2 k2) ∧ RdJ e it h1 k1 ∧ RdJ e it2 h2 k2 := by
  cases k with
  | nil => cases h
  | cons h1 k1 r =>
    obtain ⟨a, b⟩ := h
    obtain ⟨h2, k2, rfl, c⟩ := RdL.one_inv e b
    exact ⟨h1, k1, h2, k2, rfl, a, c⟩
theorem RdL.three_inv {it it2 it3 : It} {k : Fo} (h : RdL e [it, it2, it3] none k) : ∃ h1 k1 h2 k2 h3 k3, k = .cons h1 k1 (.cons h2 k2 (.one h3 k3)) ∧ RdJ e it h1 k1 ∧ RdJ e it2 h2 k2 ∧ RdJ e it3 h3 k3 := by
  cases k with
  | nil => cases h
  | cons h1 k1 r =>
    obtain ⟨a, b⟩ := h
    obtain ⟨h2, k2, h3, k3, rfl, c, d⟩ := RdL.two_inv e b
    exact ⟨h1, k1, h2, k2, h3, k3, rfl, a, c, d⟩
theorem RdL.args_inv {d : Nat} (k : Fo) (h : RdL e [] (some (.e d 1)) k) : RdA e d k := by
  induction k with
  | nil => trivial
  | cons h1 k1 r _ ih => exact ⟨h.1, ih h.2⟩
theorem RdL.blk_inv {d : Nat} (k : Fo) (h : RdL e [] (some (.s (d + 1) false)) k) : RdB e d k := by
  induction k with
  | nil => trivial
  | cons h1 k1 r _ ih => exact ⟨h.1, ih h.2⟩
theorem core {it : It} {h : Hd} {k : Fo} (h1 : okI TkG it h k.len) (h2 : RdL e (kI it h k.len).1 (kI it h k.len).2 k) : RdJ e it h k := by
  cases it with
  | e d lv =>
    show RdE e d lv h k
    simp only [kI] at h2
    rcases h1 with ⟨ho, hd, ht, hs, hto⟩ | ⟨ho, hd, hs, hn, hto, hty⟩ | ⟨ho, hd, hs, hn, hto, hty⟩ | ⟨ho, hd, hs, hn, hto, hty⟩ | ⟨ho, hd, hl, hn, hto, hty⟩ | ⟨ho, hd, hs, hn, hto, hty⟩ | ⟨ho, hd, hs, hn, hto, hty⟩ | ⟨ho, hd, hs, hn, hto, hty⟩
    · simp [kE, ho] at h2
      obtain rfl := RdL.nil_inv e h2
      exact num_r e ho hd ht hs hto
    · simp [kE, ho] at h2
      obtain rfl := RdL.nil_inv e h2
      exact name_r e ho hd hs.g hn hto hty
    · simp [kE, ho] at h2
      obtain ⟨h1, k1, rfl, hk⟩ := RdL.one_inv e h2
      exact idx_r e ho hd hs.g hn hto hty hk
    · simp [kE, ho] at h2
      obtain ⟨h1, k1, rfl, hk⟩ := RdL.one_inv e h2
      exact un_r e ho hd hs hn hto hty hk
    · have h3 : RdL e [.e (dpt d lv h) (lvl h.s), .e (dpt d lv h) (lvl h.s + 1)] none k := by
        simp [kE, ho] at h2
        unfold dpt
        by_cases hl2 : lvl h.s < lv
        · rw [if_pos hl2] at h2; rw [if_pos ⟨ho, hl2⟩]; exact h2
        · rw [if_neg hl2] at h2; rw [if_neg (fun h' => hl2 h'.2)]; exact h2
      obtain ⟨h1, k1, h2, k2, rfl, hA, hB⟩ := RdL.two_inv e h3
      exact bin_r e ho hd hl hn hto hty hA hB
    · simp [kE, ho] at h2
      obtain ⟨h1, k1, rfl, hk⟩ := RdL.one_inv e h2
      exact cast_r e ho hd hs hn hto hty hk
    · simp [kE, ho] at h2
      exact call_r e ho hd hs.g hn hto hty (RdL.args_inv e k h2)
    · simp [kE, ho] at h2
      obtain rfl := RdL.nil_inv e h2
      exact in_r e ho hd hs hn hto hty
  | s d cl =>
    show RdS e d cl h k
    simp only [kI] at h2
    obtain ⟨hd, hn, hty, h1⟩ := h1
    rcases h1 with ⟨ho, hs, hto⟩ | ⟨ho, hs, hto⟩ | ⟨ho, hs, hto⟩ | ⟨ho, hs, hto⟩ | ⟨ho, hs, hto, hlen⟩ | ⟨ho, hs, hto⟩ | ⟨ho, hs, hto⟩ | ⟨ho, hs, hto⟩ | ⟨ho, hs, hto, hlen⟩ | ⟨ho, hs, hto⟩ | ⟨ho, hs, hto⟩
    · simp [kS, ho] at h2
      exact block_r e ho hd hs hn hto hty (RdL.blk_inv e k h2)
    · simp [kS, ho] at h2
      obtain ⟨h1, k1, rfl, hk⟩ := RdL.one_inv e h2
      exact local_r e ho hd hs.g hn hto hty hk
    · simp [kS, ho] at h2
      obtain ⟨h1, k1, rfl, hk⟩ := RdL.one_inv e h2
      exact assign_r e ho hd hs.g hn hto hty hk
    · simp [kS, ho] at h2
      obtain ⟨h1, k1, h2, k2, rfl, hA, hB⟩ := RdL.two_inv e h2
      exact store_r e ho hd hs.g hn hto hty hA hB
    · rcases hlen with hlen | ⟨hlen, rfl⟩
      · simp [kS, ho, hlen] at h2
        obtain ⟨h1, k1, h2, k2, h3, k3, rfl, hA, hB, hC⟩ := RdL.three_inv e h2
        exact if3_r e ho hd hs hn hto hty hA hB hC
      · simp [kS, ho, hlen] at h2
        obtain ⟨h1, k1, h2, k2, rfl, hA, hB⟩ := RdL.two_inv e h2
        exact if2_r e ho hd hs hn hto hty hA hB
    · simp [kS, ho] at h2
      obtain ⟨h1, k1, h2, k2, rfl, hA, hB⟩ := RdL.two_inv e h2
      exact while_r e ho hd hs hn hto hty hA hB
    · simp [kS, ho] at h2
      obtain rfl := RdL.nil_inv e h2
      exact goto_r e ho hd hs.g hn hto hty
    · simp [kS, ho] at h2
      obtain ⟨h1, k1, rfl, hk⟩ := RdL.one_inv e h2
      exact label_r e ho hd hs.g hn hto hty hk
    · by_cases h0 : k.len = 0
      · simp [kS, ho, h0] at h2
        obtain rfl := RdL.nil_inv e h2
        exact ret0_r e ho hd hs hn hto hty
      · simp [kS, ho, h0] at h2
        obtain ⟨h1, k1, rfl, hk⟩ := RdL.one_inv e h2
        have hk2 : RdE e (d + 1) 1 h1 k1 := hk
        obtain ⟨x, xs, a, b, c, c'⟩ := hk2.1
        exact ret1_r e ho hd hs hn hto hty hk ⟨x, xs, a, c'⟩
    · simp [kS, ho] at h2
      obtain ⟨h1, k1, rfl, hk⟩ := RdL.one_inv e h2
      exact out_r e ho hd hs hn hto hty hk
    · simp [kS, ho] at h2
      obtain ⟨h1, k1, rfl, hk⟩ := RdL.one_inv e h2
      exact sexpr_r e ho hd hs hn hto hty hk.2.1 hk.2.2 hk.1
  | c d =>
    obtain ⟨ho, hs, hn, hto, hty⟩ := h1
    simp only [kI] at h2
    exact ⟨call_c e ho hn hto hty (RdL.args_inv e k h2), ho, hs.g⟩
theorem Gr.rd {x : Fo} : ∀ {p : List It} {st : Option It}, Gr TkG p st x → RdL e p st x := by
  induction x with
  | nil => intro p st h; simp only [Gr] at h; exact h
  | cons h k r ih1 ih2 =>
    intro p st hg
    cases p with
    | cons it p => simp only [Gr] at hg; exact ⟨core e hg.1 (ih1 hg.2.1), ih2 hg.2.2⟩
    | nil =>
      cases st with
      | none => simp [Gr] at hg
      | some it => simp only [Gr] at hg; exact ⟨core e hg.1 (ih1 hg.2.1), ih2 hg.2.2⟩

/-! programs -/
/-- The functions' tokens. -/
def fnTs : List Fn' → Fo → Tx
  | f :: fs, .cons h k r => fnT f (nodeT h k.tk) ++ fnTs fs r
  | _, _ => []
theorem tyW0_q {t : Int} (h : t = 0 ∨ t = 1 ∨ t = 2 ∨ t = 3) : q (tkx (typeW t)) = typeW t ∧ isNm (tkx (typeW t)) = false ∧ typeNo (typeW t) = some t ∧ (tkx (typeW t)).k ≠ 4 := by
  rcases h with rfl | rfl | rfl | rfl <;> decide
theorem typed_c {ks : List Int} {t : Tok} {l : List Tok} {c : Nat} {ty : Int} (ht : t.to 0 = tkx (typeW ty)) (h : ty = 0 ∨ ty = 1 ∨ ty = 2 ∨ ty = 3) (hk : ty ∈ ks) : typedM e ks ⟨t :: l, c⟩ = .ok ty ⟨l, c⟩ := by
  obtain ⟨h1, h2, h3, -⟩ := tyW0_q h
  unfold typedM
  rw [show pk e ⟨t :: l, c⟩ = t from rfl, q_of ht, h1, h3]
  simp only
  rw [if_pos hk]
  rfl
/-- A parameter. -/
theorem param_c {p : Pm} (hp : (p.ty = 1 ∨ p.ty = 2) ∧ NmG p.s) {ts R : List Tok} {c : Nat} (hx : Lx ts [typeW p.ty, p.s]) : paramM e ⟨ts ++ R, c⟩ = .ok p ⟨R, c⟩ := by
  obtain ⟨t0, ts1, rfl, ht0, hx1⟩ := Lx.cons_inv hx
  obtain ⟨t1, ts2, rfl, ht1, hx2⟩ := Lx.cons_inv hx1
  obtain rfl := Lx.nil_inv hx2
  have n1 : isNm t1 = true := by rw [nm_of ht1, hp.2.nm]
  have s1 : t1.s = p.s := by have := congrArg Tok.s ht1; exact this.trans hp.2.s
  unfold paramM
  rw [show [t0, t1] ++ R = t0 :: (t1 :: R) from rfl, typed_c e ht0 (by omega) (by rcases hp.1 with h | h <;> simp [h]), Rs.bind_ok, name_c e n1, Rs.bind_ok, s1]
theorem more_c : ∀ (l : List Pm), (∀ p ∈ l, (p.ty = 1 ∨ p.ty = 2) ∧ NmG p.s) → ∀ (acc : List Pm) (ts R : List Tok) (c n : Nat), q (R.headD e) = [41] → Lx ts (l.flatMap fun p => [[44], typeW p.ty, p.s]) → ts.length + 1 ≤ n → moreM e n acc ⟨ts ++ R, c⟩ = .ok (acc ++ l) ⟨R, c⟩ := by
  intro l
  induction l with
  | nil =>
    intro _ acc ts R c n hR hx hn
    obtain rfl := Lx.nil_inv (show Lx ts [] from hx)
    obtain ⟨n, rfl⟩ : ∃ n', n = n' + 1 := ⟨n - 1, by omega⟩
    unfold moreM
    rw [List.nil_append, if_neg (isT_n e (s := ⟨R, c⟩) (show q (R.headD e) ≠ [44] by rw [hR]; simp)), List.append_nil]
  | cons p l ih =>
    intro hp acc ts R c n hR hx hn
    rw [List.flatMap_cons] at hx
    obtain ⟨ta, tb, rfl, hxa, hxb⟩ := Lx.app_inv hx
    obtain ⟨t0, tc, rfl, ht0, hxc⟩ := Lx.cons_inv hxa
    have q0 : q t0 = [44] := (q_of ht0).trans tx44
    obtain ⟨n, rfl⟩ : ∃ n', n = n' + 1 := ⟨n - 1, by omega⟩
    unfold moreM
    rw [show (t0 :: tc ++ tb) ++ R = t0 :: (tc ++ (tb ++ R)) by simp, if_pos (isT_yc e q0), show (St.nx ⟨t0 :: (tc ++ (tb ++ R)), c⟩) = ⟨tc ++ (tb ++ R), c⟩ from rfl, param_c e (hp p (by simp)) hxc, Rs.bind_ok,
      ih (fun x hx => hp x (by simp [hx])) (acc ++ [p]) tb R c n hR hxb (by simp only [List.length_cons, List.length_append] at *; omega), List.append_assoc]
    rfl
theorem params_c {l : List Pm} (hl : l ≠ []) (hp : ∀ p ∈ l, (p.ty = 1 ∨ p.ty = 2) ∧ NmG p.s) {ts R : List Tok} {c n : Nat} (hR : q (R.headD e) = [41]) (hx : Lx ts (pmT l)) (hn : ts.length + 1 ≤ n) : paramsM e n ⟨ts ++ R, c⟩ = .ok l ⟨R, c⟩ := by
  cases l with
  | nil => exact absurd rfl hl
  | cons p l =>
    obtain ⟨ta, tb, rfl, hxa, hxb⟩ := Lx.app_inv (show Lx ts ([typeW p.ty, p.s] ++ l.flatMap fun p => [[44], typeW p.ty, p.s]) from hx)
    unfold paramsM
    rw [List.append_assoc, param_c e (hp p (by simp)) hxa, Rs.bind_ok, more_c e l (fun x hx => hp x (by simp [hx])) [p] tb R c n hR hxb (by simp only [List.length_append] at hn; omega)]
    rfl
/-- What is said of a program that is to be read back. -/
structure FnG (f : Fn') : Prop where
  ty : f.ty = 0 ∨ f.ty = 1 ∨ f.ty = 2
  nm : NmG f.s
  ps : ∀ p ∈ f.ps, (p.ty = 1 ∨ p.ty = 2) ∧ NmG p.s
/-- Blocks, as functions have them. -/
def RdF : Fo → Prop
  | .nil => True
  | .cons h k r => h.op = 11 ∧ h.s = [] ∧ h.n = 0 ∧ h.to = 0 ∧ h.ty = 0 ∧ RdB e 1 k ∧ RdF r
theorem function_c {f : Fn'} (hf : FnG f) {h : Hd} {k : Fo} (ho : h.op = 11 ∧ h.s = [] ∧ h.n = 0 ∧ h.to = 0 ∧ h.ty = 0) (hB : RdB e 1 k) {t : Tok} (ht : t.s = f.s) {ts R : List Tok} {c n : Nat} (hx : Lx ts ([40] :: (pmT f.ps ++ ([41] :: nodeT h k.tk)))) (hc : c + (k.size + 1) ≤ 4000) (hb : f.b = c + k.size) (hn : 4 * (ts.length + R.length) ≤ n) :
    ∃ f' x', f'.bare = f.bare ∧ Sm x' (.one h k) ∧ functionM e n f.ty t ⟨ts ++ R, c⟩ = .ok (f', x') ⟨R, c + (k.size + 1)⟩ := by
  obtain ⟨t0, ts1, rfl, ht0, hx1⟩ := Lx.cons_inv hx
  obtain ⟨t1, t2, rfl, hx2, hx3⟩ := Lx.app_inv hx1
  obtain ⟨t3, t4, rfl, ht3, hx4⟩ := Lx.cons_inv hx3
  have q0 : q t0 = [40] := (q_of ht0).trans tx40.1
  have q3 : q t3 = [41] := (q_of ht3).trans tx41.1
  have hT : nodeT h k.tk = [123] :: (k.tk.flatMap (·.2) ++ [[125]]) := by simp [nodeT, patL, ho.1, partT]
  rw [hT] at hx4
  obtain ⟨x', s1, s2⟩ := blockB_r e ho.1 ho.2.1 ho.2.2.1 ho.2.2.2.1 ho.2.2.2.2 hB (ts := t4) (R := R) (c := c) (n := n) hx4 hc (by simp only [List.length_cons, List.length_append] at *; omega)
  refine ⟨⟨t.s, f.ty, f.ps, c + (k.size + 1) - 1, t.p⟩, x', ?_, s1, ?_⟩
  · unfold Fn'.bare
    simp only
    rw [ht, hb]
    rfl
  · rw [show (t0 :: (t1 ++ t3 :: t4)) ++ R = t0 :: (t1 ++ t3 :: (t4 ++ R)) by simp]
    unfold functionM
    rw [must_c e q0, Rs.bind_ok]
    by_cases hp : f.ps = []
    · rw [hp] at hx2
      obtain rfl := Lx.nil_inv (show Lx t1 [] from hx2)
      rw [List.nil_append, if_pos (isT_yc e q3), Rs.bind_ok, must_c e q3, Rs.bind_ok, s2, Rs.bind_ok, hp]
    · have hpr := params_c e hp hf.ps (ts := t1) (R := t3 :: (t4 ++ R)) (c := c) (n := n) (by rw [List.headD_cons]; exact q3) hx2 (by simp only [List.length_cons, List.length_append] at *; omega)
      have hne : ∃ t5 t6, t1 = t5 :: t6 ∧ q t5 ≠ [41] := by
        cases hps : f.ps with
        | nil => exact absurd hps hp
        | cons p l =>
          rw [hps] at hx2
          obtain ⟨t5, t6, rfl, ht5, -⟩ := Lx.cons_inv (show Lx t1 (typeW p.ty :: ([p.s] ++ l.flatMap fun p => [[44], typeW p.ty, p.s])) from hx2)
          have hty := (hf.ps p (by rw [hps]; simp)).1
          refine ⟨t5, t6, rfl, ?_⟩
          rw [q_of ht5, (tyW_q (t := p.ty) (by omega)).1]
          rcases hty with h' | h' <;> rw [h'] <;> decide
      obtain ⟨t5, t6, rfl, ht5⟩ := hne
      rw [if_neg (show ¬ isT e [41] ⟨t5 :: t6 ++ t3 :: (t4 ++ R), c⟩ = true from isT_nc e ht5), hpr, Rs.bind_ok, must_c e q3, Rs.bind_ok, s2, Rs.bind_ok]
structure GlG (g : Gl) : Prop where
  ty : g.ty = 1 ∨ g.ty = 2 ∨ g.ty = 3
  ar : g.ty = 3 → 1 ≤ g.n
  nm : NmG g.s
  n : 0 ≤ g.n ∧ g.n ≤ 1024
  num : g.n ≠ 0 → (tkx (Lib.itoa g.n)).k = 2 ∧ (tkx (Lib.itoa g.n)).n = g.n
theorem global_c {g : Gl} (hg : GlG g) {t : Tok} (ht : t.s = g.s) {ts R : List Tok} {c : Nat} (hx : Lx ts ((if g.n = 0 then [] else [[91], Lib.itoa g.n, [93]]) ++ [[59]])) :
    ∃ g', g'.bare = g.bare ∧ globalM e g.ty t ⟨ts ++ R, c⟩ = .ok g' ⟨R, c⟩ := by
  by_cases h0 : g.n = 0
  · rw [if_pos h0] at hx
    obtain ⟨t0, ts1, rfl, ht0, hx1⟩ := Lx.cons_inv (show Lx ts [[59]] from hx)
    obtain rfl := Lx.nil_inv hx1
    have q0 : q t0 = [59] := (q_of ht0).trans txs59
    refine ⟨⟨t.s, g.ty, 0, t.p⟩, by unfold Gl.bare; simp only; rw [ht, h0], ?_⟩
    unfold globalM
    rw [show [t0] ++ R = t0 :: R from rfl, if_neg (fun h' => by
      rcases h' with h' | h'
      · have := hg.ar h'; omega
      · exact isT_nc e (by rw [q0]; simp) h'), must_c e q0, Rs.bind_ok]
  · rw [if_neg h0] at hx
    obtain ⟨t0, ts1, rfl, ht0, hx1⟩ := Lx.cons_inv (show Lx ts ([91] :: Lib.itoa g.n :: [93] :: [[59]]) from hx)
    obtain ⟨t1, ts2, rfl, ht1, hx2⟩ := Lx.cons_inv hx1
    obtain ⟨t2, ts3, rfl, ht2, hx3⟩ := Lx.cons_inv hx2
    obtain ⟨t3, ts4, rfl, ht3, hx4⟩ := Lx.cons_inv hx3
    obtain rfl := Lx.nil_inv hx4
    have q0 : q t0 = [91] := (q_of ht0).trans tx91
    have q2 : q t2 = [93] := (q_of ht2).trans tx93
    have q3 : q t3 = [59] := (q_of ht3).trans txs59
    obtain ⟨k1, n1⟩ := hg.num h0
    have k1' : t1.k = 2 := (k_of ht1).trans k1
    have n1' : t1.n = g.n := by have := congrArg Tok.n ht1; exact this.trans n1
    have hn := hg.n
    refine ⟨⟨t.s, g.ty, g.n, t.p⟩, by unfold Gl.bare; simp only; rw [ht], ?_⟩
    have hsz : ∀ cc, sizeM e ⟨t1 :: (t2 :: (t3 :: R)), cc⟩ = .ok g.n ⟨t2 :: (t3 :: R), cc⟩ := fun cc => by
      unfold sizeM
      rw [show pk e ⟨t1 :: (t2 :: (t3 :: R)), cc⟩ = t1 from rfl, if_neg (by omega), if_neg (by omega), n1']
      rfl
    unfold globalM
    rw [show [t0, t1, t2, t3] ++ R = t0 :: (t1 :: (t2 :: (t3 :: R))) from rfl, if_pos (Or.inr (isT_yc e q0)), must_c e q0, Rs.bind_ok, hsz, Rs.bind_ok, must_c e q2, Rs.bind_ok, must_c e q3, Rs.bind_ok]
theorem item_gc {g : Gl} (hg : GlG g) {ts R : List Tok} {c n : Nat} {p : Pg} (hx : Lx ts (glT g)) : ∃ g', g'.bare = g.bare ∧ itemM e n p ⟨ts ++ R, c⟩ = .ok ⟨p.g ++ [g'], p.f, p.t⟩ ⟨R, c⟩ := by
  have hT : glT g = typeW g.ty :: g.s :: ((if g.n = 0 then [] else [[91], Lib.itoa g.n, [93]]) ++ [[59]]) := rfl
  rw [hT] at hx
  obtain ⟨t0, ts1, rfl, ht0, hx1⟩ := Lx.cons_inv hx
  obtain ⟨t1, ts2, rfl, ht1, hx2⟩ := Lx.cons_inv hx1
  have n1 : isNm t1 = true := by rw [nm_of ht1, hg.nm.nm]
  have s1 : t1.s = g.s := by have := congrArg Tok.s ht1; exact this.trans hg.nm.s
  obtain ⟨g', h1, h2⟩ := global_c e hg s1 (R := R) (c := c) hx2
  refine ⟨g', h1, ?_⟩
  have hty := hg.ty
  have hfst : ∃ t2 ts3, ts2 = t2 :: ts3 ∧ q t2 ≠ [40] := by
    by_cases h0 : g.n = 0
    · rw [if_pos h0] at hx2
      obtain ⟨t2, ts3, rfl, ht2, -⟩ := Lx.cons_inv (show Lx ts2 [[59]] from hx2)
      exact ⟨t2, ts3, rfl, by rw [(q_of ht2).trans txs59]; simp⟩
    · rw [if_neg h0] at hx2
      obtain ⟨t2, ts3, rfl, ht2, -⟩ := Lx.cons_inv (show Lx ts2 ([91] :: Lib.itoa g.n :: [93] :: [[59]]) from hx2)
      exact ⟨t2, ts3, rfl, by rw [(q_of ht2).trans tx91]; simp⟩
  obtain ⟨t2, ts3, rfl, q2⟩ := hfst
  unfold itemM
  rw [show (t0 :: t1 :: (t2 :: ts3)) ++ R = t0 :: (t1 :: (t2 :: ts3 ++ R)) from rfl, typed_c e ht0 (by omega) (by simp; omega), Rs.bind_ok, name_c e n1, Rs.bind_ok, if_neg (fun h' => by
    rcases h' with h' | h'
    · omega
    · exact isT_nc e q2 h'.2), h2, Rs.bind_ok]
theorem item_fc {f : Fn'} (hf : FnG f) {h : Hd} {k : Fo} (ho : h.op = 11 ∧ h.s = [] ∧ h.n = 0 ∧ h.to = 0 ∧ h.ty = 0) (hB : RdB e 1 k) {ts R : List Tok} {c n : Nat} {p : Pg} (hx : Lx ts (fnT f (nodeT h k.tk))) (hc : c + (k.size + 1) ≤ 4000) (hb : f.b = c + k.size) (hn : 4 * (ts.length + R.length) ≤ n) :
    ∃ f' x', f'.bare = f.bare ∧ Sm x' (.one h k) ∧ itemM e n p ⟨ts ++ R, c⟩ = .ok ⟨p.g, p.f ++ [f'], p.t.app x'⟩ ⟨R, c + (k.size + 1)⟩ := by
  have hT : fnT f (nodeT h k.tk) = typeW f.ty :: f.s :: ([40] :: (pmT f.ps ++ ([41] :: nodeT h k.tk))) := by simp [fnT]
  rw [hT] at hx
  obtain ⟨t0, ts1, rfl, ht0, hx1⟩ := Lx.cons_inv hx
  obtain ⟨t1, ts2, rfl, ht1, hx2⟩ := Lx.cons_inv hx1
  have n1 : isNm t1 = true := by rw [nm_of ht1, hf.nm.nm]
  have s1 : t1.s = f.s := by have := congrArg Tok.s ht1; exact this.trans hf.nm.s
  obtain ⟨f', x', h1, h2, h3⟩ := function_c e hf ho hB s1 (R := R) (c := c) (n := n) hx2 hc hb (by simp only [List.length_cons] at *; omega)
  refine ⟨f', x', h1, h2, ?_⟩
  have hty := hf.ty
  obtain ⟨t2, ts3, rfl, ht2, -⟩ := Lx.cons_inv hx2
  have q2 : q t2 = [40] := (q_of ht2).trans tx40.1
  unfold itemM
  rw [show (t0 :: t1 :: (t2 :: ts3)) ++ R = t0 :: (t1 :: (t2 :: ts3 ++ R)) from rfl, typed_c e ht0 (by omega) (by simp; omega), Rs.bind_ok, name_c e n1, Rs.bind_ok, if_pos (Or.inr ⟨by omega, isT_yc e q2⟩), h3, Rs.bind_ok]
theorem prog_step {n : Nat} {p : Pg} {t : Tok} {l : List Tok} {c : Nat} (hk : t.k ≠ 4) : progM e (n + 1) p ⟨t :: l, c⟩ = (itemM e n p ⟨t :: l, c⟩).bind fun p s => progM e n p s := by
  show (if (pk e ⟨t :: l, c⟩).k = 4 then _ else _) = _
  rw [if_neg (show ¬ (pk e ⟨t :: l, c⟩).k = 4 from hk)]
theorem prog_fc (he : e.k = 4) : ∀ (t : Fo) (fs : List Fn'), RdF e t → (∀ f ∈ fs, FnG f) → ∀ (p : Pg) (ts : List Tok) (c n : Nat), Lx ts (fnTs fs t) → fs.map (·.b) = t.roots c → c + t.size ≤ 4000 → 4 * ts.length + 5 ≤ n →
    ∃ pg', progM e n p ⟨ts, c⟩ = .ok pg' ⟨[], c + t.size⟩ ∧ pg'.g = p.g ∧ pg'.f.map Fn'.bare = p.f.map Fn'.bare ++ fs.map Fn'.bare ∧ pg'.t.bare = p.t.bare.app t.bare := by
  intro t
  induction t with
  | nil =>
    intro fs _ _ p ts c n hx hb hc hn
    cases fs with
    | cons f fs => simp [Fo.roots] at hb
    | nil =>
      obtain rfl := Lx.nil_inv (show Lx ts [] from hx)
      obtain ⟨n, rfl⟩ : ∃ n', n = n' + 1 := ⟨n - 1, by omega⟩
      refine ⟨p, ?_, rfl, by simp, by rw [Fo.bare, Fo.app_nil]⟩
      show (if (pk e ⟨[], c⟩).k = 4 then _ else _) = _
      rw [if_pos (show (pk e ⟨[], c⟩).k = 4 from he)]
      rfl
  | cons h k r _ ih =>
    intro fs hR hF p ts c n hx hb hc hn
    cases fs with
    | nil => simp [Fo.roots] at hb
    | cons f fs =>
      obtain ⟨ta, tb, rfl, hxa, hxb⟩ := Lx.app_inv (show Lx ts (fnT f (nodeT h k.tk) ++ fnTs fs r) from hx)
      simp only [List.map_cons, Fo.roots, List.cons.injEq] at hb
      have hsz : (Fo.cons h k r).size = k.size + 1 + r.size := rfl
      obtain ⟨n, rfl⟩ : ∃ n', n = n' + 1 := ⟨n - 1, by omega⟩
      obtain ⟨f', x', h1, h2, h3⟩ := item_fc e (hF f (by simp)) ⟨hR.1, hR.2.1, hR.2.2.1, hR.2.2.2.1, hR.2.2.2.2.1⟩ hR.2.2.2.2.2.1 (R := tb) (c := c) (n := n) (p := p) hxa (by omega) hb.1 (by simp only [List.length_append] at hn; omega)
      obtain ⟨t0, ts1, rfl, ht0, -⟩ := Lx.cons_inv (show Lx ta (typeW f.ty :: (f.s :: ([40] :: (pmT f.ps ++ ([41] :: nodeT h k.tk))))) by simpa [fnT] using hxa)
      have hk0 : t0.k ≠ 4 := by rw [k_of ht0]; exact (tyW0_q (t := f.ty) (by have := (hF f (by simp)).ty; omega)).2.2.2
      obtain ⟨pg', g1, g2, g3, g4⟩ := ih fs hR.2.2.2.2.2.2 (fun x hx => hF x (by simp [hx])) ⟨p.g, p.f ++ [f'], p.t.app x'⟩ tb (c + (k.size + 1)) n hxb (by rw [← Nat.add_assoc]; exact hb.2) (by omega) (by simp only [List.length_append, List.length_cons] at hn; omega)
      refine ⟨pg', ?_, g2, ?_, ?_⟩
      · rw [show (t0 :: ts1) ++ tb = t0 :: (ts1 ++ tb) from rfl, prog_step e hk0, show t0 :: (ts1 ++ tb) = (t0 :: ts1) ++ tb from rfl, h3, Rs.bind_ok, g1, hsz, Nat.add_assoc]
      · rw [g3, List.map_append, List.map_cons, List.map_nil, h1, List.append_assoc]; rfl
      · rw [g4]
        simp only [Fo.bare_app, Fo.app_assoc]
        rw [show x'.bare = (Fo.one h k).bare from h2]
        rfl
theorem prog_gc (he : e.k = 4) {fs : List Fn'} {t : Fo} (hR : RdF e t) (hF : ∀ f ∈ fs, FnG f) : ∀ (gs : List Gl), (∀ g ∈ gs, GlG g) → ∀ (p : Pg) (ts : List Tok) (n : Nat), Lx ts (gs.flatMap glT ++ fnTs fs t) → fs.map (·.b) = t.roots 0 → t.size ≤ 4000 → 4 * ts.length + 5 ≤ n →
    ∃ pg', progM e n p ⟨ts, 0⟩ = .ok pg' ⟨[], 0 + t.size⟩ ∧ pg'.g.map Gl.bare = p.g.map Gl.bare ++ gs.map Gl.bare ∧ pg'.f.map Fn'.bare = p.f.map Fn'.bare ++ fs.map Fn'.bare ∧ pg'.t.bare = p.t.bare.app t.bare := by
  intro gs
  induction gs with
  | nil =>
    intro _ p ts n hx hb hc hn
    obtain ⟨pg', g1, g2, g3, g4⟩ := prog_fc e he t fs hR hF p ts 0 n hx hb (by omega) hn
    exact ⟨pg', g1, by rw [g2]; simp, g3, g4⟩
  | cons g gs ih =>
    intro hG p ts n hx hb hc hn
    rw [List.flatMap_cons, List.append_assoc] at hx
    obtain ⟨ta, tb, rfl, hxa, hxb⟩ := Lx.app_inv hx
    obtain ⟨n, rfl⟩ : ∃ n', n = n' + 1 := ⟨n - 1, by omega⟩
    obtain ⟨g', h1, h3⟩ := item_gc e (hG g (by simp)) (R := tb) (c := 0) (n := n) (p := p) hxa
    obtain ⟨t0, ts1, rfl, ht0, -⟩ := Lx.cons_inv (show Lx ta (typeW g.ty :: (g.s :: ((if g.n = 0 then [] else [[91], Lib.itoa g.n, [93]]) ++ [[59]]))) from hxa)
    have hk0 : t0.k ≠ 4 := by rw [k_of ht0]; exact (tyW0_q (t := g.ty) (by have := (hG g (by simp)).ty; omega)).2.2.2
    obtain ⟨pg', g1, g2, g3, g4⟩ := ih (fun x hx => hG x (by simp [hx])) ⟨p.g ++ [g'], p.f, p.t⟩ tb n hxb hb hc (by simp only [List.length_append, List.length_cons] at hn; omega)
    refine ⟨pg', ?_, ?_, g3, g4⟩
    · rw [show (t0 :: ts1) ++ tb = t0 :: (ts1 ++ tb) from rfl, prog_step e hk0, show t0 :: (ts1 ++ tb) = (t0 :: ts1) ++ tb from rfl, h3, Rs.bind_ok, g1]
    · rw [g2, List.map_append, List.map_cons, List.map_nil, h1, List.append_assoc]; rfl
end
end Go.Proofs.YtlbjjpfhkgagiaaGreatDoor
/-! Puf -/
namespace Go.Proofs.YtlbjjpfhkgagiaaGreatDoor
set_option linter.unusedVariables false
set_option linter.unusedSimpArgs false
set_option linter.unusedSectionVars false

/-! a text's tokens -/
theorem sc_mark {x : List UInt8} (h : (sc x).1.k = 2) : (sc x).1.s = [] ∨ (sc x).1.s = [76] := by
  unfold sc at h ⊢
  split
  · rename_i h0
    rw [if_pos h0] at h
    unfold scName at h
    split at h <;> simp [tk0] at h
  · rename_i h0
    rw [if_neg h0] at h
    split
    · rename_i h1
      rw [if_pos h1] at h
      unfold scNum at h ⊢
      split
      · exact .inl rfl
      · split
        · exact .inl rfl
        · show nmark x = [] ∨ nmark x = [76]
          unfold nmark
          split
          · exact .inr rfl
          · exact .inl rfl
    · rename_i h1
      rw [if_neg h1] at h
      unfold scSign at h
      split at h <;> simp [tk0] at h
theorem Sg.good {l : List UInt8} {segs : List Seg} (h : Sg l segs) : ∀ s ∈ segs, s.2.1 ≠ [] ∧ sc s.2.1 = (s.2.2, s.2.1.length, 0) ∧ sk false s.2.1 = 0 := by
  induction h with
  | fin g st hg => intro s hs; cases hs
  | step g u r tk segs hg hu hsc h0 hr ih =>
    intro s hs
    rcases List.mem_cons.1 hs with rfl | hs
    · have h1 := sc_stable (r' := []) hu hsc (.inl rfl)
      have h2 := sk0_stable (r' := []) hu h0 (.inl rfl)
      rw [List.append_nil] at h1 h2
      exact ⟨hu, h1, h2⟩
    · exact ih s hs
theorem tokL_G {l : List UInt8} {segs : List Seg} (h : Sg l segs) (e a : Nat) : ∀ t ∈ tokL e a segs, TkG t := by
  have hv := tokL_V h e a
  have ht := h.tok
  have hg := h.good
  suffices hs : ∀ t ∈ tokL e a segs, (t.k ≠ 4 → LexG (txt t) ∧ (tkx (txt t)).k = t.k ∧ (tkx (txt t)).n = t.n ∧ (tkx (txt t)).s = t.s) ∧ (t.k = 2 → t.s = [] ∨ t.s = [76]) from fun t hm => ⟨hv t hm, (hs t hm).1, (hs t hm).2⟩
  clear hv h
  induction segs generalizing a with
  | nil => intro t hm; rw [tokL, List.mem_singleton] at hm; subst hm; exact ⟨by simp, by simp⟩
  | cons s q ih =>
    intro t hm
    rw [tokL] at hm
    rcases List.mem_cons.1 hm with rfl | hm
    · obtain ⟨g1, g2, g3⟩ := hg s (by simp)
      have h2 : txt (s.2.2.to ((a + s.1.length : Nat))) = s.2.1 := (ht s (by simp)).2.1
      rw [h2]
      have h3 : (sc s.2.1).1 = s.2.2 := by rw [g2]
      refine ⟨fun _ => ⟨⟨g1, by rw [g2], g3⟩, ?_, ?_, ?_⟩, fun hk => ?_⟩
      · unfold tkx; rw [h3]; rfl
      · unfold tkx; rw [h3]; rfl
      · unfold tkx; rw [h3]; rfl
      · have hk' : (sc s.2.1).1.k = 2 := by rw [h3]; exact hk
        have := sc_mark hk'
        rw [h3] at this
        exact this
    · exact ih _ (fun x hx => ht x (List.mem_cons_of_mem _ hx)) (fun x hx => hg x (List.mem_cons_of_mem _ hx)) t hm
theorem lex_good {l : List UInt8} (h : (lexL l).2.1 = 0) : ∀ t ∈ (lexL l).1, TkG t := by
  obtain ⟨hl, segs, hS⟩ := lex_Sg h
  rw [hS.lex hl]
  exact tokL_G hS _ _

/-! printed tokens are tokens -/
def lexB (x : List UInt8) : Bool := decide (x ≠ []) && decide ((sc x).2 = (x.length, 0)) && decide (sk false x = 0)
theorem LexG.of {x : List UInt8} (h : lexB x = true) : LexG x := by
  simp only [lexB, Bool.and_eq_true, decide_eq_true_eq] at h
  exact ⟨h.1.1, h.1.2, h.2⟩
theorem typeW_lex (t : Int) : LexG (typeW t) := by
  unfold typeW
  repeat' split
  all_goals exact .of (by decide)
theorem pat_lex (op : Int) (n : Nat) : ∀ x ∈ patL op n, x = [78] ∨ x = [83] ∨ x = [84] ∨ x = [42, 44] ∨ lexB x = true := by
  unfold patL
  repeat' (first | (refine ite_mem (fun _ => ?_) (fun _ => ?_)) | decide)
theorem pat_N {op : Int} {n : Nat} (h : [78] ∈ patL op n) : op = 1 := by
  have key : ∀ x ∈ patL op n, x = [78] → op = 1 := by
    unfold patL
    repeat' (first | (refine ite_mem (fun _ => ?_) (fun _ => ?_)) | (intro x hx e; subst e; exact absurd hx (by decide)) | (rename_i e; subst e; intro _ _ _; rfl))
  exact key _ h rfl
theorem lvl_lex {x : List UInt8} (h : 1 ≤ lvl x) : LexG x := by
  unfold lvl at h
  repeat (split at h; (rename_i e; first | (subst e; exact .of (by decide)) | (rcases e with rfl | rfl <;> exact .of (by decide)) | (rcases e with rfl | rfl | rfl <;> exact .of (by decide)) | (rcases e with rfl | rfl | rfl | rfl <;> exact .of (by decide))))
  omega
structure LxN (h : Hd) : Prop where
  d : h.op = 1 → LexG (digL h)
  s : usesS h.op = true → LexG h.s
theorem It.lx {it : It} {h : Hd} {n : Nat} (h1 : okI TkG it h n) : LxN h := by
  cases it with
  | e d lv =>
    rcases h1 with ⟨ho, _, ⟨t, ht, hk, hn, hty⟩, hs, hto⟩ | ⟨ho, _, hm, hn, hto, _⟩ | ⟨ho, _, hm, hn, hto, _⟩ | ⟨ho, _, hm, hn, hto, _⟩ | ⟨ho, _, hm, hn, hto, _⟩ | ⟨ho, _, hs, hn, hto, _⟩ | ⟨ho, _, hm, hn, hto, _⟩ | ⟨ho, _, hs, hn, hto, _⟩
    · refine ⟨fun _ => ?_, by simp [ho, usesS]⟩
      have hdg : digL h = txt t := by
        rw [digL, txt, if_pos hk, hn, hty]
        rcases ht.m hk with h5 | h5 <;> simp [h5]
      rw [hdg]
      exact (ht.g (by omega)).1
    · exact ⟨by omega, fun _ => hm.g.g⟩
    · exact ⟨by omega, fun _ => hm.g.g⟩
    · exact ⟨by omega, fun _ => by rcases hm with h | h | h <;> rw [h] <;> exact .of (by decide)⟩
    · exact ⟨by omega, fun _ => lvl_lex hm⟩
    · exact ⟨by omega, by simp [ho, usesS]⟩
    · exact ⟨by omega, fun _ => hm.g.g⟩
    · exact ⟨by omega, by simp [ho, usesS]⟩
  | s d cl =>
    obtain ⟨-, hn, -, h1⟩ := h1
    rcases h1 with ⟨ho, hs, hto⟩ | ⟨ho, hm, hto⟩ | ⟨ho, hm, hto⟩ | ⟨ho, hm, hto⟩ | ⟨ho, hs, hto, _⟩ | ⟨ho, hs, hto⟩ | ⟨ho, hm, hto⟩ | ⟨ho, hm, hto⟩ | ⟨ho, hs, hto, _⟩ | ⟨ho, hs, hto⟩ | ⟨ho, hs, hto⟩
    all_goals
      first
      | exact ⟨by omega, fun _ => hm.g.g⟩
      | exact ⟨by omega, by simp [ho, usesS]⟩
  | c d =>
    obtain ⟨ho, hm, hn, hto, -⟩ := h1
    exact ⟨by omega, fun _ => hm.g.g⟩
theorem nodeT_lex {h : Hd} {k : Fo} (hn : LxN h) (hk : ∀ a ∈ k.tk, ∀ x ∈ a.2, LexG x) : ∀ x ∈ nodeT h k.tk, LexG x := by
  intro x hx
  obtain ⟨y, hy, hx⟩ := List.mem_flatMap.1 hx
  have hw := pat_lex _ _ y hy
  have hkid : ∀ i, ∀ x ∈ kidT h i k.tk[i]?, LexG x := by
    intro i x hx
    cases ho : k.tk[i]? with
    | none => rw [ho] at hx; cases hx
    | some a =>
      have ha := hk a (List.mem_of_getElem? ho)
      rw [ho] at hx
      simp only [kidT] at hx
      split at hx
      · simp at hx
        rcases hx with rfl | hx | rfl
        · exact .of (by decide)
        · exact ha x hx
        · exact .of (by decide)
      · exact ha x hx
  unfold partT at hx
  split at hx
  · rename_i e; subst e; simp at hx; subst hx; exact hn.d (pat_N hy)
  split at hx
  · rename_i e; subst e; simp at hx; subst hx; exact hn.s (pat_S hy)
  split at hx
  · simp at hx; subst hx; exact typeW_lex _
  split at hx; · exact hkid 0 x hx
  split at hx; · exact hkid 1 x hx
  split at hx; · exact hkid 2 x hx
  split at hx
  · obtain ⟨a, ha, hx⟩ := List.mem_flatMap.1 hx; exact hk a ha x hx
  split at hx
  · cases hl : k.tk with
    | nil => rw [hl] at hx; cases hx
    | cons a l =>
      rw [hl] at hx hk
      simp only [sepT, List.mem_append, List.mem_flatMap, List.mem_cons] at hx
      rcases hx with hx | ⟨b, hb, rfl | hx⟩
      · exact hk a (by simp) x hx
      · exact .of (by decide)
      · exact hk b (by simp [hb]) x hx
  · simp at hx
    subst hx
    rcases hw with hw | hw | hw | hw | hw
    · contradiction
    · contradiction
    · contradiction
    · contradiction
    · exact .of hw
theorem Gr.lx {x : Fo} : ∀ {p : List It} {st : Option It}, Gr TkG p st x → ∀ a ∈ x.tk, ∀ t ∈ a.2, LexG t := by
  induction x with
  | nil => intro p st _ a h; cases h
  | cons h k r ih1 ih2 =>
    intro p st hg a ha
    have key : ∀ {it : It} {p : List It} {st : Option It}, okI TkG it h k.len → Gr TkG (kI it h k.len).1 (kI it h k.len).2 k → Gr TkG p st r → ∀ t ∈ a.2, LexG t := by
      intro it p st g1 g2 g3
      simp only [Fo.tk, List.mem_cons] at ha
      rcases ha with rfl | ha
      · exact nodeT_lex (It.lx g1) (ih1 g2)
      · exact ih2 g3 a ha
    cases p with
    | cons it p => simp only [Gr] at hg; exact key hg.1 hg.2.1 hg.2.2
    | nil =>
      cases st with
      | none => simp [Gr] at hg
      | some it => simp only [Gr] at hg; exact key hg.1 hg.2.1 hg.2.2
theorem Bls.lx {x : Fo} (hx : Bls TkG x) : ∀ a ∈ x.tk, ∀ t ∈ a.2, LexG t := by
  induction x with
  | nil => intro a h; cases h
  | cons h k r _ ih =>
    intro a ha
    simp only [Fo.tk, List.mem_cons] at ha
    rcases ha with rfl | ha
    · exact nodeT_lex (It.lx hx.2.1) (Gr.lx hx.2.2.1)
    · exact ih hx.2.2.2 a ha
theorem Bls.rdF (e : Tok) {x : Fo} (hx : Bls TkG x) : RdF e x := by
  induction x with
  | nil => trivial
  | cons h k r _ ih =>
    obtain ⟨ho, ⟨-, hn, hty, h1⟩, h2, h3⟩ := hx
    have hst : h.s = [] ∧ h.to = 0 := by
      rcases h1 with ⟨ho', hs, hto⟩ | ⟨ho', _⟩ | ⟨ho', _⟩ | ⟨ho', _⟩ | ⟨ho', _⟩ | ⟨ho', _⟩ | ⟨ho', _⟩ | ⟨ho', _⟩ | ⟨ho', _⟩ | ⟨ho', _⟩ | ⟨ho', _⟩
      · exact ⟨hs, hto⟩
      all_goals omega
    simp [kI, kS, ho] at h2
    exact ⟨ho, hst.1, hn, hst.2, hty, RdL.blk_inv e k (Gr.rd e h2), ih h3⟩

/-! a global's size -/
def dig4 (n : Nat) : List UInt8 :=
  let d (k : Nat) : UInt8 := UInt8.ofNat (48 + k)
  if n < 10 then [d n] else if n < 100 then [d (n / 10), d (n % 10)] else if n < 1000 then [d (n / 10 / 10), d (n / 10 % 10), d (n % 10)] else [d (n / 10 / 10 / 10), d (n / 10 / 10 % 10), d (n / 10 % 10), d (n % 10)]
theorem dec_dig4 {n : Nat} (h : n < 10000) : Lib.decDigits n = dig4 n := by
  unfold dig4
  split
  · exact dec_small (by omega)
  split
  · rw [dec_big (by omega), dec_small (by omega)]; rfl
  split
  · rw [dec_big (by omega), dec_big (by omega), dec_small (by omega)]; rfl
  · rw [dec_big (by omega), dec_big (by omega), dec_big (by omega), dec_small (by omega)]; rfl
theorem dig4_lex : ∀ n : Fin 1025, (lexB (dig4 n) && decide ((tkx (dig4 n)).k = 2) && decide ((tkx (dig4 n)).n = (n.1 : Int))) = true := by decide +kernel
theorem size_lex {n : Int} (h : 0 ≤ n ∧ n ≤ 1024) : LexG (Lib.itoa n) ∧ (tkx (Lib.itoa n)).k = 2 ∧ (tkx (Lib.itoa n)).n = n := by
  obtain ⟨m, rfl⟩ := Int.eq_ofNat_of_zero_le h.1
  have hm : m < 1025 := by omega
  rw [Lib.itoa, if_neg (by omega), Int.toNat_natCast, dec_dig4 (by omega)]
  have := dig4_lex ⟨m, hm⟩
  simp only [Bool.and_eq_true, decide_eq_true_eq] at this
  exact ⟨.of this.1.1, this.1.2, this.2⟩
theorem GlV.good {g : Gl} (h : GlV TkG g) : GlG g := ⟨h.ty, h.ar, h.nm.g, h.n, fun _ => (size_lex h.n).2⟩
theorem FnV.good {f : Fn'} (h : FnV TkG f) : FnG f := ⟨h.ty, h.nm.g, fun p hp => ⟨(h.ps p hp).1, (h.ps p hp).2.g⟩⟩
theorem glT_lex {g : Gl} (h : GlV TkG g) : ∀ x ∈ glT g, LexG x := by
  intro x hx
  simp only [glT, List.mem_append, List.mem_cons, List.not_mem_nil, or_false] at hx
  rcases hx with ((rfl | rfl) | hx) | rfl
  · exact typeW_lex _
  · exact h.nm.g.g
  · split at hx
    · cases hx
    · simp at hx
      rcases hx with rfl | rfl | rfl
      · exact .of (by decide)
      · exact (size_lex h.n).1
      · exact .of (by decide)
  · exact .of (by decide)
theorem pmT_lex {l : List Pm} (h : ∀ p ∈ l, (p.ty = 1 ∨ p.ty = 2) ∧ Nm TkG p.s) : ∀ x ∈ pmT l, LexG x := by
  cases l with
  | nil => intro x hx; cases hx
  | cons p l =>
    intro x hx
    simp only [pmT, List.mem_append, List.mem_cons, List.mem_flatMap, List.not_mem_nil, or_false] at hx
    rcases hx with (rfl | rfl) | ⟨q, hq, rfl | rfl | rfl⟩
    · exact typeW_lex _
    · exact (h p (by simp)).2.g.g
    · exact .of (by decide)
    · exact typeW_lex _
    · exact (h q (by simp [hq])).2.g.g
theorem fnT_lex {f : Fn'} {t : Tx} (hf : FnV TkG f) (ht : ∀ x ∈ t, LexG x) : ∀ x ∈ fnT f t, LexG x := by
  intro x hx
  simp only [fnT, List.mem_append, List.mem_cons, List.not_mem_nil, or_false] at hx
  rcases hx with (((rfl | rfl | rfl) | hx) | rfl) | hx
  · exact typeW_lex _
  · exact hf.nm.g.g
  · exact .of (by decide)
  · exact pmT_lex hf.ps x hx
  · exact .of (by decide)
  · exact ht x hx

/-! lines are read as their tokens -/
/-- A text whose tokens are these. -/
def Tl (r : List UInt8) (ys : Tx) : Prop := ∀ g0, gp false g0 = some false → ∃ segs : List Seg, Sg (g0 ++ r) segs ∧ segs.map (·.2) = ys.map fun x => (x, (sc x).1)
theorem Tl.nil : Tl [] [] := fun g0 h0 => ⟨[], by rw [List.append_nil]; exact .fin g0 false h0, rfl⟩
theorem Tl.gap {g r : List UInt8} {ys : Tx} (hg : gp false g = some false) (h : Tl r ys) : Tl (g ++ r) ys := fun g0 h0 => by
  rw [← List.append_assoc]
  exact h (g0 ++ g) (by rw [gp_append g0 g false false h0, hg])
theorem Tl.cons {x r : List UInt8} {ys : Tx} (hx : LexG x) (h : Tl r ys) (hr : r = [] ∨ hd isB r = true) : Tl (x ++ r) (x :: ys) := fun g0 h0 => by
  obtain ⟨segs, h1, h2⟩ := h [] rfl
  have hn : nx [] r := hr.elim .inl fun h => .inr (.inl h)
  have e0 : sc (x ++ []) = ((sc x).1, x.length, 0) := by rw [List.append_nil]; exact Prod.ext rfl hx.sc
  refine ⟨(g0, x, (sc x).1) :: segs, .step g0 x r _ segs h0 hx.ne (sc_stable hx.ne e0 hn) (sk0_stable hx.ne (r := []) (by rw [List.append_nil]; exact hx.sk) hn) h1, ?_⟩
  rw [List.map_cons, List.map_cons, h2]
theorem Tl.line {r : List UInt8} {ys : Tx} (h : Tl r ys) : ∀ (xs : Tx), (∀ x ∈ xs, LexG x) → ∀ bg, Tl (wl bg xs ++ (10 :: r)) (xs ++ ys) := by
  intro xs
  induction xs with
  | nil => intro _ bg; exact Tl.gap (g := [10]) (by decide) h
  | cons x xs ih =>
    intro hx bg
    have h1 : Tl (x ++ (wl true xs ++ (10 :: r))) (x :: (xs ++ ys)) := by
      refine Tl.cons (hx x (by simp)) (ih (fun y hy => hx y (by simp [hy])) true) (.inr ?_)
      cases xs with
      | nil => rfl
      | cons y xs => rfl
    have h2 := Tl.gap (g := if bg then [32] else []) (by cases bg <;> decide) h1
    simpa only [wl, List.append_assoc, List.cons_append] using h2
theorem gl_tl : ∀ (gs : List Gl), (∀ g ∈ gs, GlV TkG g) → ∀ {r : List UInt8} {ys : Tx}, Tl r ys → Tl (glL gs ++ r) (gs.flatMap glT ++ ys) := by
  intro gs
  induction gs with
  | nil => intro _ r ys h; exact h
  | cons g gs ih =>
    intro hg r ys h
    have h1 := Tl.line (ih (fun x hx => hg x (by simp [hx])) h) (glT g) (glT_lex (hg g (by simp))) false
    simpa [glL, List.append_assoc] using h1
theorem fn_tl : ∀ (t : Fo) (fs : List Fn'), Bls TkG t → (∀ f ∈ fs, FnV TkG f) → Tl (fnLs fs t) (fnTs fs t) := by
  intro t
  induction t with
  | nil => intro fs _ _; cases fs <;> exact Tl.nil
  | cons h k r _ ih =>
    intro fs hb hf
    cases fs with
    | nil => exact Tl.nil
    | cons f fs =>
      have h1 := Tl.line (ih fs hb.2.2.2 (fun x hx => hf x (by simp [hx]))) (fnT f (nodeT h k.tk)) (fnT_lex (hf f (by simp)) (nodeT_lex (It.lx hb.2.1) (Gr.lx hb.2.2.1))) false
      simpa [fnLs, fnTs, List.append_assoc] using h1
end Go.Proofs.YtlbjjpfhkgagiaaGreatDoor
/-! Pug -/
namespace Go.Proofs.YtlbjjpfhkgagiaaGreatDoor
set_option linter.unusedVariables false
set_option linter.unusedSimpArgs false
set_option linter.unusedSectionVars false

/-! bytes -/
def byt (t : Tx) : Nat := (t.map fun x => x.length + 1).sum
theorem byt_nil : byt [] = 0 := rfl
theorem byt_cons (x : List UInt8) (t : Tx) : byt (x :: t) = x.length + 1 + byt t := by simp [byt]
theorem byt_append (a b : Tx) : byt (a ++ b) = byt a + byt b := by simp [byt]
theorem wl_byt (xs : Tx) : ∀ bg, (wl bg xs).length ≤ byt xs := by
  induction xs with
  | nil => intro bg; simp [wl, byt]
  | cons x xs ih =>
    intro bg
    have := ih true
    simp only [wl, byt_cons, List.length_append]
    cases bg <;> simp <;> omega
def bytL (l : List (Hd × Tx)) : Nat := (l.map fun a => byt a.2 + 6).sum
theorem bytL_nil : bytL [] = 0 := rfl
theorem bytL_cons (a : Hd × Tx) (l : List (Hd × Tx)) : bytL (a :: l) = byt a.2 + 6 + bytL l := by simp [bytL]
theorem flat_byt (l : List (Hd × Tx)) : byt (l.flatMap (·.2)) ≤ bytL l := by
  induction l with
  | nil => exact Nat.le_refl _
  | cons a l ih => rw [List.flatMap_cons, byt_append, bytL_cons]; omega
theorem sepT_byt (l : List (Hd × Tx)) : byt (sepT [44] l) ≤ bytL l := by
  cases l with
  | nil => exact Nat.le_refl _
  | cons a l =>
    have : ∀ l : List (Hd × Tx), byt (l.flatMap fun b => [44] :: b.2) ≤ bytL l := by
      intro l
      induction l with
      | nil => exact Nat.le_refl _
      | cons b l ih => simp only [List.flatMap_cons, byt_append, byt_cons, bytL_cons, List.length_cons, List.length_nil]; omega
    have h1 := this l
    simp only [sepT, byt_append, bytL_cons]
    omega
theorem kidT_byt (h : Hd) (i : Nat) (a : Hd × Tx) : byt (kidT h i (some a)) ≤ byt a.2 + 4 := by
  simp only [kidT]
  split
  · simp only [byt_cons, byt_append, byt_nil, List.length_cons, List.length_nil]; omega
  · omega
theorem typeW_5 (t : Int) : (typeW t).length ≤ 5 := by
  unfold typeW
  split; · decide
  split; · decide
  split; · decide
  decide
theorem nodeT_byt {h : Hd} {l : List (Hd × Tx)} (hn : NOk h l.length) : byt (nodeT h l) ≤ bytL l + 42 := by
  have hs := hn.sl
  have ht := typeW_5 h.to
  have hd : (digL h).length ≤ 41 := by
    have h4 := Lib.itoa_length_le h.n hn.lo hn.hi
    unfold digL
    rw [List.length_append]
    split <;> simp <;> omega
  rcases arity_cases hn.ar with ⟨ho, hn⟩ | ⟨ho, hn⟩ | ⟨ho, hn⟩ | ⟨ho, hn⟩ | ⟨ho, hn⟩ | ⟨ho, hn⟩ | ⟨ho, hn⟩ | ho
  · obtain rfl := List.length_eq_zero_iff.1 hn
    rcases ho with ho | ho | ho | ho <;> simp [nodeT, patL, ho, partT, wIn, wGoto, byt_cons, byt_nil, byt_append, bytL_nil] <;> omega
  · obtain ⟨a, rfl⟩ := List.length_eq_one_iff.1 hn
    have h0 := kidT_byt h 0 a
    rcases ho with ho | ho | ho | ho | ho | ho | ho | ho <;> simp [nodeT, patL, ho, partT, bytL_cons, bytL_nil, wOut, byt_cons, byt_nil, byt_append] <;> omega
  · obtain ⟨a, b, rfl⟩ := length2 hn
    have h0 := kidT_byt h 0 a
    have h1 := kidT_byt h 1 b
    rcases ho with ho | ho | ho <;> simp [nodeT, patL, ho, partT, bytL_cons, bytL_nil, wWhile, byt_cons, byt_nil, byt_append] <;> omega
  · obtain ⟨a, b, rfl⟩ := length2 hn
    have h0 := kidT_byt h 0 a
    have h1 := kidT_byt h 1 b
    simp [nodeT, patL, ho, partT, bytL_cons, bytL_nil, wIf, byt_cons, byt_nil, byt_append] <;> omega
  · obtain ⟨a, b, d, rfl⟩ := length3 hn
    have h0 := kidT_byt h 0 a
    have h1 := kidT_byt h 1 b
    have h2 := kidT_byt h 2 d
    simp [nodeT, patL, ho, partT, bytL_cons, bytL_nil, wIf, wElse, byt_cons, byt_nil, byt_append] <;> omega
  · obtain rfl := List.length_eq_zero_iff.1 hn
    simp [nodeT, patL, ho, partT, wReturn, byt_cons, byt_nil, byt_append, bytL_nil]
  · obtain ⟨a, rfl⟩ := List.length_eq_one_iff.1 hn
    have h0 := kidT_byt h 0 a
    simp [nodeT, patL, ho, partT, bytL_cons, bytL_nil, wReturn, byt_cons, byt_nil, byt_append] <;> omega
  · have h0 := sepT_byt l
    have h1 := flat_byt l
    rcases ho with ho | ho
    · simp [nodeT, patL, ho, partT, byt_cons, byt_nil, byt_append] <;> omega
    · simp [nodeT, patL, ho, partT, byt_cons, byt_nil, byt_append] <;> omega
theorem Fo.byt (x : Fo) : x.ok → bytL x.tk ≤ 48 * x.size := by
  induction x with
  | nil => intro _; simp [bytL, Fo.tk, Fo.size]
  | cons h k r ihk ihr =>
    intro ho
    have h1 := ihk ho.2.1
    have h2 := ihr ho.2.2
    have h3 := nodeT_byt (l := k.tk) (h := h) (by rw [Fo.tk_length]; exact ho.1)
    simp only [Fo.tk, bytL_cons, Fo.size] at *
    omega
section
variable {V : Tok → Prop} (hV : ∀ t, V t → TkV t)
include hV
theorem pmT_byt {l : List Pm} (h : ∀ p ∈ l, (p.ty = 1 ∨ p.ty = 2) ∧ Nm V p.s) : byt (pmT l) ≤ 33 * l.length := by
  have key : ∀ l : List Pm, (∀ p ∈ l, (p.ty = 1 ∨ p.ty = 2) ∧ Nm V p.s) → byt (l.flatMap fun p => [[44], typeW p.ty, p.s]) ≤ 33 * l.length := by
    intro l
    induction l with
    | nil => intro _; exact Nat.le_refl _
    | cons p l ih =>
      intro h
      have h1 := ih fun x hx => h x (by simp [hx])
      have h2 := (Nm.sl hV (h p (by simp)).2).1
      have h3 := typeW_5 p.ty
      simp only [List.flatMap_cons, byt_append, byt_cons, byt_nil, List.length_cons, List.length_nil]
      omega
  cases l with
  | nil => exact Nat.zero_le _
  | cons p l =>
    have h1 := key l fun x hx => h x (by simp [hx])
    have h2 := (Nm.sl hV (h p (by simp)).2).1
    have h3 := typeW_5 p.ty
    simp only [pmT, byt_append, byt_cons, byt_nil, List.length_cons]
    omega
theorem fnLs_byt : ∀ (t : Fo) (fs : List Fn'), Bls V t → (∀ f ∈ fs, FnV V f) → (fnLs fs t).length ≤ 50 * fs.length + 40 * (fs.map fun f => f.ps.length).sum + bytL t.tk := by
  intro t
  induction t with
  | nil => intro fs _ _; cases fs <;> simp [fnLs]
  | cons h k r _ ih =>
    intro fs hb hf
    cases fs with
    | nil => simp [fnLs]
    | cons f fs =>
      have h1 := ih fs hb.2.2.2 fun x hx => hf x (by simp [hx])
      have hv := hf f (by simp)
      have h2 := wl_byt (fnT f (nodeT h k.tk)) false
      have h3 := pmT_byt hV hv.ps
      have h4 := (Nm.sl hV hv.nm).1
      have h5 := typeW_5 f.ty
      simp only [fnT, byt_append, byt_cons, byt_nil, List.length_cons, List.length_nil] at h2
      simp only [fnLs, fnT, List.length_append, List.length_cons, List.length_nil, Fo.tk, bytL_cons, List.map_cons, List.sum_cons] at *
      omega
theorem glL_byt {gs : List Gl} (h : ∀ g ∈ gs, GlV V g) : (glL gs).length ≤ 80 * gs.length := by
  induction gs with
  | nil => simp [glL]
  | cons g gs ih =>
    have h1 := ih fun x hx => h x (by simp [hx])
    have hg := h g (by simp)
    have hs := (Nm.sl hV hg.nm).1
    have h5 := typeW_5 g.ty
    have h6 := Lib.itoa_length_le g.n (by have := hg.n; omega) (by have := hg.n; omega)
    have h2 := wl_byt (glT g) false
    have h3 : byt (glT g) ≤ 79 := by
      simp only [glT, byt_append, byt_cons, byt_nil, List.length_cons, List.length_nil]
      split <;> simp only [byt_append, byt_cons, byt_nil, List.length_cons, List.length_nil] <;> omega
    simp only [glL, List.flatMap_cons, List.length_append, List.length_cons, List.length_nil] at *
    omega
theorem progT_byt {K : Nat} {pg : Pg} {s : St} (h : PgOk V K pg s) : (progT pg).length ≤ 80 * K + 192000 := by
  have hln := h.ln
  unfold cnt at hln
  have hsz := h.le
  rw [h.c] at hsz
  have h1 := fnLs_byt hV pg.t pg.f h.bl h.fn
  have h2 := glL_byt hV h.gl
  have h3 := Fo.byt pg.t (h.bl.ok hV)
  unfold progT
  rw [List.length_append]
  omega
end

/-! without places -/
def brA (a : Hd × Tx) : Hd × Tx := (a.1.bare, a.2)
theorem kidT_bare (h : Hd) (i : Nat) (o : Option (Hd × Tx)) : kidT h.bare i (o.map brA) = kidT h i o := by
  cases o <;> rfl
theorem flat_bareA (l : List (Hd × Tx)) : (l.map brA).flatMap (·.2) = l.flatMap (·.2) := by
  rw [List.flatMap_map]; rfl
theorem sep_bare (x : List UInt8) (l : List (Hd × Tx)) : sepT x (l.map brA) = sepT x l := by
  cases l with
  | nil => rfl
  | cons a l => simp only [List.map_cons, sepT, List.flatMap_map]; rfl
theorem nodeT_bare (h : Hd) (l : List (Hd × Tx)) : nodeT h.bare (l.map brA) = nodeT h l := by
  unfold nodeT
  rw [List.length_map]
  congr 1
  funext x
  unfold partT
  rw [List.getElem?_map, List.getElem?_map, List.getElem?_map, kidT_bare, kidT_bare, kidT_bare, flat_bareA, sep_bare]
  rfl
theorem Fo.tk_bare (x : Fo) : x.bare.tk = x.tk.map brA := by
  induction x with
  | nil => rfl
  | cons h k r ih1 ih2 => simp only [Fo.bare, Fo.tk, List.map_cons, ih1, ih2, nodeT_bare]; rfl
theorem fnLs_bare : ∀ (t : Fo) (fs : List Fn'), fnLs (fs.map Fn'.bare) t.bare = fnLs fs t := by
  intro t
  induction t with
  | nil => intro fs; cases fs <;> rfl
  | cons h k r _ ih =>
    intro fs
    cases fs with
    | nil => rfl
    | cons f fs => simp only [List.map_cons, Fo.bare, fnLs, ih, Fo.tk_bare, nodeT_bare]; rfl
theorem progT_bare (p : Pg) : progT p.bare = progT p := by
  unfold progT
  show glL (p.g.map Gl.bare) ++ fnLs (p.f.map Fn'.bare) p.t.bare = _
  rw [fnLs_bare]
  congr 1
  unfold glL
  rw [List.flatMap_map]
  rfl

/-! read back -/
theorem relT_tokL (e : Nat) : ∀ (segs : List Seg) (a : Nat), (∀ s ∈ segs, s.2.2.k ≠ 4) → (relT (tokL e a segs)).map (fun t => t.to 0) = segs.map fun s => s.2.2.to 0 := by
  intro segs
  induction segs with
  | nil => intro a _; rfl
  | cons s q ih =>
    intro a h
    have h1 := ih (a + s.1.length + s.2.1.length) fun x hx => h x (by simp [hx])
    have h2 : (s.2.2.to ((a + s.1.length : Nat))).k ≠ 4 := h s (by simp)
    rw [tokL, relT, List.takeWhile_cons, if_pos (by simpa using h2), List.map_cons, List.map_cons]
    exact congrArg _ h1
theorem read_good {l : List UInt8} {pg : Pg} (h : readL l = some pg) : ∃ s, PgOk TkG (l.length + 1) pg s := by
  unfold readL at h
  split at h
  · cases h
  · rename_i h0
    have h0' : (lexL l).2.1 = 0 := by simpa using h0
    obtain ⟨hl, hc, hv⟩ := lex_toks h0'
    have hp := parse_b (V := TkG) (lex_good h0')
    cases hP : parseL (lexL l).1 with
    | out => rw [hP] at h; cases h
    | er n p => rw [hP] at h; cases h
    | ok q s =>
      rw [hP] at h hp
      simp only [Option.some.injEq] at h
      subst h
      have hp2 : PgOk TkG (lexL l).1.length q s := hp
      exact ⟨s, ⟨Nat.le_trans hp2.ln hc, hp2.vs, hp2.c, hp2.le, hp2.rt, hp2.bl, hp2.gl, hp2.fn⟩⟩
theorem read_back {l : List UInt8} {pg : Pg} (hl : l.length ≤ 8192) (h : readL l = some pg) :
    (progT pg).length ≤ 1048576 ∧ ∃ pg', readL (progT pg) = some pg' ∧ pg'.bare = pg.bare ∧ progT pg' = progT pg := by
  obtain ⟨s, hok⟩ := read_good h
  have hlen := progT_byt (fun t h => TkG.v h) hok
  have hlen2 : (progT pg).length ≤ 1048576 := by omega
  refine ⟨hlen2, ?_⟩
  have hsz := hok.le
  rw [hok.c] at hsz
  have hT : Tl (progT pg) (pg.g.flatMap glT ++ fnTs pg.f pg.t) := gl_tl pg.g hok.gl (fn_tl pg.t pg.f hok.bl hok.fn)
  obtain ⟨segs, hS, hm⟩ := hT [] rfl
  rw [List.nil_append] at hS
  have hlex := hS.lex hlen2
  have hx : Lx (relT (tokL (progT pg).length 0 segs)) (pg.g.flatMap glT ++ fnTs pg.f pg.t) := by
    have h1 := relT_tokL (progT pg).length segs 0 fun s hs => (hS.tok s hs).2.2.2
    unfold Lx
    rw [h1]
    have h2 := congrArg (List.map fun u : List UInt8 × Tok => u.2.to 0) hm
    rw [List.map_map, List.map_map] at h2
    exact h2
  have hrl : (relT (tokL (progT pg).length 0 segs)).length ≤ (tokL (progT pg).length 0 segs).length := (List.takeWhile_sublist _).length_le
  obtain ⟨pg', g1, g2, g3, g4⟩ := prog_gc (endT (tokL (progT pg).length 0 segs)) (endT_k _) (hok.bl.rdF _) (fun f hf => (hok.fn f hf).good) pg.g (fun g hg => (hok.gl g hg).good) ⟨[], [], .nil⟩ (relT (tokL (progT pg).length 0 segs)) (fuelT (tokL (progT pg).length 0 segs)) hx hok.rt hsz (by unfold fuelT; omega)
  have hb : pg'.bare = pg.bare := by
    unfold Pg.bare
    rw [g2, g3, g4]
    rfl
  refine ⟨pg', ?_, hb, by rw [← progT_bare, hb, progT_bare]⟩
  unfold readL
  rw [hlex]
  have g1' : parseL (tokL (progT pg).length 0 segs) = .ok pg' ⟨[], 0 + pg.t.size⟩ := g1
  simp only [g1']
  rfl
end Go.Proofs.YtlbjjpfhkgagiaaGreatDoor
/-! Puh0 -/
namespace Go.Proofs.YtlbjjpfhkgagiaaGreatDoor
open Go.RowKit
set_option linter.unusedVariables false
set_option linter.unusedSimpArgs false

theorem Fo.flat_kin (x : Fo) : ∀ c (i : Nat) (n : Nd), (x.flat c)[i]? = some n → n.kids.length ≤ i := by
  induction x with
  | nil => intro c i n h; simp [Fo.flat] at h
  | cons h y r ih1 ih2 =>
    intro c i n hi
    simp only [Fo.flat] at hi
    have hl := Fo.flat_length y c
    by_cases h1 : i < y.size
    · rw [List.getElem?_append_left (by omega)] at hi
      exact ih1 c i n hi
    · rw [List.getElem?_append_right (by omega), hl] at hi
      by_cases h2 : i = y.size
      · subst h2
        simp at hi
        subst hi
        simp only [Fo.roots_length]
        exact Fo.len_le y
      · obtain ⟨j, hj⟩ : ∃ j, i = y.size + (j + 1) := ⟨i - y.size - 1, by omega⟩
        subst hj
        rw [show y.size + (j + 1) - y.size = j + 1 by omega, List.getElem?_cons_succ] at hi
        have h3 := ih2 _ j n hi
        omega
/-- A program's bounds. -/
structure Bnd (pg : Pg) : Prop where
  g : pg.g.length ≤ 1400000
  f : pg.f.length ≤ 1400000
  p : ∀ f ∈ pg.f, f.ps.length ≤ 1400000
  k : ∀ n ∈ pg.t.flat 0, n.kids.length ≤ 4000
theorem PgOk.bnd {V : Tok → Prop} {K : Nat} {pg : Pg} {s : St} (h : PgOk V K pg s) (hK : K ≤ 1400000) : Bnd pg := by
  have hln := h.ln
  unfold cnt at hln
  have hsz := h.le
  rw [h.c] at hsz
  refine ⟨by omega, by omega, fun f hf => ?_, fun n hn => ?_⟩
  · have : f.ps.length ≤ (pg.f.map fun f => f.ps.length).sum := le_sum (List.mem_map.2 ⟨f, hf, rfl⟩)
    omega
  · obtain ⟨i, hi, rfl⟩ := List.getElem_of_mem hn
    have h1 := Fo.flat_kin pg.t 0 i _ (List.getElem?_eq_getElem hi)
    rw [Fo.flat_length] at hi
    omega
section
variable {pg : Pg} {B : Nat} {w : World} {gv fv nv : Value} {fl : List (Fn' × Value)} {ns : List NV}
theorem PgM.bnds (h : PgM B w pg gv fv nv fl ns) (hb : Bnd pg) : pg.g.length ≤ 1400000 ∧ fl.length ≤ 1400000 ∧ (∀ x ∈ fl, x.1.ps.length ≤ 1400000) ∧ ∀ x ∈ ns, x.kids.length ≤ 4000 := by
  refine ⟨hb.g, ?_, fun x hx => ?_, fun x hx => ?_⟩
  · have := congrArg List.length h.fe
    rw [List.length_map] at this
    rw [this]; exact hb.f
  · exact hb.p _ (by rw [← h.fe]; exact List.mem_map.2 ⟨x, hx, rfl⟩)
  · exact hb.k x.nd (by rw [← h.nl]; exact List.mem_map.2 ⟨x, hx, rfl⟩)
theorem print_m {l : List UInt8} (hr : readL l = some pg) (h : PgM B w pg gv fv nv fl ns) (hE : EnvW w.heap.size w) (W : World) (hW : Below w.heap.size w W) :
    Calls Tryz.prog 11 #[.agg #[gv, fv, nv]] W fun e w' => e = .returned (.string (str (progT pg))) ∧ Below W.heap.size W w' := by
  obtain ⟨hG, hF, hP, hN⟩ := h.views
  exact print_read hr ((hE.below hW).more hW.size) ((hG.below hW).more hW.size) ((hF.below hW).more hW.size) (fun x hx => ((hP x hx).below hW).more hW.size) ((hN.below hW).more hW.size) h.fe h.nl
theorem same_m {B' : Nat} {gv' fv' nv' : Value} {ml : List (Fn' × Value)} {ms : List NV} (h : PgM B w pg gv fv nv fl ns) (h' : PgM B' w pg gv' fv' nv' ml ms) (hb : Bnd pg) :
    Calls Tryz.prog 13 #[.agg #[gv, fv, nv], .agg #[gv', fv', nv']] w fun e w' => e = .returned (.bool true) ∧ Below w.heap.size w w' := by
  obtain ⟨hG, hF, hP, hN⟩ := h.views
  obtain ⟨hG', hF', hP', hN'⟩ := h'.views
  obtain ⟨b1, b2, b3, b4⟩ := h.bnds hb
  exact samePr_any pg fl ml ns ms gv fv nv gv' fv' nv' w hG hF hP hN hG' hF' hP' hN' (h'.fe.trans h.fe.symm) (h'.nl.trans h.nl.symm) b1 b2 b3 b4
theorem PgM.sl (h : PgM B w pg gv fv nv fl ns) : (∃ A n c, gv = .slice A n c) ∧ (∃ A n c, fv = .slice A n c) ∧ ∃ A n c, nv = .slice A n c := by
  obtain ⟨hG, hF, hP, hN⟩ := h.views
  obtain ⟨gA, gc, rfl, -⟩ := id hG
  obtain ⟨fA, fc, rfl, -⟩ := id hF
  obtain ⟨nA, nc, rfl, -⟩ := id hN.sl
  exact ⟨⟨_, _, _, rfl⟩, ⟨_, _, _, rfl⟩, _, _, _, rfl⟩
theorem PgM.on {w' : World} (h : PgM B w pg gv fv nv fl ns) (hb : Below w.heap.size w w') : PgM B w' pg gv fv nv fl ns := h.keep fun i _ hi => hb.block i hi
end

end Go.Proofs.YtlbjjpfhkgagiaaGreatDoor
