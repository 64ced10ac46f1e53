/- Linear functions over boxes, as rational numbers. -/
import Derived.Test.YtojkaaglmdfcnaaM2
namespace Go.Proofs.Ytojkaaglmdfcnaa
namespace Fr
set_option linter.unusedVariables false

structure LQ where
  k : Rat
  t : Rat
  v : Rat
  a : Rat
structure IQ where
  lo : Rat
  hi : Rat
structure BQ where
  t : IQ
  v : IQ
  a : IQ
structure PQ where
  x : Rat
  y : Rat
  z : Rat

theorem LQ.ext' {l m : LQ} (h1 : l.k = m.k) (h2 : l.t = m.t) (h3 : l.v = m.v) (h4 : l.a = m.a) : l = m := by cases l; cases m; simp at *; exact ⟨h1, h2, h3, h4⟩

/-- The value at a point, or that a number on the way has no fraction. -/
def atO : Rat → List (Rat × Rat) → Option Rat
  | s, [] => some s
  | s, (c, p) :: l => if Fit (c * p) then if Fit (s + c * p) then atO (s + c * p) l else none else none
def LQ.at (l : LQ) (p : PQ) : Option Rat := atO l.k [(l.t, p.x), (l.v, p.y), (l.a, p.z)]
/-- The bound of an interval at which a product with c is greatest, or least. -/
def cq (c : Rat) (i : IQ) (g : Bool) : Rat := if (decide (c < 0) == g) = true then i.lo else i.hi
def LQ.corner (l : LQ) (b : BQ) (g : Bool) : PQ := ⟨cq l.t b.t g, cq l.v b.v g, cq l.a b.a g⟩
def LQ.range (l : LQ) (b : BQ) : Option IQ := (l.at (l.corner b false)).bind fun x => (l.at (l.corner b true)).bind fun y => some ⟨x, y⟩
def fitO (q : Rat) : Option Rat := if Fit q then some q else none
/-- Four numbers that all have fractions. -/
def fit4 (l : LQ) : Option LQ := if Fit l.k ∧ Fit l.t ∧ Fit l.v ∧ Fit l.a then some l else none
def LQ.op (f : Rat → Rat → Rat) (l m : LQ) : LQ := ⟨f l.k m.k, f l.t m.t, f l.v m.v, f l.a m.a⟩
def LQ.add (l m : LQ) : Option LQ := fit4 (l.op (· + ·) m)
def LQ.scale (l : LQ) (f : Rat) : Option LQ := fit4 (l.op (· * ·) ⟨f, f, f, f⟩)
def sumO : LQ → List LQ → Option LQ
  | s, [] => some s
  | s, m :: l => (s.add m).bind fun x => sumO x l
def IQ.plus (i j : IQ) : Option IQ := if Fit (i.lo + j.lo) ∧ Fit (i.hi + j.hi) then some ⟨i.lo + j.lo, i.hi + j.hi⟩ else none
def rmin (q r : Rat) : Rat := if r < q then r else q
def rmax (q r : Rat) : Rat := if q < r then r else q
def IQ.hull (i j : IQ) : IQ := ⟨rmin i.lo j.lo, rmax i.hi j.hi⟩
def IQ.hasB (i : IQ) (q : Rat) : Bool := decide (i.lo ≤ q) && decide (q ≤ i.hi)
def IQ.inB (i j : IQ) : Bool := j.hasB i.lo && j.hasB i.hi
def BQ.inB (b c : BQ) : Bool := b.t.inB c.t && b.v.inB c.v && b.a.inB c.a
def IQ.okB (i : IQ) : Bool := decide (i.lo ≤ i.hi)

/-- The exact value. -/
def LQ.val (l : LQ) (p : PQ) : Rat := l.k + l.t * p.x + l.v * p.y + l.a * p.z

/-- Numbers with a common denominator D and numerators up to M. -/
def Gr (D M : Nat) (q : Rat) : Prop := ∃ z : Int, q * (D : Rat) = (z : Rat) ∧ z.natAbs ≤ M

theorem fit_divInt {n d : Int} (hd : d ≠ 0) (h1 : n.natAbs ≤ 4611686018427387904) (h2 : d.natAbs ≤ 4611686018427387904) : Fit (Rat.divInt n d) := by
  have e : (Rat.divInt n d).num * d = n * (Rat.divInt n d).den := by
    have := (Rat.num_divInt_den (Rat.divInt n d))
    exact (Rat.divInt_eq_divInt_iff (by have := (Rat.divInt n d).den_nz; omega) hd).1 this
  have hden : (Rat.divInt n d).den ≤ d.natAbs := by
    rw [Rat.den_divInt, if_neg hd]
    exact Nat.div_le_self _ _
  have hnum : (Rat.divInt n d).num.natAbs ≤ n.natAbs := by
    have e2 : (Rat.divInt n d).num.natAbs * d.natAbs = n.natAbs * (Rat.divInt n d).den := by
      have := congrArg Int.natAbs e
      rwa [Int.natAbs_mul, Int.natAbs_mul, Int.natAbs_natCast] at this
    have h3 : n.natAbs * (Rat.divInt n d).den ≤ n.natAbs * d.natAbs := Nat.mul_le_mul_left _ hden
    rw [← e2] at h3
    exact Nat.le_of_mul_le_mul_right h3 (by omega)
  unfold Fit
  omega

theorem Gr.fit {D M : Nat} {q : Rat} (h : Gr D M q) (h0 : 0 < D) (h1 : D ≤ 4611686018427387904) (h2 : M ≤ 4611686018427387904) : Fit q := by
  obtain ⟨z, hz, hm⟩ := h
  have hD : (D : Rat) ≠ 0 := by
    intro e
    have : D = 0 := by exact_mod_cast e
    omega
  have hq : q = Rat.divInt z (D : Int) := by
    rw [Rat.divInt_eq_div, ← hz]
    have : ((D : Int) : Rat) = (D : Rat) := rfl
    rw [this, Rat.mul_div_cancel hD]
  rw [hq]
  exact fit_divInt (by omega) (by omega) (by omega)
theorem Gr.add {D M N : Nat} {q r : Rat} (h : Gr D M q) (h' : Gr D N r) : Gr D (M + N) (q + r) := by
  obtain ⟨z, hz, hm⟩ := h
  obtain ⟨y, hy, hn⟩ := h'
  exact ⟨z + y, by rw [Rat.add_mul, hz, hy, Rat.intCast_add], by omega⟩
theorem Gr.neg {D M : Nat} {q : Rat} (h : Gr D M q) : Gr D M (-q) := by
  obtain ⟨z, hz, hm⟩ := h
  exact ⟨-z, by rw [Rat.neg_mul, hz, Rat.intCast_neg], by omega⟩
theorem Gr.mul {D E M N : Nat} {q r : Rat} (h : Gr D M q) (h' : Gr E N r) : Gr (D * E) (M * N) (q * r) := by
  obtain ⟨z, hz, hm⟩ := h
  obtain ⟨y, hy, hn⟩ := h'
  refine ⟨z * y, ?_, by rw [Int.natAbs_mul]; exact Nat.mul_le_mul hm hn⟩
  rw [Rat.intCast_mul, ← hz, ← hy, Rat.natCast_mul]
  grind
theorem Gr.more {D M : Nat} {q : Rat} (h : Gr D M q) (E : Nat) : Gr (D * E) (M * E) q := by
  obtain ⟨z, hz, hm⟩ := h
  refine ⟨z * E, ?_, by rw [Int.natAbs_mul]; exact Nat.mul_le_mul hm (by simp)⟩
  rw [Rat.intCast_mul, ← hz, Rat.natCast_mul]
  have : (((E : Nat) : Int) : Rat) = (E : Rat) := rfl
  rw [this]
  grind
theorem Gr.le {D M N : Nat} {q : Rat} (h : Gr D M q) (hn : M ≤ N) : Gr D N q := by
  obtain ⟨z, hz, hm⟩ := h
  exact ⟨z, hz, by omega⟩
theorem Gr.as {D E M : Nat} {q : Rat} (h : Gr D M q) (e : D = E) : Gr E M q := e ▸ h

/-- The small fractions: with denominators from 1 to 6. -/
theorem gr_frac {n d : Int} {m : Nat} (hn : n.natAbs ≤ m) (hd : 1 ≤ d) (hd' : d ≤ 6) : Gr 60 (m * 60) (Rat.divInt n d) := by
  have key : ∀ e : Int, d * e = 60 → e.natAbs ≤ 60 → Gr 60 (m * 60) (Rat.divInt n d) := fun e he hle => by
    refine ⟨n * e, ?_, by rw [Int.natAbs_mul]; exact Nat.mul_le_mul hn hle⟩
    have hd0 : (d : Rat) ≠ 0 := by
      intro h
      have : d = 0 := by exact_mod_cast h
      omega
    have h60 : ((60 : Nat) : Rat) = (d : Rat) * (e : Rat) := by
      rw [← Rat.intCast_mul, he]
      rfl
    rw [Rat.divInt_eq_div, h60, ← Rat.mul_assoc, Rat.div_mul_cancel hd0, Rat.intCast_mul]
  have : d = 1 ∨ d = 2 ∨ d = 3 ∨ d = 4 ∨ d = 5 ∨ d = 6 := by omega
  rcases this with rfl | rfl | rfl | rfl | rfl | rfl
  · exact key 60 (by decide) (by decide)
  · exact key 30 (by decide) (by decide)
  · exact key 20 (by decide) (by decide)
  · exact key 15 (by decide) (by decide)
  · exact key 12 (by decide) (by decide)
  · exact key 10 (by decide) (by decide)
theorem gr_min {D M : Nat} {q r : Rat} (h : Gr D M q) (h' : Gr D M r) : Gr D M (rmin q r) := by unfold rmin; split <;> assumption
theorem gr_max {D M : Nat} {q r : Rat} (h : Gr D M q) (h' : Gr D M r) : Gr D M (rmax q r) := by unfold rmax; split <;> assumption
theorem rmin_le (q r : Rat) : rmin q r ≤ q ∧ rmin q r ≤ r := by unfold rmin; split <;> grind
theorem le_rmax (q r : Rat) : q ≤ rmax q r ∧ r ≤ rmax q r := by unfold rmax; split <;> grind
theorem rmin_max (q r : Rat) : rmin q r ≤ rmax q r := by have := rmin_le q r; have := le_rmax q r; grind

/-- Lo and k eighths of the length. -/
def betw (i : IQ) (k : Nat) : Rat := i.lo + (i.hi - i.lo) * Rat.divInt ((k % 9 : Nat) : Int) 8
def IQ.Gr (D M : Nat) (i : IQ) : Prop := Fr.Gr D M i.lo ∧ Fr.Gr D M i.hi
theorem eighth (k : Nat) : Rat.divInt ((k % 9 : Nat) : Int) 8 * 8 = ((k % 9 : Nat) : Rat) := by
  rw [Rat.divInt_eq_div]
  have : (((8 : Int)) : Rat) = 8 := by rfl
  rw [this, Rat.div_mul_cancel (by decide)]
  rfl
theorem eighth_in (k : Nat) : 0 ≤ Rat.divInt ((k % 9 : Nat) : Int) 8 ∧ Rat.divInt ((k % 9 : Nat) : Int) 8 ≤ 1 := by
  have h := eighth k
  have h0 : (0 : Rat) ≤ ((k % 9 : Nat) : Rat) := by exact_mod_cast Nat.zero_le _
  have h1 : ((k % 9 : Nat) : Rat) ≤ 8 := by
    have : k % 9 ≤ 8 := by omega
    exact_mod_cast this
  generalize Rat.divInt ((k % 9 : Nat) : Int) 8 = e at *
  grind
theorem betw_in {i : IQ} (h : i.lo ≤ i.hi) (k : Nat) : i.lo ≤ betw i k ∧ betw i k ≤ i.hi := by
  have he := eighth_in k
  unfold betw
  generalize Rat.divInt ((k % 9 : Nat) : Int) 8 = e at *
  have h1 : 0 ≤ (i.hi - i.lo) * e := Rat.mul_nonneg (by grind) he.1
  have h2 : (i.hi - i.lo) * e ≤ (i.hi - i.lo) * 1 := Rat.mul_le_mul_of_nonneg_left he.2 (by grind)
  grind
theorem gr_betw {D M : Nat} {i : IQ} (h : i.Gr D M) (k : Nat) : Gr (D * 8) (M * 8) (betw i k) := by
  obtain ⟨⟨z, hz, hm⟩, ⟨y, hy, hn⟩⟩ := h
  have he := eighth k
  have hk : k % 9 ≤ 8 := by omega
  unfold betw
  generalize Rat.divInt ((k % 9 : Nat) : Int) 8 = e at *
  generalize k % 9 = j at *
  refine ⟨z * (8 - (j : Int)) + y * (j : Int), ?_, ?_⟩
  · rw [Rat.natCast_mul, Rat.intCast_add, Rat.intCast_mul, Rat.intCast_mul, Rat.intCast_sub, ← hz, ← hy]
    have e8 : ((8 : Nat) : Rat) = 8 := rfl
    have e9 : ((8 : Int) : Rat) = 8 := rfl
    have ej : (((j : Nat) : Int) : Rat) = (j : Rat) := rfl
    rw [e8, e9, ej, ← he]
    grind
  · have h1 : (z * (8 - (j : Int))).natAbs ≤ M * (8 - j) := by
      rw [Int.natAbs_mul]
      exact Nat.mul_le_mul hm (by omega)
    have h2 : (y * (j : Int)).natAbs ≤ M * j := by
      rw [Int.natAbs_mul]
      exact Nat.mul_le_mul hn (by omega)
    have h3 : M * (8 - j) + M * j = M * 8 := by rw [← Nat.mul_add]; congr 1; omega
    omega

/-- The product with a coefficient lies between those at its two bounds. -/
theorem cq_in {i : IQ} (h : i.lo ≤ i.hi) (c : Rat) (g : Bool) : i.lo ≤ cq c i g ∧ cq c i g ≤ i.hi := by
  unfold cq
  split <;> grind
theorem cq_le {i : IQ} {p : Rat} (h : i.lo ≤ p) (h' : p ≤ i.hi) (c : Rat) : c * cq c i false ≤ c * p ∧ c * p ≤ c * cq c i true := by
  unfold cq
  by_cases hc : c < 0
  · simp only [hc, decide_true]
    have h1 := Rat.mul_le_mul_of_nonneg_left h (c := -c) (by grind)
    have h2 := Rat.mul_le_mul_of_nonneg_left h' (c := -c) (by grind)
    simp
    grind
  · simp only [hc, decide_false]
    have h1 := Rat.mul_le_mul_of_nonneg_left h (c := c) (by grind)
    have h2 := Rat.mul_le_mul_of_nonneg_left h' (c := c) (by grind)
    simp
    grind
theorem cq_cases (c : Rat) (i : IQ) (g : Bool) : cq c i g = i.lo ∨ cq c i g = i.hi := by unfold cq; split; exact .inl rfl; exact .inr rfl

def BQ.Ok (b : BQ) : Prop := b.t.lo ≤ b.t.hi ∧ b.v.lo ≤ b.v.hi ∧ b.a.lo ≤ b.a.hi
def BQ.Has (b : BQ) (p : PQ) : Prop := (b.t.lo ≤ p.x ∧ p.x ≤ b.t.hi) ∧ (b.v.lo ≤ p.y ∧ p.y ≤ b.v.hi) ∧ (b.a.lo ≤ p.z ∧ p.z ≤ b.a.hi)
theorem corner_has {b : BQ} (h : b.Ok) (l : LQ) (g : Bool) : b.Has (l.corner b g) := ⟨cq_in h.1 _ _, cq_in h.2.1 _ _, cq_in h.2.2 _ _⟩
theorem val_in {b : BQ} {p : PQ} (h : b.Has p) (l : LQ) : l.val (l.corner b false) ≤ l.val p ∧ l.val p ≤ l.val (l.corner b true) := by
  have h1 := cq_le h.1.1 h.1.2 l.t
  have h2 := cq_le h.2.1.1 h.2.1.2 l.v
  have h3 := cq_le h.2.2.1 h.2.2.2 l.a
  unfold LQ.val LQ.corner
  simp only
  grind

/-- Small functions and points: no number on the way is too big. -/
def LQ.Gr (D M : Nat) (l : LQ) : Prop := Fr.Gr D M l.k ∧ Fr.Gr D M l.t ∧ Fr.Gr D M l.v ∧ Fr.Gr D M l.a
def PQ.Gr (D M : Nat) (p : PQ) : Prop := Fr.Gr D M p.x ∧ Fr.Gr D M p.y ∧ Fr.Gr D M p.z
def BQ.Gr (D M : Nat) (b : BQ) : Prop := b.t.Gr D M ∧ b.v.Gr D M ∧ b.a.Gr D M

theorem at_small {D M E N : Nat} {l : LQ} {p : PQ} (hl : l.Gr D M) (hp : p.Gr E N) (h0 : 0 < D) (h1 : 0 < E) (hd : D * E ≤ 4611686018427387904) (hm : M * E + M * N + M * N + M * N ≤ 4611686018427387904) :
    l.at p = some (l.val p) ∧ Fr.Gr (D * E) (M * E + M * N + M * N + M * N) (l.val p) ∧ Fit (l.val p) := by
  have a1 := hl.2.1.mul hp.1
  have a2 := hl.2.2.1.mul hp.2.1
  have a3 := hl.2.2.2.mul hp.2.2
  have b0 := hl.1.more E
  have b1 := b0.add a1
  have b2 := b1.add a2
  have b3 := b2.add a3
  have hDE : 0 < D * E := Nat.mul_pos h0 h1
  have f1 := a1.fit hDE hd (by omega)
  have f2 := a2.fit hDE hd (by omega)
  have f3 := a3.fit hDE hd (by omega)
  have g1 := b1.fit hDE hd (by omega)
  have g2 := b2.fit hDE hd (by omega)
  have g3 := b3.fit hDE hd (by omega)
  refine ⟨?_, b3, g3⟩
  unfold LQ.at atO atO atO atO LQ.val
  rw [if_pos f1, if_pos g1, if_pos f2, if_pos g2, if_pos f3, if_pos g3]

theorem gr_cq {D M : Nat} {i : IQ} (h : i.Gr D M) (c : Rat) (g : Bool) : Gr D M (cq c i g) := by unfold cq; split; exact h.1; exact h.2
theorem gr_corner {D M : Nat} {b : BQ} (h : b.Gr D M) (l : LQ) (g : Bool) : (l.corner b g).Gr D M := ⟨gr_cq h.1 _ _, gr_cq h.2.1 _ _, gr_cq h.2.2 _ _⟩

theorem range_small {D M E N : Nat} {l : LQ} {b : BQ} (hl : l.Gr D M) (hb : b.Gr E N) (h0 : 0 < D) (h1 : 0 < E) (hd : D * E ≤ 4611686018427387904) (hm : M * E + M * N + M * N + M * N ≤ 4611686018427387904) :
    l.range b = some ⟨l.val (l.corner b false), l.val (l.corner b true)⟩ := by
  unfold LQ.range
  rw [(at_small hl (gr_corner hb l false) h0 h1 hd hm).1, (at_small hl (gr_corner hb l true) h0 h1 hd hm).1]
  rfl

end Fr
end Go.Proofs.Ytojkaaglmdfcnaa
