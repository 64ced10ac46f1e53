/- What the operations on fractions return, as rational numbers. -/
import Derived.Test.YtojkaaglmdfcnaaF2
import Derived.Test.YtojkaaglmdfcnaaF3
namespace Go.Proofs.Ytojkaaglmdfcnaa
open Go.RowKit Go.Shelf
namespace Fr
set_option linter.unusedVariables false

/-- A rational number that fits, and its fraction. -/
structure IsF (q : Rat) (n d : Int) : Prop where
  num : q.num = n
  den : (q.den : Int) = d
  fit : Fit q

theorem IsF.n62 {q : Rat} {n d : Int} (h : IsF q n d) : I62 n := by have := h.fit; have := h.num; unfold Fit at *; unfold I62; omega
theorem IsF.pos {q : Rat} {n d : Int} (h : IsF q n d) : 0 < d := by have := q.den_nz; have := h.den; omega
theorem IsF.d62 {q : Rat} {n d : Int} (h : IsF q n d) : I62 d := by have := h.fit; have := h.den; have := h.pos; unfold Fit at *; unfold I62; omega
theorem IsF.cop {q : Rat} {n d : Int} (h : IsF q n d) : Nat.Coprime n.natAbs d.natAbs := by
  have := q.reduced
  rw [← h.num, ← h.den, Int.natAbs_natCast]
  exact this
theorem IsF.eq {q : Rat} {n d : Int} (h : IsF q n d) : Rat.divInt n d = q := by rw [← h.num, ← h.den]; exact Rat.num_divInt_den q
theorem I62.i64 {n : Int} (h : I62 n) : I64 n := by unfold I62 at h; unfold I64; omega
theorem IsF.neg {q : Rat} {n d : Int} (h : IsF q n d) : IsF (-q) (-n) d :=
  ⟨by rw [Rat.neg_num, h.num], by rw [Rat.neg_den]; exact h.den, by have := h.fit; unfold Fit at *; rw [Rat.neg_num, Rat.neg_den]; omega⟩
theorem isF_res {s : Rat} (h : Fit s) : IsF s (rN s) (rD s) := ⟨by unfold rN; rw [if_pos h], by unfold rD; rw [if_pos h], h⟩
theorem rE_fit {s : Rat} (h : Fit s) : rE s = 0 := by unfold rE; rw [if_pos h]
theorem rE_big {s : Rat} (h : ¬ Fit s) : rE s = 2 := by unfold rE; rw [if_neg h]
theorem rN_big {s : Rat} (h : ¬ Fit s) : rN s = 0 := by unfold rN; rw [if_neg h]
theorem rD_big {s : Rat} (h : ¬ Fit s) : rD s = 0 := by unfold rD; rw [if_neg h]
theorem rN_of {q : Rat} {n d : Int} (h : IsF q n d) : rN q = n := by unfold rN; rw [if_pos h.fit]; exact h.num
theorem rD_of {q : Rat} {n d : Int} (h : IsF q n d) : rD q = d := by unfold rD; rw [if_pos h.fit]; exact h.den
theorem isF_unique {q r : Rat} {n d : Int} (h : IsF q n d) (h' : IsF r n d) : q = r := by rw [← h.eq, ← h'.eq]

theorem add_q {q r : Rat} {n d m e : Int} (ha : IsF q n d) (hb : IsF r m e) (w : World) :
    Calls Try.prog 42 #[.agg #[.int .i64 n, .int .i64 d], .agg #[.int .i64 m, .int .i64 e]] w fun o w' => o = .returned (.tuple #[.agg #[.int .i64 (rN (q + r)), .int .i64 (rD (q + r))], .int .i64 (rE (q + r))]) ∧ Below w.heap.size w w' := by
  have := add_any n d m e w ha.n62 ha.d62 hb.n62 hb.d62 ha.pos hb.pos ha.cop hb.cop
  rwa [ha.eq, hb.eq] at this

theorem mul_q {q r : Rat} {n d m e : Int} (ha : IsF q n d) (hb : IsF r m e) (w : World) :
    Calls Try.prog 45 #[.agg #[.int .i64 n, .int .i64 d], .agg #[.int .i64 m, .int .i64 e]] w fun o w' => o = .returned (.tuple #[.agg #[.int .i64 (rN (q * r)), .int .i64 (rD (q * r))], .int .i64 (rE (q * r))]) ∧ Below w.heap.size w w' := by
  have := mul_any n d m e w ha.n62.i64 ha.d62.i64 hb.n62.i64 hb.d62.i64 (by have := ha.pos; omega) (by have := hb.pos; omega) ha.cop hb.cop
  rwa [ha.eq, hb.eq] at this

theorem quo_any {n d m e : Int} (h1 : I64 n) (h2 : I64 d) (h3 : I64 m) (h4 : I64 e) (hd : d ≠ 0) (hm : m ≠ 0) (hc : Nat.Coprime n.natAbs d.natAbs) (hc2 : Nat.Coprime m.natAbs e.natAbs) (w : World) :
    Calls Try.prog 45 #[.agg #[.int .i64 n, .int .i64 d], .agg #[.int .i64 e, .int .i64 m]] w fun o w' => o = .returned (.tuple #[.agg #[.int .i64 (rN (Rat.divInt n d / Rat.divInt m e)), .int .i64 (rD (Rat.divInt n d / Rat.divInt m e))], .int .i64 (rE (Rat.divInt n d / Rat.divInt m e))]) ∧ Below w.heap.size w w' := by
  have := mul_any n d e m w h1 h2 h4 h3 hd hm hc hc2.symm
  rwa [← Rat.inv_divInt m e, ← Rat.div_def] at this

theorem div_any {n d m e : Int} (h1 : I64 n) (h2 : I64 d) (h3 : I64 m) (h4 : I64 e) (hd : d ≠ 0) (hm : m ≠ 0) (hc : Nat.Coprime n.natAbs d.natAbs) (hc2 : Nat.Coprime m.natAbs e.natAbs) (w : World) :
    Calls Try.prog 100 #[.agg #[.int .i64 n, .int .i64 d], .agg #[.int .i64 m, .int .i64 e]] w fun o w' => o = .returned (.tuple #[.agg #[.int .i64 (rN (Rat.divInt n d / Rat.divInt m e)), .int .i64 (rD (Rat.divInt n d / Rat.divInt m e))], .int .i64 (rE (Rat.divInt n d / Rat.divInt m e))]) ∧ Below w.heap.size w w' := by
  have HA := Lib.hid (fun W : World => quo_any h1 h2 h3 h4 hd hm hc hc2 W)
  have hb0 : (m == 0) = false := by simpa using hm
  clear h1 h2 h3 h4 hd hm hc hc2
  go_enter Try.func100, Try.ntmps100
  go_wp2_with fail
  have A0 := Args.start w (.int .i64 n) (.int .i64 d) (.int .i64 m) (.int .i64 e) (.int .i64 0) (.int .i64 0) 23 23 23
  refine (HA.out _).mono ?_
  rintro o w1 ⟨rfl, hb⟩
  have A1 := A0.keep hb
  clear A0 hb
  have r0 := A1.r.c0
  have r1 := A1.r.c1
  have f0 := A1.r.f0
  have f1 := A1.r.f1
  go_wp2_with fail
  have A2 := A1.r.set (.int .i64 (rN (Rat.divInt n d / Rat.divInt m e))) (.int .i64 (rD (Rat.divInt n d / Rat.divInt m e)))
  have s0 := A2.c0
  have s1 := A2.c1
  refine bodyPost_ret (v := .tuple #[.agg #[.int .i64 (rN (Rat.divInt n d / Rat.divInt m e)), .int .i64 (rD (Rat.divInt n d / Rat.divInt m e))], .int .i64 (rE (Rat.divInt n d / Rat.divInt m e))]) (by simp [results, Try.results100, go_sem, s0, s1]) rfl ⟨rfl, below_set2 A1.below (by omega) _ _⟩

theorem div_zero (n d e : Int) (w : World) :
    Calls Try.prog 100 #[.agg #[.int .i64 n, .int .i64 d], .agg #[.int .i64 0, .int .i64 e]] w fun o w' => o = .returned (.tuple #[.agg #[.int .i64 (0), .int .i64 (0)], .int .i64 (3)]) ∧ Below w.heap.size w w' := by
  go_enter Try.func100, Try.ntmps100
  go_wp2_with fail
  refine bodyPost_ret (v := .tuple #[.agg #[.int .i64 (0), .int .i64 (0)], .int .i64 (3)]) (by simp [results, Try.results100, go_sem]) rfl ⟨rfl, ?_⟩
  exact (((Below.refl _ w).alloc (Nat.le_refl _) _).alloc (by simp) _).alloc (by simp; omega) _

theorem div_q {q r : Rat} {n d m e : Int} (ha : IsF q n d) (hb : IsF r m e) (h0 : m ≠ 0) (w : World) :
    Calls Try.prog 100 #[.agg #[.int .i64 n, .int .i64 d], .agg #[.int .i64 m, .int .i64 e]] w fun o w' => o = .returned (.tuple #[.agg #[.int .i64 (rN (q / r)), .int .i64 (rD (q / r))], .int .i64 (rE (q / r))]) ∧ Below w.heap.size w w' := by
  have := div_any ha.n62.i64 ha.d62.i64 hb.n62.i64 hb.d62.i64 (by have := ha.pos; omega) h0 ha.cop hb.cop w
  rwa [ha.eq, hb.eq] at this

/-- The fraction of two integers and its error. -/
def mN (n d : Int) : Int := if d = 0 then 0 else rN (Rat.divInt n d)
def mD (n d : Int) : Int := if d = 0 then 0 else rD (Rat.divInt n d)
def mE (n d : Int) : Int := if d = 0 then 3 else rE (Rat.divInt n d)

theorem divInt_one (n : Int) : Rat.divInt n 1 = (n : Rat) := by
  refine Rat.ext ?_ ?_
  · rw [divInt_num (by decide) (by simp)]; simp
  · have := divInt_den (n := n) (d := 1) (by decide) (by simp)
    simp at this ⊢
    omega

theorem divInt_div_one {n d : Int} (hd : d ≠ 0) : Rat.divInt n 1 / Rat.divInt d 1 = Rat.divInt n d := by
  rw [Rat.div_def, Rat.inv_divInt, Rat.divInt_mul_divInt]
  simp

theorem quotient_any (n d : Int) (h1 : I64 n) (h2 : I64 d) (w : World) :
    Calls Try.prog 100 #[.agg #[.int .i64 n, .int .i64 1], .agg #[.int .i64 d, .int .i64 1]] w fun o w' => o = .returned (.tuple #[.agg #[.int .i64 (mN n d), .int .i64 (mD n d)], .int .i64 (mE n d)]) ∧ Below w.heap.size w w' := by
  by_cases h0 : d = 0
  · subst h0
    exact div_zero n 1 1 w
  · have := div_any (n := n) (d := 1) (m := d) (e := 1) h1 (by unfold I64; omega) h2 (by unfold I64; omega) (by decide) h0 (by simp) (by simp) w
    rw [divInt_div_one h0] at this
    unfold mN mD mE
    rw [if_neg h0, if_neg h0, if_neg h0]
    exact this

theorem make_any (n d : Int) (h1 : I64 n) (h2 : I64 d) (w : World) :
    Calls Try.prog 81 #[.int .i64 n, .int .i64 d] w fun o w' => o = .returned (.tuple #[.agg #[.int .i64 (mN n d), .int .i64 (mD n d)], .int .i64 (mE n d)]) ∧ Below w.heap.size w w' := by
  go_enter Try.func81, Try.ntmps81
  go_wp2_with fail
  have A0 := Box2.new w (.int .i64 0) (.int .i64 0) 23
  refine (quotient_any n d h1 h2 _).mono ?_
  rintro o w1 ⟨rfl, hb⟩
  have A1 := A0.keep hb
  have B1 := ((Below.refl _ w).alloc (Nat.le_refl _) (.cells #[.int .i64 0, .int .i64 0] 23)).trans (hb.mono (by simp))
  clear A0 hb
  have r0 := A1.c0
  have r1 := A1.c1
  have f0 := A1.f0
  have f1 := A1.f1
  go_wp2_with fail
  have A2 := A1.set (.int .i64 (mN n d)) (.int .i64 (mD n d))
  have s0 := A2.c0
  have s1 := A2.c1
  refine bodyPost_ret (v := .tuple #[.agg #[.int .i64 (mN n d), .int .i64 (mD n d)], .int .i64 (mE n d)]) (by simp [results, Try.results81, go_sem, s0, s1]) rfl ⟨rfl, below_set2 B1 (Nat.le_refl _) _ _⟩


end Fr
end Go.Proofs.Ytojkaaglmdfcnaa
