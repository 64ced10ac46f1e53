/- Linear functions, intervals and boxes as the program has them. -/
import Derived.Test.YtojkaaglmdfcnaaN1
import Derived.Test.YtojkaaglmdfcnaaF12
import Derived.Test.YtojkaaglmdfcnaaB13
import Derived.Test.YtojkaaglmdfcnaaL5
namespace Go.Proofs.Ytojkaaglmdfcnaa
open Go.RowKit
namespace Fr
set_option linter.unusedVariables false

structure IsI (q : IQ) (a b c d : Int) : Prop where
  lo : IsF q.lo a b
  hi : IsF q.hi c d
structure IsL (q : LQ) (a0 a1 a2 a3 a4 a5 a6 a7 : Int) : Prop where
  k : IsF q.k a0 a1
  t : IsF q.t a2 a3
  v : IsF q.v a4 a5
  a : IsF q.a a6 a7
structure IsBx (q : BQ) (a0 a1 a2 a3 a4 a5 a6 a7 a8 a9 a10 a11 : Int) : Prop where
  t : IsI q.t a0 a1 a2 a3
  v : IsI q.v a4 a5 a6 a7
  a : IsI q.a a8 a9 a10 a11
structure IsP (q : PQ) (a0 a1 a2 a3 a4 a5 : Int) : Prop where
  x : IsF q.x a0 a1
  y : IsF q.y a2 a3
  z : IsF q.z a4 a5
/-- A fraction, or the error. -/
def ResF (o : Option Rat) (n d e : Int) : Prop := (∃ q, o = some q ∧ IsF q n d ∧ e = 0) ∨ (o = none ∧ n = 0 ∧ d = 0 ∧ e = 2)
def ResI (o : Option IQ) (a b c d e : Int) : Prop := (∃ q, o = some q ∧ IsI q a b c d ∧ e = 0) ∨ (o = none ∧ a = 0 ∧ b = 0 ∧ c = 0 ∧ d = 0 ∧ e = 2)
def ResL (o : Option LQ) (a0 a1 a2 a3 a4 a5 a6 a7 e : Int) : Prop := (∃ q, o = some q ∧ IsL q a0 a1 a2 a3 a4 a5 a6 a7 ∧ e = 0) ∨ (o = none ∧ a0 = 0 ∧ a1 = 0 ∧ a2 = 0 ∧ a3 = 0 ∧ a4 = 0 ∧ a5 = 0 ∧ a6 = 0 ∧ a7 = 0 ∧ e = 2)

theorem isF_same {q : Rat} {n d m k : Int} (h : IsF q n d) (h' : IsF q m k) : n = m ∧ d = k := eq_of h h' rfl
theorem isF_of (q : Rat) (h : Fit q) : ∃ n d, IsF q n d := ⟨_, _, isF_res h⟩

section
variable {q r : Rat} {n d m k x y e : Int}
theorem fadd (ha : IsF q n d) (hb : IsF r m k) (h : ResF (fitO (q + r)) x y e) : Does 42 #[.agg #[.int .i64 n, .int .i64 d], .agg #[.int .i64 m, .int .i64 k]] (.tuple #[.agg #[.int .i64 x, .int .i64 y], .int .i64 e]) := by
  refine Does.eq (add_q ha hb) ?_
  unfold fitO at h
  by_cases hf : Fit (q + r)
  · rw [if_pos hf] at h
    rcases h with ⟨s, h1, h2, rfl⟩ | ⟨h1, _⟩
    · cases h1

      rw [rN_of h2, rD_of h2, rE_fit hf]
    · cases h1
  · rw [if_neg hf] at h
    rcases h with ⟨s, h1, _⟩ | ⟨_, rfl, rfl, rfl⟩
    · cases h1
    · rw [rN_big hf, rD_big hf, rE_big hf]
theorem fmul (ha : IsF q n d) (hb : IsF r m k) (h : ResF (fitO (q * r)) x y e) : Does 45 #[.agg #[.int .i64 n, .int .i64 d], .agg #[.int .i64 m, .int .i64 k]] (.tuple #[.agg #[.int .i64 x, .int .i64 y], .int .i64 e]) := by
  refine Does.eq (mul_q ha hb) ?_
  unfold fitO at h
  by_cases hf : Fit (q * r)
  · rw [if_pos hf] at h
    rcases h with ⟨s, h1, h2, rfl⟩ | ⟨h1, _⟩
    · cases h1

      rw [rN_of h2, rD_of h2, rE_fit hf]
    · cases h1
  · rw [if_neg hf] at h
    rcases h with ⟨s, h1, _⟩ | ⟨_, rfl, rfl, rfl⟩
    · cases h1
    · rw [rN_big hf, rD_big hf, rE_big hf]
theorem fcmp (ha : IsF q n d) (hb : IsF r m k) : Does 50 #[.agg #[.int .i64 n, .int .i64 d], .agg #[.int .i64 m, .int .i64 k]] (.int .i64 (cmpI q r)) := cmp_q ha hb
theorem fmin (ha : IsF q n d) (hb : IsF r m k) (h : IsF (rmin q r) x y) : Does 67 #[.agg #[.int .i64 n, .int .i64 d], .agg #[.int .i64 m, .int .i64 k]] (.agg #[.int .i64 x, .int .i64 y]) := by
  unfold rmin at h
  by_cases hl : r < q
  · rw [if_pos hl] at h
    obtain ⟨rfl, rfl⟩ := isF_same h hb
    exact min_second ha hb hl
  · rw [if_neg hl] at h
    obtain ⟨rfl, rfl⟩ := isF_same h ha
    exact min_first ha hb hl
theorem fmax (ha : IsF q n d) (hb : IsF r m k) (h : IsF (rmax q r) x y) : Does 68 #[.agg #[.int .i64 n, .int .i64 d], .agg #[.int .i64 m, .int .i64 k]] (.agg #[.int .i64 x, .int .i64 y]) := by
  unfold rmax at h
  by_cases hl : q < r
  · rw [if_pos hl] at h
    obtain ⟨rfl, rfl⟩ := isF_same h hb
    exact max_second ha hb hl
  · rw [if_neg hl] at h
    obtain ⟨rfl, rfl⟩ := isF_same h ha
    exact max_first ha hb hl
theorem frmin (ha : IsF q n d) (hb : IsF r m k) (h : IsF (rmin q r) x y) : Does 54 #[.agg #[.int .i64 n, .int .i64 d], .agg #[.int .i64 m, .int .i64 k]] (.agg #[.int .i64 x, .int .i64 y]) := by
  unfold rmin at h
  by_cases hl : r < q
  · rw [if_pos hl] at h
    obtain ⟨rfl, rfl⟩ := isF_same h hb
    exact rmin_second ha hb hl
  · rw [if_neg hl] at h
    obtain ⟨rfl, rfl⟩ := isF_same h ha
    exact rmin_first ha hb hl
theorem frmax (ha : IsF q n d) (hb : IsF r m k) (h : IsF (rmax q r) x y) : Does 55 #[.agg #[.int .i64 n, .int .i64 d], .agg #[.int .i64 m, .int .i64 k]] (.agg #[.int .i64 x, .int .i64 y]) := by
  unfold rmax at h
  by_cases hl : q < r
  · rw [if_pos hl] at h
    obtain ⟨rfl, rfl⟩ := isF_same h hb
    exact rmax_second ha hb hl
  · rw [if_neg hl] at h
    obtain ⟨rfl, rfl⟩ := isF_same h ha
    exact rmax_first ha hb hl
theorem frcmp (ha : IsF q n d) (hb : IsF r m k) : Does 51 #[.agg #[.int .i64 n, .int .i64 d], .agg #[.int .i64 m, .int .i64 k]] (.int .i64 (cmpI q r)) := rcmp_q ha hb
theorem fradd (ha : IsF q n d) (hb : IsF r m k) (h : ResF (fitO (q + r)) x y e) : Does 61 #[.agg #[.int .i64 n, .int .i64 d], .agg #[.int .i64 m, .int .i64 k]] (.agg #[.int .i64 x, .int .i64 y, .int .i64 e]) := by
  refine Does.eq (radd_q ha hb) ?_
  unfold fitO at h
  by_cases hf : Fit (q + r)
  · rw [if_pos hf] at h
    rcases h with ⟨s, h1, h2, rfl⟩ | ⟨h1, _⟩
    · cases h1
      rw [rN_of h2, rD_of h2, rE_fit hf]
    · cases h1
  · rw [if_neg hf] at h
    rcases h with ⟨s, h1, _⟩ | ⟨_, rfl, rfl, rfl⟩
    · cases h1
    · rw [rN_big hf, rD_big hf, rE_big hf]
theorem frsub (ha : IsF q n d) (hb : IsF r m k) (h : ResF (fitO (q - r)) x y e) : Does 92 #[.agg #[.int .i64 n, .int .i64 d], .agg #[.int .i64 m, .int .i64 k]] (.agg #[.int .i64 x, .int .i64 y, .int .i64 e]) := by
  refine Does.eq (rsub_q ha hb) ?_
  unfold fitO at h
  by_cases hf : Fit (q - r)
  · rw [if_pos hf] at h
    rcases h with ⟨s, h1, h2, rfl⟩ | ⟨h1, _⟩
    · cases h1
      rw [rN_of h2, rD_of h2, rE_fit hf]
    · cases h1
  · rw [if_neg hf] at h
    rcases h with ⟨s, h1, _⟩ | ⟨_, rfl, rfl, rfl⟩
    · cases h1
    · rw [rN_big hf, rD_big hf, rE_big hf]
theorem frmul (ha : IsF q n d) (hb : IsF r m k) (h : ResF (fitO (q * r)) x y e) : Does 60 #[.agg #[.int .i64 n, .int .i64 d], .agg #[.int .i64 m, .int .i64 k]] (.agg #[.int .i64 x, .int .i64 y, .int .i64 e]) := by
  refine Does.eq (rmul_q ha hb) ?_
  unfold fitO at h
  by_cases hf : Fit (q * r)
  · rw [if_pos hf] at h
    rcases h with ⟨s, h1, h2, rfl⟩ | ⟨h1, _⟩
    · cases h1
      rw [rN_of h2, rD_of h2, rE_fit hf]
    · cases h1
  · rw [if_neg hf] at h
    rcases h with ⟨s, h1, _⟩ | ⟨_, rfl, rfl, rfl⟩
    · cases h1
    · rw [rN_big hf, rD_big hf, rE_big hf]
theorem fvalid (h1 : I64 n) (h2 : I64 d) : Does 49 #[.agg #[.int .i64 n, .int .i64 d]] (.bool (validB n d)) := fun W => valid_any n d W h1 h2
theorem frvalid (h1 : I64 n) (h2 : I64 d) : Does 41 #[.agg #[.int .i64 n, .int .i64 d]] (.bool (validB n d)) := fun W => rvalid_all n d W h1 h2
theorem validB_of (h : IsF q n d) : validB n d = true := (validB_iff n d).2 ⟨q, h⟩
end

theorem resF_some {q : Rat} {n d : Int} (h : IsF q n d) : ResF (some q) n d 0 := .inl ⟨q, rfl, h, rfl⟩
theorem resF_fit {q : Rat} {n d : Int} (h : IsF q n d) : ResF (fitO q) n d 0 := by unfold fitO; rw [if_pos h.fit]; exact resF_some h
theorem resF_big {q : Rat} (h : ¬ Fit q) : ResF (fitO q) 0 0 2 := by unfold fitO; rw [if_neg h]; exact .inr ⟨rfl, rfl, rfl, rfl⟩

end Fr
end Go.Proofs.Ytojkaaglmdfcnaa
