/- Fractions and integers: floors, ceilings, sums with integers, products with a denominator. -/
import Derived.Test.YtcecdmooojkmoaaDoorF7
namespace Go.Proofs.YtcecdmooojkmoaaDoor
namespace Fr
set_option linter.unusedVariables false

theorem isF_int {k : Int} (h : I62 k) : IsF (Rat.divInt k 1) k 1 := by
  have e1 := divInt_num (n := k) (d := 1) (by decide) (by simp)
  have e2 := divInt_den (n := k) (d := 1) (by decide) (by simp)
  exact ⟨e1, e2, by unfold Fit; rw [e1, e2]; unfold I62 at h; omega⟩

theorem div_bounds {n d : Int} (hn : I62 n) (hd : 0 < d) : I62 (n / d) := by
  unfold I62 at *
  by_cases h0 : 0 ≤ n
  · exact ⟨by have := Int.ediv_nonneg h0 (by omega : 0 ≤ d); omega, by have := Int.ediv_le_self d h0; omega⟩
  · have h1 : n / d < 0 := Int.ediv_neg_of_neg_of_pos (by omega) hd
    have h2 : n ≤ n / d := by
      refine Int.le_ediv_of_mul_le hd ?_
      have : n * d ≤ n * 1 := Int.mul_le_mul_of_nonpos_left (by omega) (by omega)
      omega
    omega

theorem I62.neg {n : Int} (h : I62 n) : I62 (-n) := by unfold I62 at *; omega
theorem ceil_bounds {n d : Int} (hn : I62 n) (hd : 0 < d) : I62 (-((-n) / d)) := (div_bounds hn.neg hd).neg

theorem floor_le {q : Rat} {n d : Int} (h : IsF q n d) : cmpI (Rat.divInt (n / d) 1) q ≤ 0 := by
  have hd := h.pos
  have hf := isF_int (div_bounds h.n62 hd)
  have hx := lt_cross h hf
  have e := Int.mul_ediv_add_emod n d
  have hm := Int.emod_nonneg n (b := d) (by omega)
  have hc : d * (n / d) = n / d * d := Int.mul_comm _ _
  rcases cmpI_three (Rat.divInt (n / d) 1) q with h1 | h1 | h1
  · rw [h1.2]; decide
  · rw [h1.2]; decide
  · have := hx.1 h1.1
    omega

theorem le_ceil {q : Rat} {n d : Int} (h : IsF q n d) : cmpI q (Rat.divInt (-((-n) / d)) 1) ≤ 0 := by
  have hd := h.pos
  have hf := isF_int (ceil_bounds h.n62 hd)
  have hx := lt_cross hf h
  have e := Int.mul_ediv_add_emod (-n) d
  have hm := Int.emod_nonneg (-n) (b := d) (by omega)
  have hc : d * ((-n) / d) = (-n) / d * d := Int.mul_comm _ _
  have hc2 : -((-n) / d) * d = -((-n) / d * d) := Int.neg_mul _ _
  rcases cmpI_three q (Rat.divInt (-((-n) / d)) 1) with h1 | h1 | h1
  · rw [h1.2]; decide
  · rw [h1.2]; decide
  · have := hx.1 h1.1
    omega

theorem ceil_one (n : Int) : -((-n) / 1) = n / 1 := by omega
theorem ceil_more {n d : Int} (hd : 1 < d) (hc : Nat.Coprime n.natAbs d.natAbs) : -((-n) / d) = n / d + 1 := by
  have e := Int.mul_ediv_add_emod n d
  have hm := Int.emod_nonneg n (b := d) (by omega)
  have hl := Int.emod_lt_of_pos n (b := d) (by omega)
  have hne : n % d ≠ 0 := by
    intro h
    have h1 : d ∣ n := Int.dvd_of_emod_eq_zero h
    have h2 : d.natAbs ∣ n.natAbs := Int.natAbs_dvd_natAbs.2 h1
    have h3 := Nat.Coprime.eq_one_of_dvd hc.symm h2
    omega
  have h4 : (-n) / d = -(n / d) - 1 := by
    have e2 : -n = d * (-(n / d) - 1) + (d - n % d) := by rw [Int.mul_sub, Int.mul_neg, Int.mul_one]; omega
    have h5 : (-n) / d = (d * (-(n / d) - 1) + (d - n % d)) / d := congrArg (· / d) e2
    have h6 : (d - n % d) / d = 0 := Int.ediv_eq_zero_of_lt (by omega) (by omega)
    rw [h5, Int.mul_add_ediv_left _ _ (by omega), h6]
    omega
  omega

theorem gcd_shift {n d k : Int} (hc : Nat.Coprime n.natAbs d.natAbs) : Nat.Coprime (n + k * d).natAbs d.natAbs := by
  show Int.gcd (n + k * d) d = 1
  rw [Int.mul_comm, Int.gcd_add_mul_left_left]
  exact hc

theorem sum_int {q : Rat} {n d : Int} (h : IsF q n d) (k : Int) : q + Rat.divInt k 1 = Rat.divInt (n + k * d) d := by
  have hd := h.pos
  rw [← h.eq, Rat.divInt_add_divInt _ _ (by omega) (by decide), Int.mul_one, Int.mul_one]
theorem isF_sum {q : Rat} {n d : Int} (h : IsF q n d) (k : Int) (hf : Fit (q + Rat.divInt k 1)) : IsF (q + Rat.divInt k 1) (n + k * d) d := by
  have e := sum_int h k
  have hc := gcd_shift (k := k) h.cop
  exact ⟨by rw [e]; exact divInt_num h.pos hc, by rw [e]; exact divInt_den h.pos hc, hf⟩

theorem floor_sum {n d k : Int} (hd : 0 < d) : (n + k * d) / d = n / d + k := Int.add_mul_ediv_right _ _ (by omega)
theorem ceil_sum {n d k : Int} (hd : 0 < d) : -((-(n + k * d)) / d) = -((-n) / d) + k := by
  have : -(n + k * d) = -n + (-k) * d := by rw [Int.neg_mul]; omega
  rw [this, floor_sum hd]
  omega

theorem mul_den {q : Rat} {n d : Int} (h : IsF q n d) : q * Rat.divInt d 1 = Rat.divInt n 1 := by
  have hd := h.pos
  rw [← h.eq, Rat.divInt_mul_divInt, Int.mul_one]
  have := Rat.divInt_mul_left (n := n) (d := 1) (a := d) (by omega)
  rw [Int.mul_one] at this
  rw [← this, Int.mul_comm]

end Fr
end Go.Proofs.YtcecdmooojkmoaaDoor
