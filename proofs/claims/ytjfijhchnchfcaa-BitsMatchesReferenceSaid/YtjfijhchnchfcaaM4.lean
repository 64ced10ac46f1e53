/- The borrow of a difference; the parts of a concatenation. -/
import Derived.KernelRfl
namespace Go.Proofs.Ytjfijhchnchfcaa
namespace Bt
set_option linter.unusedVariables false

theorem borrow {n x y : Nat} (hx : x < 2 ^ n) (hy : y < 2 ^ n) : (x + 2 ^ (n + 1) - y) % 2 ^ (n + 1) / 2 ^ n % 2 ^ 1 = if x < y then 1 else 0 := by
  rw [Nat.pow_succ, Nat.pow_one]
  generalize 2 ^ n = P at *
  by_cases h : x < y
  · rw [if_pos h, Nat.mod_eq_of_lt (by omega : x + P * 2 - y < P * 2), show x + P * 2 - y = P - (y - x) + P * 1 by omega, Nat.add_mul_div_left _ _ (by omega : 0 < P), Nat.div_eq_of_lt (by omega)]
  · rw [if_neg h, Nat.mod_eq_sub_mod (by omega : x + P * 2 - y ≥ P * 2), Nat.mod_eq_of_lt (by omega : x + P * 2 - y - P * 2 < P * 2), Nat.div_eq_of_lt (by omega)]
theorem low_part {n m x y : Nat} (hy : y < 2 ^ m) : (x * 2 ^ m + y) / 2 ^ 0 % 2 ^ m = y := by
  rw [Nat.pow_zero, Nat.div_one, Nat.add_comm, Nat.add_mul_mod_self_right, Nat.mod_eq_of_lt hy]
theorem high_part {n m x y : Nat} (hx : x < 2 ^ n) (hy : y < 2 ^ m) : (x * 2 ^ m + y) / 2 ^ m % 2 ^ n = x := by
  rw [Nat.add_comm, Nat.add_mul_div_right _ _ (Nat.two_pow_pos m), Nat.div_eq_of_lt hy, Nat.zero_add, Nat.mod_eq_of_lt hx]
theorem whole_part {n x : Nat} (hx : x < 2 ^ n) : x / 2 ^ 0 % 2 ^ n = x := by
  rw [Nat.pow_zero, Nat.div_one, Nat.mod_eq_of_lt hx]
theorem above_part {n k x : Nat} (hx : x < 2 ^ n) : x / 2 ^ n % 2 ^ k = 0 := by
  rw [Nat.div_eq_of_lt hx, Nat.zero_mod]
theorem cat_lt {n m x y : Nat} (hx : x < 2 ^ n) (hy : y < 2 ^ m) : x * 2 ^ m + y < 2 ^ (n + m) := by
  rw [Nat.pow_add]
  have : (x + 1) * 2 ^ m ≤ 2 ^ n * 2 ^ m := Nat.mul_le_mul_right _ hx
  rw [Nat.add_mul] at this
  omega

end Bt
end Go.Proofs.Ytjfijhchnchfcaa
