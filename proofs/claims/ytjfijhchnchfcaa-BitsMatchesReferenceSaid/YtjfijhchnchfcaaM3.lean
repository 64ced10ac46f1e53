/- Identities of arithmetic modulo a power of 2 and of bits. -/
import Derived.KernelRfl
namespace Go.Proofs.Ytjfijhchnchfcaa
namespace Bt
set_option linter.unusedVariables false
set_option linter.unusedSectionVars false

theorem half_ind {p : Nat → Nat → Prop} (h0 : p 0 0) (h : ∀ x y, p (x / 2) (y / 2) → p x y) : ∀ (n x y : Nat), x + y ≤ n → p x y
  | 0, x, y, hn => by
    obtain rfl : x = 0 := by omega
    obtain rfl : y = 0 := by omega
    exact h0
  | n + 1, x, y, hn => by
    by_cases h1 : x + y = 0
    · obtain rfl : x = 0 := by omega
      obtain rfl : y = 0 := by omega
      exact h0
    · exact h x y (half_ind h0 h n _ _ (by omega))
theorem and_mod2 (x y : Nat) : (x &&& y) % 2 = (x % 2) * (y % 2) := by
  have h := Nat.and_mod_two_pow (a := x) (b := y) (n := 1)
  rw [Nat.pow_one] at h
  rw [h]
  rcases Nat.mod_two_eq_zero_or_one x with e | e <;> rcases Nat.mod_two_eq_zero_or_one y with f | f <;> rw [e, f] <;> rfl
theorem xor_mod2 (x y : Nat) : (x ^^^ y) % 2 = (x + y) % 2 := by
  have h := Nat.xor_mod_two_pow (a := x) (b := y) (n := 1)
  rw [Nat.pow_one] at h
  rw [h]
  rcases Nat.mod_two_eq_zero_or_one x with e | e <;> rcases Nat.mod_two_eq_zero_or_one y with f | f <;> rw [e, f, Nat.add_mod, e, f] <;> rfl
theorem or_mod2 (x y : Nat) : (x ||| y) % 2 = (x % 2) + (y % 2) - (x % 2) * (y % 2) := by
  have h := Nat.or_mod_two_pow (a := x) (b := y) (n := 1)
  rw [Nat.pow_one] at h
  rw [h]
  rcases Nat.mod_two_eq_zero_or_one x with e | e <;> rcases Nat.mod_two_eq_zero_or_one y with f | f <;> rw [e, f] <;> rfl
theorem xor_and (x y : Nat) : (x ^^^ y) + 2 * (x &&& y) = x + y := by
  refine half_ind (p := fun x y => (x ^^^ y) + 2 * (x &&& y) = x + y) (by decide) (fun x y ih => ?_) (x + y) x y (Nat.le_refl _)
  have h1 : (x ^^^ y) / 2 = x / 2 ^^^ y / 2 := Nat.xor_div_two
  have h2 : (x &&& y) / 2 = x / 2 &&& y / 2 := Nat.and_div_two
  have h3 := xor_mod2 x y
  have h4 := and_mod2 x y
  rw [← h1, ← h2] at ih
  rcases Nat.mod_two_eq_zero_or_one x with e | e <;> rcases Nat.mod_two_eq_zero_or_one y with f | f <;> rw [e, f] at h4 <;> omega
theorem xor_or (x y : Nat) : (x ^^^ y) + (x &&& y) = x ||| y := by
  refine half_ind (p := fun x y => (x ^^^ y) + (x &&& y) = x ||| y) (by decide) (fun x y ih => ?_) (x + y) x y (Nat.le_refl _)
  have h1 : (x ^^^ y) / 2 = x / 2 ^^^ y / 2 := Nat.xor_div_two
  have h2 : (x &&& y) / 2 = x / 2 &&& y / 2 := Nat.and_div_two
  have h5 : (x ||| y) / 2 = x / 2 ||| y / 2 := Nat.or_div_two
  have h3 := xor_mod2 x y
  have h4 := and_mod2 x y
  have h6 := or_mod2 x y
  rw [← h1, ← h2, ← h5] at ih
  rcases Nat.mod_two_eq_zero_or_one x with e | e <;> rcases Nat.mod_two_eq_zero_or_one y with f | f <;> rw [e, f] at h4 h6 <;> omega

section
variable {n x y : Nat} (hx : x < 2 ^ n) (hy : y < 2 ^ n)
theorem not_lt : 2 ^ n - 1 - x < 2 ^ n := by have := Nat.two_pow_pos n; omega
include hx hy
theorem sum_lt : (x + y) % 2 ^ n < 2 ^ n := Nat.mod_lt _ (Nat.two_pow_pos n)
theorem diff_lt : (x + 2 ^ n - y) % 2 ^ n < 2 ^ n := Nat.mod_lt _ (Nat.two_pow_pos n)
theorem sum_sub : ((x + y) % 2 ^ n + 2 ^ n - y) % 2 ^ n = x := by
  generalize 2 ^ n = P at *
  rcases Nat.lt_or_ge (x + y) P with h | h
  · rw [Nat.mod_eq_of_lt h, show x + y + P - y = x + P by omega, Nat.add_mod_right, Nat.mod_eq_of_lt hx]
  · rw [Nat.mod_eq_sub_mod h, Nat.mod_eq_of_lt (by omega : x + y - P < P), show x + y - P + P - y = x by omega, Nat.mod_eq_of_lt hx]
theorem sub_sum : ((x + 2 ^ n - y) % 2 ^ n + y) % 2 ^ n = x := by
  generalize 2 ^ n = P at *
  rw [Nat.mod_add_mod, show x + P - y + y = x + P by omega, Nat.add_mod_right, Nat.mod_eq_of_lt hx]
theorem diff_not : ((x + (2 ^ n - 1 - y)) % 2 ^ n + 1) % 2 ^ n = (x + 2 ^ n - y) % 2 ^ n := by
  generalize 2 ^ n = P at *
  rw [Nat.mod_add_mod, show x + (P - 1 - y) + 1 = x + P - y by omega]
theorem not_and : 2 ^ n - 1 - (x &&& y) = (2 ^ n - 1 - x) ||| (2 ^ n - 1 - y) := by
  have hxy : x &&& y < 2 ^ n := Nat.lt_of_le_of_lt Nat.and_le_left hx
  refine Nat.eq_of_testBit_eq fun i => ?_
  rw [show 2 ^ n - 1 - (x &&& y) = 2 ^ n - ((x &&& y) + 1) by omega, show 2 ^ n - 1 - x = 2 ^ n - (x + 1) by omega, show 2 ^ n - 1 - y = 2 ^ n - (y + 1) by omega]
  rw [Nat.testBit_or, Nat.testBit_two_pow_sub_succ hxy, Nat.testBit_two_pow_sub_succ hx, Nat.testBit_two_pow_sub_succ hy, Nat.testBit_and]
  cases decide (i < n) <;> cases x.testBit i <;> cases y.testBit i <;> rfl
theorem not_or : 2 ^ n - 1 - (x ||| y) = (2 ^ n - 1 - x) &&& (2 ^ n - 1 - y) := by
  have hxy : x ||| y < 2 ^ n := Nat.or_lt_two_pow hx hy
  refine Nat.eq_of_testBit_eq fun i => ?_
  rw [show 2 ^ n - 1 - (x ||| y) = 2 ^ n - ((x ||| y) + 1) by omega, show 2 ^ n - 1 - x = 2 ^ n - (x + 1) by omega, show 2 ^ n - 1 - y = 2 ^ n - (y + 1) by omega]
  rw [Nat.testBit_and, Nat.testBit_two_pow_sub_succ hxy, Nat.testBit_two_pow_sub_succ hx, Nat.testBit_two_pow_sub_succ hy, Nat.testBit_or]
  cases decide (i < n) <;> cases x.testBit i <;> cases y.testBit i <;> rfl
end

end Bt
end Go.Proofs.Ytjfijhchnchfcaa
