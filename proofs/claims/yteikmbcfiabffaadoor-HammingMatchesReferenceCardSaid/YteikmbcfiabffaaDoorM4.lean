/- The steps by which a gap is opened or a position is taken out. -/
import Derived.Test.YteikmbcfiabffaaDoorM1
namespace Go.Proofs.YteikmbcfiabffaaDoor
namespace Hm
set_option linter.unusedVariables false

theorem split (a b p : Nat) (h : b < 2 ^ p) : 2 ^ p * a ^^^ b = 2 ^ p * a + b ∧ 2 ^ p * a ||| b = 2 ^ p * a + b := by
  have hb : ∀ i, p ≤ i → b.testBit i = false := fun i hi => Nat.testBit_lt_two_pow (Nat.lt_of_lt_of_le h (Nat.pow_le_pow_right (by decide) hi))
  constructor <;> apply Nat.eq_of_testBit_eq <;> intro i
  · rw [Nat.testBit_xor, Nat.testBit_two_pow_mul, Nat.testBit_two_pow_mul_add _ h]
    by_cases hi : i < p
    · simp [hi, show ¬ p ≤ i by omega]
    · simp [hi, hb i (by omega), show p ≤ i by omega]
  · rw [Nat.testBit_or, Nat.testBit_two_pow_mul, Nat.testBit_two_pow_mul_add _ h]
    by_cases hi : i < p
    · simp [hi, show ¬ p ≤ i by omega]
    · simp [hi, hb i (by omega), show p ≤ i by omega]

theorem parted (w p : Nat) : 2 ^ p * (w / 2 ^ p) + w % 2 ^ p = w := Nat.div_add_mod w (2 ^ p)
theorem above (w p : Nat) : w ^^^ w % 2 ^ p = 2 ^ p * (w / 2 ^ p) := by
  have hp : 0 < 2 ^ p := Nat.two_pow_pos p
  have e : w = 2 ^ p * (w / 2 ^ p) ^^^ w % 2 ^ p := by rw [(split _ _ p (Nat.mod_lt _ hp)).1, parted]
  have : w ^^^ w % 2 ^ p = (2 ^ p * (w / 2 ^ p) ^^^ w % 2 ^ p) ^^^ w % 2 ^ p := by rw [← e]
  rw [this, Nat.xor_assoc, Nat.xor_self, Nat.xor_zero]
theorem gap_add (p w : Nat) : gap p w = 2 * (2 ^ p * (w / 2 ^ p)) + w % 2 ^ p := by
  have hp : 0 < 2 ^ p := Nat.two_pow_pos p
  have hl : w % 2 ^ p < 2 ^ (p + 1) := by rw [Nat.pow_succ]; have := Nat.mod_lt w hp; omega
  unfold gap
  rw [Nat.shiftLeft_eq, Nat.mul_comm (w / 2 ^ p), (split _ _ _ hl).1, Nat.pow_succ, Nat.mul_comm (2 ^ p) 2, Nat.mul_assoc]
theorem gap_or (p w : Nat) : 2 * (2 ^ p * (w / 2 ^ p)) ||| w % 2 ^ p = gap p w := by
  have hp : 0 < 2 ^ p := Nat.two_pow_pos p
  have hl : w % 2 ^ p < 2 ^ (p + 1) := by rw [Nat.pow_succ]; have := Nat.mod_lt w hp; omega
  rw [gap_add, ← Nat.mul_assoc, Nat.mul_comm 2, ← Nat.pow_succ, (split _ _ _ hl).2]
theorem gap_le (p w : Nat) : gap p w ≤ 2 * w := by
  have := parted w p
  rw [gap_add]
  omega
theorem shut_or (p w : Nat) : w / 2 ^ (p + 1) * 2 ^ p ||| w % 2 ^ p = shut p w := by
  have hp : 0 < 2 ^ p := Nat.two_pow_pos p
  unfold shut
  rw [Nat.shiftLeft_eq, Nat.mul_comm _ (2 ^ p), (split _ _ _ (Nat.mod_lt _ hp)).1, (split _ _ _ (Nat.mod_lt _ hp)).2]
theorem shut_le (p w : Nat) : shut p w ≤ w := by
  have hp : 0 < 2 ^ p := Nat.two_pow_pos p
  have h1 := parted w p
  have h2 : w / 2 ^ (p + 1) = w / 2 ^ p / 2 := by rw [Nat.pow_succ, Nat.div_div_eq_div_mul]
  unfold shut
  rw [Nat.shiftLeft_eq, Nat.mul_comm _ (2 ^ p), (split _ _ _ (Nat.mod_lt _ hp)).1, h2]
  have h3 : 2 ^ p * (w / 2 ^ p / 2) ≤ 2 ^ p * (w / 2 ^ p) := Nat.mul_le_mul_left _ (Nat.div_le_self _ _)
  omega

/-- The positions of parity bits, in order; the word behind the first k gaps. -/
def chkAt : Nat → Nat
  | 0 => 0 | 1 => 1 | 2 => 2 | 3 => 4 | 4 => 8 | 5 => 16 | _ => 32
def gaps (d : Nat) : Nat → Nat
  | 0 => d
  | k + 1 => gap (chkAt k) (gaps d k)
def shuts (w : Nat) : Nat → Nat
  | 0 => w
  | k + 1 => shut (chkAt k - k) (shuts w k)
theorem gaps_seven (d : Nat) : gaps d 7 = spread d := rfl
theorem shuts_seven (w : Nat) : shuts w 7 = gather w := rfl
theorem gaps_lt {d : Nat} (h : d < 2 ^ 57) : ∀ k, gaps d k < 2 ^ (57 + k)
  | 0 => h
  | k + 1 => by
    have := gaps_lt h k
    have h2 := gap_le (chkAt k) (gaps d k)
    rw [gaps, ← Nat.add_assoc, Nat.pow_succ]
    omega
theorem shuts_le (w : Nat) : ∀ k, shuts w k ≤ w
  | 0 => Nat.le_refl _
  | k + 1 => Nat.le_trans (shut_le _ _) (shuts_le w k)
theorem chkAt_lt : ∀ k, k < 7 → chkAt k < 33 ∧ k ≤ chkAt k := by decide
theorem chkAt_le (k : Nat) : chkAt k ≤ 32 := by unfold chkAt; split <;> decide

end Hm
end Go.Proofs.YteikmbcfiabffaaDoor
