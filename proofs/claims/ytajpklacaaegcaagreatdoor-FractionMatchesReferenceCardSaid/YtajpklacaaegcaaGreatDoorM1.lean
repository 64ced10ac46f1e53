/- Plain arithmetic of a long division by one word: the words as they are shifted, masked and joined. -/
import Derived.Test.YtajpklacaaegcaaGreatDoorM0
namespace Go.Proofs.YtajpklacaaegcaaGreatDoor
namespace Fr
set_option linter.unusedVariables false

theorem wrap_nat (n : Nat) (h : n < 18446744073709551616) : IntKind.u64.wrap (n : Int) = n := by
  rw [IntKind.wrap_u64]; omega

theorem or_nat (a b : Nat) (ha : a < 18446744073709551616) (hb : b < 18446744073709551616) :
    bits .or .u64 (a : Int) (b : Int) = ((a ||| b : Nat) : Int) := by
  have hx : a ||| b < 2 ^ 64 := Nat.or_lt_two_pow (by omega) (by omega)
  show IntKind.u64.wrap ((BitVec.ofInt 64 (a : Int) ||| BitVec.ofInt 64 (b : Int)).toNat : Int) = _
  rw [BitVec.toNat_or, BitVec.ofInt_natCast, BitVec.ofInt_natCast, BitVec.toNat_ofNat, BitVec.toNat_ofNat]
  rw [Nat.mod_eq_of_lt (by omega), Nat.mod_eq_of_lt (by omega), wrap_nat _ (by omega)]

theorem and_nat (a b : Nat) (ha : a < 18446744073709551616) (hb : b < 18446744073709551616) :
    bits .and .u64 (a : Int) (b : Int) = ((a &&& b : Nat) : Int) := by
  have hx : a &&& b < 2 ^ 64 := Nat.and_lt_two_pow _ (by omega)
  show IntKind.u64.wrap ((BitVec.ofInt 64 (a : Int) &&& BitVec.ofInt 64 (b : Int)).toNat : Int) = _
  rw [BitVec.toNat_and, BitVec.ofInt_natCast, BitVec.ofInt_natCast, BitVec.toNat_ofNat, BitVec.toNat_ofNat]
  rw [Nat.mod_eq_of_lt (by omega), Nat.mod_eq_of_lt (by omega), wrap_nat _ (by omega)]

theorem and_mask32 {x : Int} (h0 : 0 ≤ x) (h1 : x < 18446744073709551616) : bits .and .u64 x 4294967295 = x % 4294967296 := by
  obtain ⟨n, rfl⟩ := Int.eq_ofNat_of_zero_le h0
  have := and_nat n 4294967295 (by omega) (by decide)
  refine this.trans ?_
  have e := Nat.and_two_pow_sub_one_eq_mod n 32
  have : (2 : Nat) ^ 32 - 1 = 4294967295 := by decide
  rw [this] at e
  rw [e]
  omega

/-- The upper word of a shifted pair of words. -/
theorem or_shift {h l : Int} {s : Nat} (hs : s ≤ 63) (hh : 0 ≤ h) (hl0 : 0 ≤ l) (hl1 : l < 18446744073709551616) (hb : h * 2 ^ s < 18446744073709551616) :
    bits .or .u64 (IntKind.u64.wrap (h * 2 ^ s)) (l / 2 ^ (64 - s)) = h * 2 ^ s + l / 2 ^ (64 - s) := by
  obtain ⟨h, rfl⟩ := Int.eq_ofNat_of_zero_le hh
  obtain ⟨l, rfl⟩ := Int.eq_ofNat_of_zero_le hl0
  have e1 : (h : Int) * 2 ^ s = ((h * 2 ^ s : Nat) : Int) := by simp
  have e2 : (l : Int) / 2 ^ (64 - s) = ((l / 2 ^ (64 - s) : Nat) : Int) := by simp
  rw [e1] at hb
  rw [e1, e2, wrap_nat _ (by omega), or_nat _ _ (by omega) (Nat.lt_of_le_of_lt (Nat.div_le_self _ _) (by omega)), ← Int.natCast_add]
  congr 1
  have hlt : l / 2 ^ (64 - s) < 2 ^ s := by
    refine Nat.div_lt_of_lt_mul ?_
    rw [← Nat.pow_add, show 64 - s + s = 64 by omega]
    omega
  rw [← Nat.shiftLeft_eq]
  exact (Nat.shiftLeft_add_eq_or_of_lt hlt h).symm

/-- A pair of words, shifted. -/
theorem shift_pair {h l : Int} {s : Nat} (hs : s ≤ 63) (hl0 : 0 ≤ l) : (h * 18446744073709551616 + l) * 2 ^ s = (h * 2 ^ s + l / 2 ^ (64 - s)) * 18446744073709551616 + l * 2 ^ s % 18446744073709551616 := by
  have e : l * 2 ^ s / 18446744073709551616 = l / 2 ^ (64 - s) := by
    have h1 : (18446744073709551616 : Int) = 2 ^ (64 - s) * 2 ^ s := by
      rw [← Int.pow_add, show 64 - s + s = 64 by omega]; decide
    rw [h1, Int.mul_ediv_mul_of_pos_left _ _ (Int.pow_pos (by decide))]
  have h2 := Int.mul_ediv_add_emod (l * 2 ^ s) 18446744073709551616
  rw [e] at h2
  rw [Int.add_mul, Int.add_mul]
  have h3 : h * 18446744073709551616 * 2 ^ s = h * 2 ^ s * 18446744073709551616 := by rw [Int.mul_assoc, Int.mul_comm 18446744073709551616, ← Int.mul_assoc]
  omega

theorem shift_lt {h l y : Int} {s : Nat} (hs : s ≤ 63) (hl0 : 0 ≤ l) (hl1 : l < 18446744073709551616) (hhy : h < y) : h * 2 ^ s + l / 2 ^ (64 - s) < y * 2 ^ s := by
  have hp : (0 : Int) < 2 ^ s := Int.pow_pos (by decide)
  have h1 : l / 2 ^ (64 - s) < 2 ^ s := by
    refine Int.ediv_lt_of_lt_mul (Int.pow_pos (by decide)) ?_
    rw [← Int.pow_add, show s + (64 - s) = 64 by omega]
    exact hl1
  have h2 : (h + 1) * 2 ^ s ≤ y * 2 ^ s := Int.mul_le_mul_of_nonneg_right (by omega) (by omega)
  rw [Int.add_mul] at h2
  omega

/-- What is left of two words, taken from each other. -/
theorem wrap_sub (a v p : Int) (h0 : 0 ≤ a + v - p) (h1 : a + v - p < 18446744073709551616) :
    IntKind.u64.wrap (IntKind.u64.wrap (IntKind.u64.wrap a + v) - IntKind.u64.wrap p) = a + v - p := by
  simp only [IntKind.wrap_u64]
  omega

end Fr
end Go.Proofs.YtajpklacaaegcaaGreatDoor
