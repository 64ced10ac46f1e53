/- int's operations bit by bit, as numbers. -/
import Derived.Test.YtjfijhchnchfcaaW1
import Derived.Laws.Bits64
import Derived.Laws.Bits64b
namespace Go.Proofs.Ytjfijhchnchfcaa
open Go.RowKit Sl Fr
namespace Bt
set_option linter.unusedVariables false

theorem ofInt_small (x : Nat) (h : x < 18446744073709551616) : (BitVec.ofInt 64 (x : Int)).toNat = x := by
  rw [BitVec.toNat_ofInt]
  omega
theorem and_i64 (a b : Nat) (ha : a < 9223372036854775808) (hb : b < 9223372036854775808) : bits .and .i64 (a : Int) (b : Int) = ((a &&& b : Nat) : Int) := by
  have : a &&& b < 2 ^ 63 := Nat.and_lt_two_pow _ (by omega)
  show IntKind.i64.wrap ((BitVec.ofInt 64 (a : Int) &&& BitVec.ofInt 64 (b : Int)).toNat : Int) = _
  rw [BitVec.toNat_and, ofInt_small a (by omega), ofInt_small b (by omega)]
  exact IntWalk.i64_in _ (by omega)
theorem or_i64 (a b : Nat) (ha : a < 9223372036854775808) (hb : b < 9223372036854775808) : bits .or .i64 (a : Int) (b : Int) = ((a ||| b : Nat) : Int) := by
  have : a ||| b < 2 ^ 63 := Nat.or_lt_two_pow (by omega) (by omega)
  show IntKind.i64.wrap ((BitVec.ofInt 64 (a : Int) ||| BitVec.ofInt 64 (b : Int)).toNat : Int) = _
  rw [BitVec.toNat_or, ofInt_small a (by omega), ofInt_small b (by omega)]
  exact IntWalk.i64_in _ (by omega)
theorem xor_i64 (a b : Nat) (ha : a < 9223372036854775808) (hb : b < 9223372036854775808) : bits .xor .i64 (a : Int) (b : Int) = ((a ^^^ b : Nat) : Int) := by
  have : a ^^^ b < 2 ^ 63 := Nat.xor_lt_two_pow (by omega) (by omega)
  show IntKind.i64.wrap ((BitVec.ofInt 64 (a : Int) ^^^ BitVec.ofInt 64 (b : Int)).toNat : Int) = _
  rw [BitVec.toNat_xor, ofInt_small a (by omega), ofInt_small b (by omega)]
  exact IntWalk.i64_in _ (by omega)
/-- The lowest bits of any int. -/
theorem and_mask (d : Int) (n : Nat) (hn : n ≤ 62) : bits .and .i64 d ((2 : Int) ^ n - 1) = d % 2 ^ n := by
  have hp := pow_int hn
  have hpos : 0 < (2 : Nat) ^ n := Nat.two_pow_pos n
  have e : (2 : Int) ^ n - 1 = ((2 ^ n - 1 : Nat) : Int) := by
    rw [Int.natCast_sub hpos]; simp
  have hlt : (2 : Nat) ^ n ≤ 4611686018427387904 := by
    have := pow_le hn
    rwa [show (2 : Nat) ^ 62 = 4611686018427387904 by decide] at this
  rw [e]
  show IntKind.i64.wrap ((BitVec.ofInt 64 d &&& BitVec.ofInt 64 ((2 ^ n - 1 : Nat) : Int)).toNat : Int) = _
  rw [BitVec.toNat_and, ofInt_small _ (by omega), Nat.and_two_pow_sub_one_eq_mod, BitVec.toNat_ofInt]
  have h1 : (((d % (2 ^ 64 : Nat)).toNat % 2 ^ n : Nat) : Int) = d % 2 ^ n := by
    rw [Int.natCast_emod, Int.toNat_of_nonneg (Int.emod_nonneg _ (by decide))]
    simp only [Int.natCast_pow, Int.cast_ofNat_Int]
    exact Int.emod_emod_of_dvd _ ⟨2 ^ (64 - n), by rw [← Int.pow_add, show n + (64 - n) = 64 by omega]⟩
  rw [h1]
  have h2 := Int.emod_nonneg d (show (2 : Int) ^ n ≠ 0 by omega)
  have h3 := Int.emod_lt_of_pos d hp.1
  exact IntWalk.i64_in _ (by omega)
theorem not_nat : ∀ n, n < 9 → ∀ x, x < 2 ^ n → x ^^^ (2 ^ n - 1) = 2 ^ n - 1 - x := by decide +kernel
theorem cat_or (x y b : Nat) (hy : y < 2 ^ b) : x * 2 ^ b ||| y = x * 2 ^ b + y := by
  rw [Nat.mul_comm]
  exact (Nat.two_pow_add_eq_or_of_lt hy x).symm
theorem low8 {n x : Nat} (hn : n ≤ 8) (hx : x < 2 ^ n) : x < 256 := Nat.lt_of_lt_of_le hx (pow_le hn)

end Bt
end Go.Proofs.Ytjfijhchnchfcaa
