/- Plain arithmetic of 128 bits: an integer as its two halves; sums, negatives, quotients by one word; the two guesses of a long division by two half words. -/
import Derived.Laws.Bits64
namespace Go.Proofs.YtajpklacaaegcaaGreatDoor
namespace Fr

/-- The upper and the lower half of an integer in two's complement. -/
def hi (z : Int) : Int := z / 18446744073709551616 % 18446744073709551616
def lo (z : Int) : Int := z % 18446744073709551616
def wd (z : Int) : Value := .agg #[.int .u64 (hi z), .int .u64 (lo z)]

/-- An integer of 127 bits and a sign. -/
def In127 (z : Int) : Prop := -170141183460469231731687303715884105728 < z ∧ z < 170141183460469231731687303715884105728

theorem hi_range (z : Int) : 0 ≤ hi z ∧ hi z < 18446744073709551616 := by unfold hi; omega
theorem lo_range (z : Int) : 0 ≤ lo z ∧ lo z < 18446744073709551616 := by unfold lo; omega

theorem lo_add (x y : Int) : (lo x + lo y) % 18446744073709551616 = lo (x + y) := by unfold lo; omega
theorem hi_add (x y : Int) : (hi x + hi y + (lo x + lo y) / 18446744073709551616) % 18446744073709551616 = hi (x + y) := by unfold hi lo; omega
theorem carry_range (x y : Int) : 0 ≤ (lo x + lo y) / 18446744073709551616 ∧ (lo x + lo y) / 18446744073709551616 ≤ 1 := by
  have := lo_range x; have := lo_range y; omega

theorem hi_neg1 (z : Int) : 18446744073709551615 - hi z = hi (-z - 1) := by unfold hi; omega
theorem lo_neg1 (z : Int) : 18446744073709551615 - lo z = lo (-z - 1) := by unfold lo; omega

theorem neg_iff {z : Int} (h : In127 z) : hi z / 9223372036854775808 = 1 ↔ z < 0 := by unfold In127 at h; unfold hi; omega
theorem hi_nonneg {z : Int} (h : In127 z) (h0 : 0 ≤ z) : hi z = z / 18446744073709551616 := by unfold In127 at h; unfold hi; omega

/-- A product of two words, as its halves. -/
theorem mul_range {x y : Nat} (hx : x ≤ 9223372036854775808) (hy : y ≤ 9223372036854775808) : x * y ≤ 85070591730234615865843651857942052864 :=
  Nat.le_trans (Nat.mul_le_mul hx hy) (by decide)
theorem mul_in127 {n m : Int} (hn : n.natAbs ≤ 9223372036854775808) (hm : m.natAbs ≤ 9223372036854775808) : In127 (n * m) := by
  have h := mul_range hn hm
  have e : ((n * m).natAbs : Int) ≤ 85070591730234615865843651857942052864 := by rw [Int.natAbs_mul]; omega
  unfold In127
  omega

/-- A quotient by one word, half by half. -/
theorem div_split (s d : Int) (hd : 0 < d) : s / d = s / 18446744073709551616 / d * 18446744073709551616 + (s / 18446744073709551616 % d * 18446744073709551616 + s % 18446744073709551616) / d := by
  have e1 : s = d * (s / 18446744073709551616 / d * 18446744073709551616) + (s / 18446744073709551616 % d * 18446744073709551616 + s % 18446744073709551616) := by
    have h1 := Int.mul_ediv_add_emod s 18446744073709551616
    have h2 := Int.mul_ediv_add_emod (s / 18446744073709551616) d
    have h3 : d * (s / 18446744073709551616 / d * 18446744073709551616) = 18446744073709551616 * (d * (s / 18446744073709551616 / d)) := by
      rw [← Int.mul_assoc, Int.mul_comm]
    rw [h3]
    omega
  have e2 : s / d = (d * (s / 18446744073709551616 / d * 18446744073709551616) + (s / 18446744073709551616 % d * 18446744073709551616 + s % 18446744073709551616)) / d := by rw [← e1]
  rw [e2, Int.mul_add_ediv_left _ _ (by omega)]

theorem low_lt (s d : Int) (hd : 0 < d) : 0 ≤ (s / 18446744073709551616 % d * 18446744073709551616 + s % 18446744073709551616) / d ∧ (s / 18446744073709551616 % d * 18446744073709551616 + s % 18446744073709551616) / d < 18446744073709551616 := by
  have h1 := Int.emod_nonneg (s / 18446744073709551616) (b := d) (by omega)
  have h2 := Int.emod_lt_of_pos (s / 18446744073709551616) hd
  refine ⟨Int.ediv_nonneg (by omega) (by omega), Int.ediv_lt_of_lt_mul hd ?_⟩
  have h3 : (s / 18446744073709551616 % d + 1) * 18446744073709551616 ≤ d * 18446744073709551616 := Int.mul_le_mul_of_nonneg_right (by omega) (by decide)
  rw [Int.mul_comm 18446744073709551616 d]
  omega

theorem hi_div {s d : Int} (hs : In127 s) (h0 : 0 ≤ s) (hd : 0 < d) : hi s / d = hi (s / d) := by
  have h1 := div_split s d hd
  have h2 := low_lt s d hd
  rw [hi_nonneg hs h0]
  have h3 : 0 ≤ s / d := Int.ediv_nonneg h0 (by omega)
  have h4 : s / d ≤ s := Int.ediv_le_self _ h0
  rw [hi_nonneg ⟨by unfold In127 at hs; omega, by unfold In127 at hs; omega⟩ h3]
  omega
theorem lo_div {s d : Int} (hs : In127 s) (h0 : 0 ≤ s) (hd : 0 < d) : (hi s % d * 18446744073709551616 + lo s) / d = lo (s / d) := by
  have h1 := div_split s d hd
  have h2 := low_lt s d hd
  rw [hi_nonneg hs h0]
  unfold lo
  omega
theorem mod_split {s d : Int} (hs : In127 s) (h0 : 0 ≤ s) : (hi s % d * 18446744073709551616 + lo s) % d = s % d := by
  rw [hi_nonneg hs h0]
  unfold lo
  rw [Int.add_emod, Int.mul_emod, Int.emod_emod, ← Int.mul_emod, ← Int.add_emod]
  congr 1
  omega

/-! A guess of one digit of a long division: u, v over y1, y0 in base 2^32. -/

section
variable {y1 y0 u v q r : Int}
theorem guess_lt (h1 : 0 < y1 * 4294967296 + y0) (hu : u < y1 * 4294967296 + y0) (hv : v < 4294967296) : (u * 4294967296 + v) / (y1 * 4294967296 + y0) < 4294967296 := by
  refine Int.ediv_lt_of_lt_mul h1 ?_
  have : (u + 1) * 4294967296 ≤ (y1 * 4294967296 + y0) * 4294967296 := Int.mul_le_mul_of_nonneg_right (by omega) (by decide)
  omega

theorem guess_mul (q y1 y0 : Int) : q * (y1 * 4294967296 + y0) = q * y1 * 4294967296 + q * y0 := by
  rw [Int.mul_add, Int.mul_assoc]

/-- The first guess is not too small. -/
theorem guess_start (h1 : 0 < y1) (h0 : 0 ≤ y0) (hu0 : 0 ≤ u) (hv : v < 4294967296) : (u * 4294967296 + v) / (y1 * 4294967296 + y0) ≤ u / y1 := by
  have e := Int.mul_ediv_add_emod u y1
  have hm := Int.emod_lt_of_pos u h1
  have hq : 0 ≤ u / y1 := Int.ediv_nonneg hu0 (by omega)
  refine Int.lt_add_one_iff.1 (Int.ediv_lt_of_lt_mul (by omega) ?_)
  rw [guess_mul (u / y1 + 1)]
  have h2 : (u / y1 + 1) * y1 = y1 * (u / y1) + y1 := by rw [Int.add_mul, Int.mul_comm]; omega
  have h3 : 0 ≤ (u / y1 + 1) * y0 := Int.mul_nonneg (by omega) h0
  omega

theorem guess_high (h1 : 0 < y1 * 4294967296 + y0) (hu : u < y1 * 4294967296 + y0) (hv : v < 4294967296) (hq : 4294967296 ≤ q) : (u * 4294967296 + v) / (y1 * 4294967296 + y0) ≤ q - 1 := by
  have := guess_lt h1 hu hv
  omega

theorem guess_more (h1 : 0 < y1 * 4294967296 + y0) (hi : q * y1 + r = u) (ht : r * 4294967296 + v < q * y0) : (u * 4294967296 + v) / (y1 * 4294967296 + y0) ≤ q - 1 := by
  refine Int.le_sub_one_of_lt (Int.ediv_lt_of_lt_mul h1 ?_)
  rw [guess_mul]
  omega

theorem guess_done (h1 : 0 < y1 * 4294967296 + y0) (hi : q * y1 + r = u) (hQ : (u * 4294967296 + v) / (y1 * 4294967296 + y0) ≤ q) (ht : q * y0 ≤ r * 4294967296 + v) :
    q = (u * 4294967296 + v) / (y1 * 4294967296 + y0) := by
  refine Int.le_antisymm (Int.le_ediv_of_mul_le h1 ?_) hQ
  rw [guess_mul]
  omega

theorem guess_break (hy1 : 0 < y1) (h0 : 0 ≤ y0) (hy0 : y0 < 4294967296) (hu : u < y1 * 4294967296 + y0) (hv0 : 0 ≤ v) (hi : q * y1 + r = u) (hq0 : 0 ≤ q) (hQ : (u * 4294967296 + v) / (y1 * 4294967296 + y0) ≤ q) (hr : 4294967296 ≤ r) :
    q = (u * 4294967296 + v) / (y1 * 4294967296 + y0) := by
  have hq : q < 4294967296 := by
    refine Int.lt_of_mul_lt_mul_right (a := y1) ?_ (by omega)
    rw [Int.mul_comm 4294967296]
    omega
  have h2 : q * y0 ≤ 4294967296 * 4294967296 := Int.mul_le_mul (by omega) (by omega) h0 (by decide)
  exact guess_done (by omega) hi hQ (by omega)

/-- What is left behind one digit. -/
theorem left_eq (u v y : Int) : u * 4294967296 + v - (u * 4294967296 + v) / y * y = (u * 4294967296 + v) % y := by
  have := Int.ediv_mul_add_emod (u * 4294967296 + v) y
  omega
end

/-- Two digits of a long division are the quotient. -/
theorem two_digits (U a b y : Int) (hy : 0 < y) :
    (U * 18446744073709551616 + a * 4294967296 + b) / y = (U * 4294967296 + a) / y * 4294967296 + ((U * 4294967296 + a) % y * 4294967296 + b) / y ∧
      (U * 18446744073709551616 + a * 4294967296 + b) % y = ((U * 4294967296 + a) % y * 4294967296 + b) % y := by
  have e := Int.mul_ediv_add_emod (U * 4294967296 + a) y
  have e2 : U * 18446744073709551616 + a * 4294967296 + b = y * ((U * 4294967296 + a) / y * 4294967296) + ((U * 4294967296 + a) % y * 4294967296 + b) := by
    have : y * ((U * 4294967296 + a) / y * 4294967296) = y * ((U * 4294967296 + a) / y) * 4294967296 := by rw [Int.mul_assoc]
    omega
  constructor
  · rw [e2, Int.mul_add_ediv_left _ _ (by omega)]
  · rw [e2, Int.mul_add_emod_self_left]

end Fr
end Go.Proofs.YtajpklacaaegcaaGreatDoor
