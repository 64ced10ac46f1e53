/- Plain arithmetic of 128 bits: an integer as its two halves; sums, negatives, quotients by one word; the two guesses of a long division by two half words. Plain arithmetic of a long division by one word: the words as they are shifted, masked and joined. Fractions as rational numbers: which ones fit, and that sums and products, divided by common divisors as the code does it, have no common divisor left. -/
import Derived.Laws.Bits64
namespace Go.Proofs.Ytojkaaglmdfcnaa
namespace Fr

/-- The upper and the lower half of an integer in two's complement. -/
def hi (z : Int) : Int := z / 18446744073709551616 % 18446744073709551616
def lo (z : Int) : Int := z % 18446744073709551616
def wd (z : Int) : Value := .agg #[.int .u64 (hi z), .int .u64 (lo z)]

/-- An integer of 127 bits and a sign. -/
def In127 (z : Int) : Prop := -170141183460469231731687303715884105728 < z ∧ z < 170141183460469231731687303715884105728

theorem hi_range (z : Int) : 0 ≤ hi z ∧ hi z < 18446744073709551616 := by unfold hi; omega
theorem lo_range (z : Int) : 0 ≤ lo z ∧ lo z < 18446744073709551616 := by unfold lo; omega

theorem lo_add (x y : Int) : (lo x + lo y) % 18446744073709551616 = lo (x + y) := by unfold lo; omega
theorem hi_add (x y : Int) : (hi x + hi y + (lo x + lo y) / 18446744073709551616) % 18446744073709551616 = hi (x + y) := by unfold hi lo; omega
theorem carry_range (x y : Int) : 0 ≤ (lo x + lo y) / 18446744073709551616 ∧ (lo x + lo y) / 18446744073709551616 ≤ 1 := by
  have := lo_range x; have := lo_range y; omega

theorem hi_neg1 (z : Int) : 18446744073709551615 - hi z = hi (-z - 1) := by unfold hi; omega
theorem lo_neg1 (z : Int) : 18446744073709551615 - lo z = lo (-z - 1) := by unfold lo; omega

theorem neg_iff {z : Int} (h : In127 z) : hi z / 9223372036854775808 = 1 ↔ z < 0 := by unfold In127 at h; unfold hi; omega
theorem hi_nonneg {z : Int} (h : In127 z) (h0 : 0 ≤ z) : hi z = z / 18446744073709551616 := by unfold In127 at h; unfold hi; omega

/-- A product of two words, as its halves. -/
theorem mul_range {x y : Nat} (hx : x ≤ 9223372036854775808) (hy : y ≤ 9223372036854775808) : x * y ≤ 85070591730234615865843651857942052864 :=
  Nat.le_trans (Nat.mul_le_mul hx hy) (by decide)
theorem mul_in127 {n m : Int} (hn : n.natAbs ≤ 9223372036854775808) (hm : m.natAbs ≤ 9223372036854775808) : In127 (n * m) := by
  have h := mul_range hn hm
  have e : ((n * m).natAbs : Int) ≤ 85070591730234615865843651857942052864 := by rw [Int.natAbs_mul]; omega
  unfold In127
  omega

/-- A quotient by one word, half by half. -/
theorem div_split (s d : Int) (hd : 0 < d) : s / d = s / 18446744073709551616 / d * 18446744073709551616 + (s / 18446744073709551616 % d * 18446744073709551616 + s % 18446744073709551616) / d := by
  have e1 : s = d * (s / 18446744073709551616 / d * 18446744073709551616) + (s / 18446744073709551616 % d * 18446744073709551616 + s % 18446744073709551616) := by
    have h1 := Int.mul_ediv_add_emod s 18446744073709551616
    have h2 := Int.mul_ediv_add_emod (s / 18446744073709551616) d
    have h3 : d * (s / 18446744073709551616 / d * 18446744073709551616) = 18446744073709551616 * (d * (s / 18446744073709551616 / d)) := by
      rw [← Int.mul_assoc, Int.mul_comm]
    rw [h3]
    omega
  have e2 : s / d = (d * (s / 18446744073709551616 / d * 18446744073709551616) + (s / 18446744073709551616 % d * 18446744073709551616 + s % 18446744073709551616)) / d := by rw [← e1]
  rw [e2, Int.mul_add_ediv_left _ _ (by omega)]

theorem low_lt (s d : Int) (hd : 0 < d) : 0 ≤ (s / 18446744073709551616 % d * 18446744073709551616 + s % 18446744073709551616) / d ∧ (s / 18446744073709551616 % d * 18446744073709551616 + s % 18446744073709551616) / d < 18446744073709551616 := by
  have h1 := Int.emod_nonneg (s / 18446744073709551616) (b := d) (by omega)
  have h2 := Int.emod_lt_of_pos (s / 18446744073709551616) hd
  refine ⟨Int.ediv_nonneg (by omega) (by omega), Int.ediv_lt_of_lt_mul hd ?_⟩
  have h3 : (s / 18446744073709551616 % d + 1) * 18446744073709551616 ≤ d * 18446744073709551616 := Int.mul_le_mul_of_nonneg_right (by omega) (by decide)
  rw [Int.mul_comm 18446744073709551616 d]
  omega

theorem hi_div {s d : Int} (hs : In127 s) (h0 : 0 ≤ s) (hd : 0 < d) : hi s / d = hi (s / d) := by
  have h1 := div_split s d hd
  have h2 := low_lt s d hd
  rw [hi_nonneg hs h0]
  have h3 : 0 ≤ s / d := Int.ediv_nonneg h0 (by omega)
  have h4 : s / d ≤ s := Int.ediv_le_self _ h0
  rw [hi_nonneg ⟨by unfold In127 at hs; omega, by unfold In127 at hs; omega⟩ h3]
  omega
theorem lo_div {s d : Int} (hs : In127 s) (h0 : 0 ≤ s) (hd : 0 < d) : (hi s % d * 18446744073709551616 + lo s) / d = lo (s / d) := by
  have h1 := div_split s d hd
  have h2 := low_lt s d hd
  rw [hi_nonneg hs h0]
  unfold lo
  omega
theorem mod_split {s d : Int} (hs : In127 s) (h0 : 0 ≤ s) : (hi s % d * 18446744073709551616 + lo s) % d = s % d := by
  rw [hi_nonneg hs h0]
  unfold lo
  rw [Int.add_emod, Int.mul_emod, Int.emod_emod, ← Int.mul_emod, ← Int.add_emod]
  congr 1
  omega

/-! A guess of one digit of a long division: u, v over y1, y0 in base 2^32. -/

section
variable {y1 y0 u v q r : Int}
theorem guess_lt (h1 : 0 < y1 * 4294967296 + y0) (hu : u < y1 * 4294967296 + y0) (hv : v < 4294967296) : (u * 4294967296 + v) / (y1 * 4294967296 + y0) < 4294967296 := by
  refine Int.ediv_lt_of_lt_mul h1 ?_
  have : (u + 1) * 4294967296 ≤ (y1 * 4294967296 + y0) * 4294967296 := Int.mul_le_mul_of_nonneg_right (by omega) (by decide)
  omega

theorem guess_mul (q y1 y0 : Int) : q * (y1 * 4294967296 + y0) = q * y1 * 4294967296 + q * y0 := by
  rw [Int.mul_add, Int.mul_assoc]

/-- The first guess is not too small. -/
theorem guess_start (h1 : 0 < y1) (h0 : 0 ≤ y0) (hu0 : 0 ≤ u) (hv : v < 4294967296) : (u * 4294967296 + v) / (y1 * 4294967296 + y0) ≤ u / y1 := by
  have e := Int.mul_ediv_add_emod u y1
  have hm := Int.emod_lt_of_pos u h1
  have hq : 0 ≤ u / y1 := Int.ediv_nonneg hu0 (by omega)
  refine Int.lt_add_one_iff.1 (Int.ediv_lt_of_lt_mul (by omega) ?_)
  rw [guess_mul (u / y1 + 1)]
  have h2 : (u / y1 + 1) * y1 = y1 * (u / y1) + y1 := by rw [Int.add_mul, Int.mul_comm]; omega
  have h3 : 0 ≤ (u / y1 + 1) * y0 := Int.mul_nonneg (by omega) h0
  omega

theorem guess_high (h1 : 0 < y1 * 4294967296 + y0) (hu : u < y1 * 4294967296 + y0) (hv : v < 4294967296) (hq : 4294967296 ≤ q) : (u * 4294967296 + v) / (y1 * 4294967296 + y0) ≤ q - 1 := by
  have := guess_lt h1 hu hv
  omega

theorem guess_more (h1 : 0 < y1 * 4294967296 + y0) (hi : q * y1 + r = u) (ht : r * 4294967296 + v < q * y0) : (u * 4294967296 + v) / (y1 * 4294967296 + y0) ≤ q - 1 := by
  refine Int.le_sub_one_of_lt (Int.ediv_lt_of_lt_mul h1 ?_)
  rw [guess_mul]
  omega

theorem guess_done (h1 : 0 < y1 * 4294967296 + y0) (hi : q * y1 + r = u) (hQ : (u * 4294967296 + v) / (y1 * 4294967296 + y0) ≤ q) (ht : q * y0 ≤ r * 4294967296 + v) :
    q = (u * 4294967296 + v) / (y1 * 4294967296 + y0) := by
  refine Int.le_antisymm (Int.le_ediv_of_mul_le h1 ?_) hQ
  rw [guess_mul]
  omega

theorem guess_break (hy1 : 0 < y1) (h0 : 0 ≤ y0) (hy0 : y0 < 4294967296) (hu : u < y1 * 4294967296 + y0) (hv0 : 0 ≤ v) (hi : q * y1 + r = u) (hq0 : 0 ≤ q) (hQ : (u * 4294967296 + v) / (y1 * 4294967296 + y0) ≤ q) (hr : 4294967296 ≤ r) :
    q = (u * 4294967296 + v) / (y1 * 4294967296 + y0) := by
  have hq : q < 4294967296 := by
    refine Int.lt_of_mul_lt_mul_right (a := y1) ?_ (by omega)
    rw [Int.mul_comm 4294967296]
    omega
  have h2 : q * y0 ≤ 4294967296 * 4294967296 := Int.mul_le_mul (by omega) (by omega) h0 (by decide)
  exact guess_done (by omega) hi hQ (by omega)

/-- What is left behind one digit. -/
theorem left_eq (u v y : Int) : u * 4294967296 + v - (u * 4294967296 + v) / y * y = (u * 4294967296 + v) % y := by
  have := Int.ediv_mul_add_emod (u * 4294967296 + v) y
  omega
end

/-- Two digits of a long division are the quotient. -/
theorem two_digits (U a b y : Int) (hy : 0 < y) :
    (U * 18446744073709551616 + a * 4294967296 + b) / y = (U * 4294967296 + a) / y * 4294967296 + ((U * 4294967296 + a) % y * 4294967296 + b) / y ∧
      (U * 18446744073709551616 + a * 4294967296 + b) % y = ((U * 4294967296 + a) % y * 4294967296 + b) % y := by
  have e := Int.mul_ediv_add_emod (U * 4294967296 + a) y
  have e2 : U * 18446744073709551616 + a * 4294967296 + b = y * ((U * 4294967296 + a) / y * 4294967296) + ((U * 4294967296 + a) % y * 4294967296 + b) := by
    have : y * ((U * 4294967296 + a) / y * 4294967296) = y * ((U * 4294967296 + a) / y) * 4294967296 := by rw [Int.mul_assoc]
    omega
  constructor
  · rw [e2, Int.mul_add_ediv_left _ _ (by omega)]
  · rw [e2, Int.mul_add_emod_self_left]

end Fr
end Go.Proofs.Ytojkaaglmdfcnaa

namespace Go.Proofs.Ytojkaaglmdfcnaa
namespace Fr
set_option linter.unusedVariables false

theorem wrap_nat (n : Nat) (h : n < 18446744073709551616) : IntKind.u64.wrap (n : Int) = n := by
  rw [IntKind.wrap_u64]; omega

theorem or_nat (a b : Nat) (ha : a < 18446744073709551616) (hb : b < 18446744073709551616) :
    bits .or .u64 (a : Int) (b : Int) = ((a ||| b : Nat) : Int) := by
  have hx : a ||| b < 2 ^ 64 := Nat.or_lt_two_pow (by omega) (by omega)
  show IntKind.u64.wrap ((BitVec.ofInt 64 (a : Int) ||| BitVec.ofInt 64 (b : Int)).toNat : Int) = _
  rw [BitVec.toNat_or, BitVec.ofInt_natCast, BitVec.ofInt_natCast, BitVec.toNat_ofNat, BitVec.toNat_ofNat]
  rw [Nat.mod_eq_of_lt (by omega), Nat.mod_eq_of_lt (by omega), wrap_nat _ (by omega)]

theorem and_nat (a b : Nat) (ha : a < 18446744073709551616) (hb : b < 18446744073709551616) :
    bits .and .u64 (a : Int) (b : Int) = ((a &&& b : Nat) : Int) := by
  have hx : a &&& b < 2 ^ 64 := Nat.and_lt_two_pow _ (by omega)
  show IntKind.u64.wrap ((BitVec.ofInt 64 (a : Int) &&& BitVec.ofInt 64 (b : Int)).toNat : Int) = _
  rw [BitVec.toNat_and, BitVec.ofInt_natCast, BitVec.ofInt_natCast, BitVec.toNat_ofNat, BitVec.toNat_ofNat]
  rw [Nat.mod_eq_of_lt (by omega), Nat.mod_eq_of_lt (by omega), wrap_nat _ (by omega)]

theorem and_mask32 {x : Int} (h0 : 0 ≤ x) (h1 : x < 18446744073709551616) : bits .and .u64 x 4294967295 = x % 4294967296 := by
  obtain ⟨n, rfl⟩ := Int.eq_ofNat_of_zero_le h0
  have := and_nat n 4294967295 (by omega) (by decide)
  refine this.trans ?_
  have e := Nat.and_two_pow_sub_one_eq_mod n 32
  have : (2 : Nat) ^ 32 - 1 = 4294967295 := by decide
  rw [this] at e
  rw [e]
  omega

/-- The upper word of a shifted pair of words. -/
theorem or_shift {h l : Int} {s : Nat} (hs : s ≤ 63) (hh : 0 ≤ h) (hl0 : 0 ≤ l) (hl1 : l < 18446744073709551616) (hb : h * 2 ^ s < 18446744073709551616) :
    bits .or .u64 (IntKind.u64.wrap (h * 2 ^ s)) (l / 2 ^ (64 - s)) = h * 2 ^ s + l / 2 ^ (64 - s) := by
  obtain ⟨h, rfl⟩ := Int.eq_ofNat_of_zero_le hh
  obtain ⟨l, rfl⟩ := Int.eq_ofNat_of_zero_le hl0
  have e1 : (h : Int) * 2 ^ s = ((h * 2 ^ s : Nat) : Int) := by simp
  have e2 : (l : Int) / 2 ^ (64 - s) = ((l / 2 ^ (64 - s) : Nat) : Int) := by simp
  rw [e1] at hb
  rw [e1, e2, wrap_nat _ (by omega), or_nat _ _ (by omega) (Nat.lt_of_le_of_lt (Nat.div_le_self _ _) (by omega)), ← Int.natCast_add]
  congr 1
  have hlt : l / 2 ^ (64 - s) < 2 ^ s := by
    refine Nat.div_lt_of_lt_mul ?_
    rw [← Nat.pow_add, show 64 - s + s = 64 by omega]
    omega
  rw [← Nat.shiftLeft_eq]
  exact (Nat.shiftLeft_add_eq_or_of_lt hlt h).symm

/-- A pair of words, shifted. -/
theorem shift_pair {h l : Int} {s : Nat} (hs : s ≤ 63) (hl0 : 0 ≤ l) : (h * 18446744073709551616 + l) * 2 ^ s = (h * 2 ^ s + l / 2 ^ (64 - s)) * 18446744073709551616 + l * 2 ^ s % 18446744073709551616 := by
  have e : l * 2 ^ s / 18446744073709551616 = l / 2 ^ (64 - s) := by
    have h1 : (18446744073709551616 : Int) = 2 ^ (64 - s) * 2 ^ s := by
      rw [← Int.pow_add, show 64 - s + s = 64 by omega]; decide
    rw [h1, Int.mul_ediv_mul_of_pos_left _ _ (Int.pow_pos (by decide))]
  have h2 := Int.mul_ediv_add_emod (l * 2 ^ s) 18446744073709551616
  rw [e] at h2
  rw [Int.add_mul, Int.add_mul]
  have h3 : h * 18446744073709551616 * 2 ^ s = h * 2 ^ s * 18446744073709551616 := by rw [Int.mul_assoc, Int.mul_comm 18446744073709551616, ← Int.mul_assoc]
  omega

theorem shift_lt {h l y : Int} {s : Nat} (hs : s ≤ 63) (hl0 : 0 ≤ l) (hl1 : l < 18446744073709551616) (hhy : h < y) : h * 2 ^ s + l / 2 ^ (64 - s) < y * 2 ^ s := by
  have hp : (0 : Int) < 2 ^ s := Int.pow_pos (by decide)
  have h1 : l / 2 ^ (64 - s) < 2 ^ s := by
    refine Int.ediv_lt_of_lt_mul (Int.pow_pos (by decide)) ?_
    rw [← Int.pow_add, show s + (64 - s) = 64 by omega]
    exact hl1
  have h2 : (h + 1) * 2 ^ s ≤ y * 2 ^ s := Int.mul_le_mul_of_nonneg_right (by omega) (by omega)
  rw [Int.add_mul] at h2
  omega

/-- What is left of two words, taken from each other. -/
theorem wrap_sub (a v p : Int) (h0 : 0 ≤ a + v - p) (h1 : a + v - p < 18446744073709551616) :
    IntKind.u64.wrap (IntKind.u64.wrap (IntKind.u64.wrap a + v) - IntKind.u64.wrap p) = a + v - p := by
  simp only [IntKind.wrap_u64]
  omega

end Fr
end Go.Proofs.Ytojkaaglmdfcnaa

namespace Go.Proofs.Ytojkaaglmdfcnaa
namespace Fr
set_option linter.unusedVariables false

/-- A rational number that has a fraction. -/
def Fit (q : Rat) : Prop := -4611686018427387904 ≤ q.num ∧ q.num ≤ 4611686018427387904 ∧ (q.den : Int) ≤ 4611686018427387904
instance (q : Rat) : Decidable (Fit q) := by unfold Fit; infer_instance

/-- The fraction and the error of a result. -/
def rN (q : Rat) : Int := if Fit q then q.num else 0
def rD (q : Rat) : Int := if Fit q then (q.den : Int) else 0
def rE (q : Rat) : Int := if Fit q then 0 else 2

theorem coprime_split {a b : Nat} (hb : 0 < a ∨ 0 < b) : Nat.Coprime (a / Nat.gcd a b) (b / Nat.gcd a b) := by
  apply Nat.coprime_div_gcd_div_gcd
  rcases hb with h | h
  · exact Nat.gcd_pos_of_pos_left _ h
  · exact Nat.gcd_pos_of_pos_right _ h

theorem natAbs_cast_mul (g : Nat) (x : Int) : ((g : Int) * x).natAbs = g * x.natAbs := by rw [Int.natAbs_mul]; rfl

theorem divInt_num {n d : Int} (hd : 0 < d) (hc : Nat.Coprime n.natAbs d.natAbs) : (Rat.divInt n d).num = n := by
  have e : (d.gcd n : Int) = 1 := by
    have : d.gcd n = 1 := by rw [Int.gcd_comm]; exact hc
    omega
  rw [Rat.num_divInt, e, Int.sign_eq_one_of_pos hd]
  omega
theorem divInt_den {n d : Int} (hd : 0 < d) (hc : Nat.Coprime n.natAbs d.natAbs) : ((Rat.divInt n d).den : Int) = d := by
  have e : d.gcd n = 1 := by rw [Int.gcd_comm]; exact hc
  rw [Rat.den_divInt, e, if_neg (by omega)]
  omega
theorem divInt_neg_neg (n d : Int) : Rat.divInt (-n) (-d) = Rat.divInt n d := by
  have := Rat.divInt_mul_left (n := n) (d := d) (a := -1) (by decide)
  rwa [Int.neg_one_mul, Int.neg_one_mul] at this

/-- A product, divided crosswise. -/
theorem mul_core {aN aD bN bD : Int} (ha : aD ≠ 0) (hb : bD ≠ 0) (hca : Nat.Coprime aN.natAbs aD.natAbs) (hcb : Nat.Coprime bN.natAbs bD.natAbs) :
    ((aD * bD).tdiv (Nat.gcd aN.natAbs bD.natAbs : Int)).tdiv (Nat.gcd bN.natAbs aD.natAbs : Int) ≠ 0 ∧
    Nat.Coprime (((aN * bN).tdiv (Nat.gcd aN.natAbs bD.natAbs : Int)).tdiv (Nat.gcd bN.natAbs aD.natAbs : Int)).natAbs (((aD * bD).tdiv (Nat.gcd aN.natAbs bD.natAbs : Int)).tdiv (Nat.gcd bN.natAbs aD.natAbs : Int)).natAbs ∧
    Rat.divInt (((aN * bN).tdiv (Nat.gcd aN.natAbs bD.natAbs : Int)).tdiv (Nat.gcd bN.natAbs aD.natAbs : Int)) (((aD * bD).tdiv (Nat.gcd aN.natAbs bD.natAbs : Int)).tdiv (Nat.gcd bN.natAbs aD.natAbs : Int)) = Rat.divInt aN aD * Rat.divInt bN bD := by
  have hg0 : 0 < Nat.gcd aN.natAbs bD.natAbs := Nat.gcd_pos_of_pos_right _ (by omega)
  have hh0 : 0 < Nat.gcd bN.natAbs aD.natAbs := Nat.gcd_pos_of_pos_right _ (by omega)
  have c1 := coprime_split (a := aN.natAbs) (b := bD.natAbs) (.inr (by omega))
  have c2 := coprime_split (a := bN.natAbs) (b := aD.natAbs) (.inr (by omega))
  obtain ⟨a', e1⟩ : (Nat.gcd aN.natAbs bD.natAbs : Int) ∣ aN := Int.ofNat_dvd_left.2 (Nat.gcd_dvd_left _ _)
  obtain ⟨b'', e2⟩ : (Nat.gcd aN.natAbs bD.natAbs : Int) ∣ bD := Int.ofNat_dvd_left.2 (Nat.gcd_dvd_right _ _)
  obtain ⟨b', e3⟩ : (Nat.gcd bN.natAbs aD.natAbs : Int) ∣ bN := Int.ofNat_dvd_left.2 (Nat.gcd_dvd_left _ _)
  obtain ⟨a'', e4⟩ : (Nat.gcd bN.natAbs aD.natAbs : Int) ∣ aD := Int.ofNat_dvd_left.2 (Nat.gcd_dvd_right _ _)
  generalize Nat.gcd aN.natAbs bD.natAbs = g at *
  generalize Nat.gcd bN.natAbs aD.natAbs = h at *
  subst e1 e2 e3 e4
  rw [natAbs_cast_mul, natAbs_cast_mul, Nat.mul_div_cancel_left _ hg0, Nat.mul_div_cancel_left _ hg0] at c1
  rw [natAbs_cast_mul, natAbs_cast_mul, Nat.mul_div_cancel_left _ hh0, Nat.mul_div_cancel_left _ hh0] at c2
  rw [natAbs_cast_mul, natAbs_cast_mul] at hca hcb
  have c3 : Nat.Coprime a'.natAbs a''.natAbs := Nat.Coprime.coprime_dvd_left (Nat.dvd_mul_left _ _) (Nat.Coprime.coprime_dvd_right (Nat.dvd_mul_left _ _) hca)
  have c4 : Nat.Coprime b'.natAbs b''.natAbs := Nat.Coprime.coprime_dvd_left (Nat.dvd_mul_left _ _) (Nat.Coprime.coprime_dvd_right (Nat.dvd_mul_left _ _) hcb)
  have hg : (g : Int) ≠ 0 := by omega
  have hh : (h : Int) ≠ 0 := by omega
  have n1 : (g : Int) * a' * ((h : Int) * b') = (g : Int) * ((h : Int) * (a' * b')) := by simp only [Int.mul_assoc, Int.mul_left_comm]
  have d1 : (h : Int) * a'' * ((g : Int) * b'') = (g : Int) * ((h : Int) * (a'' * b'')) := by simp only [Int.mul_assoc, Int.mul_left_comm]
  rw [n1, d1, Int.mul_tdiv_cancel_left _ hg, Int.mul_tdiv_cancel_left _ hh, Int.mul_tdiv_cancel_left _ hg, Int.mul_tdiv_cancel_left _ hh]
  refine ⟨?_, ?_, ?_⟩
  · have h1 : a'' ≠ 0 := by intro e; subst e; simp at ha
    have h2 : b'' ≠ 0 := by intro e; subst e; simp at hb
    exact Int.mul_ne_zero h1 h2
  · rw [Int.natAbs_mul, Int.natAbs_mul]
    exact Nat.Coprime.mul_left (Nat.Coprime.mul_right c3 c1) (Nat.Coprime.mul_right c2 c4)
  · rw [Rat.divInt_mul_divInt, n1, d1, Rat.divInt_mul_left hg, Rat.divInt_mul_left hh]

/-- A sum, divided by what the denominators share, and by what is left of it. -/
theorem add_core {aN aD bN bD : Int} (ha : 0 < aD) (hb : 0 < bD) (hca : Nat.Coprime aN.natAbs aD.natAbs) (hcb : Nat.Coprime bN.natAbs bD.natAbs) (g r : Nat) (hgd : g = Nat.gcd aD.natAbs bD.natAbs)
    (hr : r = Nat.gcd g (((aN * bD + bN * aD).tdiv (g : Int)).natAbs % g)) :
    0 < g ∧ 0 < r ∧ 0 < ((aD * bD).tdiv (g : Int)).tdiv (r : Int) ∧
    Nat.Coprime (((aN * bD + bN * aD).tdiv (g : Int)).tdiv (r : Int)).natAbs (((aD * bD).tdiv (g : Int)).tdiv (r : Int)).natAbs ∧
    Rat.divInt (((aN * bD + bN * aD).tdiv (g : Int)).tdiv (r : Int)) (((aD * bD).tdiv (g : Int)).tdiv (r : Int)) = Rat.divInt aN aD + Rat.divInt bN bD := by
  have hg0 : 0 < g := by rw [hgd]; exact Nat.gcd_pos_of_pos_right _ (by omega)
  have hr0 : 0 < r := by rw [hr]; exact Nat.gcd_pos_of_pos_left _ hg0
  have c1 := coprime_split (a := aD.natAbs) (b := bD.natAbs) (.inr (by omega))
  obtain ⟨a1, e1⟩ : (g : Int) ∣ aD := Int.ofNat_dvd_left.2 (by rw [hgd]; exact Nat.gcd_dvd_left _ _)
  obtain ⟨b1, e2⟩ : (g : Int) ∣ bD := Int.ofNat_dvd_left.2 (by rw [hgd]; exact Nat.gcd_dvd_right _ _)
  rw [← hgd] at c1
  clear hgd
  subst e1 e2
  rw [natAbs_cast_mul, natAbs_cast_mul, Nat.mul_div_cancel_left _ hg0, Nat.mul_div_cancel_left _ hg0] at c1
  rw [natAbs_cast_mul] at hca hcb
  have hg : (g : Int) ≠ 0 := by omega
  have ha1 : 0 < a1 := Int.pos_of_mul_pos_right ha (by omega)
  have hb1 : 0 < b1 := Int.pos_of_mul_pos_right hb (by omega)
  have n1 : aN * ((g : Int) * b1) + bN * ((g : Int) * a1) = (g : Int) * (aN * b1 + bN * a1) := by
    rw [Int.mul_add, Int.mul_left_comm, Int.mul_left_comm bN]
  have d1 : (g : Int) * a1 * ((g : Int) * b1) = (g : Int) * ((g : Int) * (a1 * b1)) := by simp only [Int.mul_assoc, Int.mul_left_comm]
  rw [n1, Int.mul_tdiv_cancel_left _ hg] at hr ⊢
  rw [d1, Int.mul_tdiv_cancel_left _ hg]
  obtain ⟨t, ht⟩ : ∃ t, aN * b1 + bN * a1 = t := ⟨_, rfl⟩
  have ca1 : Nat.Coprime aN.natAbs a1.natAbs := Nat.Coprime.coprime_dvd_right (Nat.dvd_mul_left _ _) hca
  have cb1 : Nat.Coprime bN.natAbs b1.natAbs := Nat.Coprime.coprime_dvd_right (Nat.dvd_mul_left _ _) hcb
  have ct1 : Nat.Coprime t.natAbs a1.natAbs := by
    rw [← ht]
    show Int.gcd (aN * b1 + bN * a1) a1 = 1
    rw [Int.mul_comm bN, Int.gcd_add_mul_left_left]
    show Nat.gcd (aN * b1).natAbs a1.natAbs = 1
    rw [Int.natAbs_mul]
    exact Nat.Coprime.mul_left ca1 c1.symm
  have ct2 : Nat.Coprime t.natAbs b1.natAbs := by
    rw [← ht]
    show Int.gcd (aN * b1 + bN * a1) b1 = 1
    rw [Int.add_comm, Int.mul_comm aN, Int.gcd_add_mul_left_left]
    show Nat.gcd (bN * a1).natAbs b1.natAbs = 1
    rw [Int.natAbs_mul]
    exact Nat.Coprime.mul_left cb1 c1
  rw [ht] at hr ⊢
  have hr' : r = Nat.gcd t.natAbs g := by
    rw [hr, Nat.gcd_comm g, ← Nat.gcd_rec, Nat.gcd_comm]
  have hgr : Nat.gcd t.natAbs (g * (a1.natAbs * b1.natAbs)) = r := by
    rw [hr', Nat.mul_comm g, Nat.Coprime.gcd_mul_left_cancel_right]
    exact (Nat.Coprime.mul_right ct1 ct2).symm
  have c5 := coprime_split (a := t.natAbs) (b := g * (a1.natAbs * b1.natAbs)) (.inr (Nat.mul_pos hg0 (Nat.mul_pos (by omega) (by omega))))
  rw [hgr] at c5
  obtain ⟨t', e3⟩ : (r : Int) ∣ t := Int.ofNat_dvd_left.2 (by rw [hr']; exact Nat.gcd_dvd_left _ _)
  obtain ⟨g', e4⟩ : r ∣ g := by rw [hr']; exact Nat.gcd_dvd_right _ _
  clear hr hr' hgr ct1 ct2
  have hrr : (r : Int) ≠ 0 := by omega
  subst e3
  have d2 : (g : Int) * (a1 * b1) = (r : Int) * ((g' : Int) * (a1 * b1)) := by rw [e4, Int.natCast_mul, Int.mul_assoc]
  have hg' : 0 < g' := by
    rcases Nat.eq_zero_or_pos g' with h | h
    · subst h; omega
    · exact h
  have hpos : 0 < (g' : Int) * (a1 * b1) := Int.mul_pos (by omega) (Int.mul_pos ha1 hb1)
  rw [e4, natAbs_cast_mul, Nat.mul_div_cancel_left _ hr0, Nat.mul_assoc, Nat.mul_div_cancel_left _ hr0] at c5
  rw [d2, Int.mul_tdiv_cancel_left _ hrr, Int.mul_tdiv_cancel_left _ hrr]
  refine ⟨hg0, hr0, hpos, ?_, ?_⟩
  · rw [Int.natAbs_mul, Int.natAbs_mul, Int.natAbs_natCast]
    exact c5
  · rw [Rat.divInt_add_divInt _ _ (by omega) (by omega), n1, d1, ht, Rat.divInt_mul_left hg, d2, Rat.divInt_mul_left hrr]

end Fr
end Go.Proofs.Ytojkaaglmdfcnaa
