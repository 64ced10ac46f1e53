/- Numbers as lists of bits, the least significant one first. -/
import Derived.Lib.Hide
namespace Go.Proofs.Ytojkaaglmdfcnaa
namespace Fr
set_option linter.unusedVariables false

/-- The bit i of a number. -/
def bt (n i : Nat) : Nat := n / 2 ^ i % 2
/-- Its first k bits. -/
def bl (n k : Nat) : List Int := (List.range k).map fun j => (bt n j : Int)
/-- k bits are enough, and no fewer. -/
def Tight (n k : Nat) : Prop := n < 2 ^ k ∧ (k = 0 ∨ 2 ^ (k - 1) ≤ n)

theorem bt_lt (n i : Nat) : bt n i < 2 := Nat.mod_lt _ (by decide)
theorem bt_high {n i : Nat} (h : n < 2 ^ i) : bt n i = 0 := by unfold bt; rw [Nat.div_eq_of_lt h]
theorem bl_length (n k : Nat) : (bl n k).length = k := by simp [bl]
theorem bl_succ (n k : Nat) : bl n (k + 1) = bl n k ++ [(bt n k : Int)] := by simp [bl, List.range_succ]
theorem bl_get {n k j : Nat} (h : j < k) : (bl n k)[j]? = some (bt n j : Int) := by simp [bl, h]
theorem bl_take (n : Nat) {k m : Nat} (h : m ≤ k) : (bl n k).take m = bl n m := by
  unfold bl
  rw [← List.map_take, List.take_range, Nat.min_eq_left h]
theorem bt_double (n j : Nat) : bt (2 * n) (j + 1) = bt n j := by
  unfold bt
  rw [Nat.pow_succ, Nat.mul_comm (2 ^ j), ← Nat.div_div_eq_div_mul, Nat.mul_div_cancel_left _ (by decide)]
theorem bl_double (n k : Nat) : bl (2 * n) (k + 1) = 0 :: bl n k := by
  unfold bl
  rw [List.range_succ_eq_map, List.map_cons, List.map_map]
  have h0 : bt (2 * n) 0 = 0 := by unfold bt; rw [Nat.pow_zero, Nat.div_one]; omega
  rw [h0]
  congr 1
  apply List.map_congr_left
  intro j _
  simp [bt_double]

theorem mod_bit (x i : Nat) : x % 2 ^ (i + 1) = x % 2 ^ i + bt x i * 2 ^ i := by rw [Nat.mod_pow_succ, bt, Nat.mul_comm]
theorem div_bit (x i : Nat) : x / 2 ^ i = 2 * (x / 2 ^ (i + 1)) + bt x i := by
  have : x / 2 ^ (i + 1) = x / 2 ^ i / 2 := by rw [Nat.pow_succ, Nat.div_div_eq_div_mul]
  unfold bt
  omega

/-- What is carried into position i of a sum. -/
def carry (x y i : Nat) : Nat := (x % 2 ^ i + y % 2 ^ i) / 2 ^ i
theorem carry_zero (x y : Nat) : carry x y 0 = 0 := by simp [carry, Nat.mod_one]
theorem carry_lt (x y i : Nat) : carry x y i < 2 := by
  have h : 0 < 2 ^ i := Nat.two_pow_pos i
  have h1 := Nat.mod_lt x h
  have h2 := Nat.mod_lt y h
  exact (Nat.div_lt_iff_lt_mul h).2 (by omega)
theorem plus_step (x y i : Nat) : bt x i + bt y i + carry x y i = bt (x + y) i + 2 * carry x y (i + 1) := by
  have h : 0 < 2 ^ i := Nat.two_pow_pos i
  have hp : 2 ^ (i + 1) = 2 ^ i * 2 := Nat.pow_succ ..
  obtain ⟨r, hr, hX⟩ : ∃ r, r < 2 ^ i ∧ x % 2 ^ i + y % 2 ^ i = r + carry x y i * 2 ^ i :=
    ⟨(x % 2 ^ i + y % 2 ^ i) % 2 ^ i, Nat.mod_lt _ h, by unfold carry; have := Nat.div_add_mod (x % 2 ^ i + y % 2 ^ i) (2 ^ i); rw [Nat.mul_comm] at this; omega⟩
  have e1 : x % 2 ^ (i + 1) + y % 2 ^ (i + 1) = r + (bt x i + bt y i + carry x y i) * 2 ^ i := by
    rw [mod_bit, mod_bit, Nat.add_mul, Nat.add_mul]; omega
  have e2 : carry x y (i + 1) = (bt x i + bt y i + carry x y i) / 2 := by
    rw [carry, e1, hp, ← Nat.div_div_eq_div_mul, Nat.add_mul_div_right _ _ h, Nat.div_eq_of_lt hr, Nat.zero_add]
  have e3 : x + y = r + (bt x i + bt y i + carry x y i) * 2 ^ i + (x / 2 ^ (i + 1) + y / 2 ^ (i + 1)) * 2 * 2 ^ i := by
    have hx := Nat.div_add_mod x (2 ^ (i + 1))
    have hy := Nat.div_add_mod y (2 ^ (i + 1))
    rw [Nat.mul_assoc, Nat.mul_comm 2 (2 ^ i), ← hp, Nat.add_mul (x / 2 ^ (i + 1)), Nat.mul_comm (x / 2 ^ (i + 1)), Nat.mul_comm (y / 2 ^ (i + 1))]
    omega
  have e4 : bt (x + y) i = (bt x i + bt y i + carry x y i) % 2 := by
    unfold bt at *
    rw [e3, Nat.add_mul_div_right _ _ h, Nat.add_mul_div_right _ _ h, Nat.div_eq_of_lt hr]
    omega
  rw [e2, e4]
  omega
theorem plus_lt {x y k l m : Nat} (hx : x < 2 ^ k) (hy : y < 2 ^ l) (hk : k ≤ m) (hl : l ≤ m) : x + y < 2 ^ (m + 1) := by
  have h1 : 2 ^ k ≤ 2 ^ m := Nat.pow_le_pow_right (by decide) hk
  have h2 : 2 ^ l ≤ 2 ^ m := Nat.pow_le_pow_right (by decide) hl
  rw [Nat.pow_succ]
  omega

/-- What is borrowed from position i of a difference. -/
def borrow (x y i : Nat) : Nat := if x % 2 ^ i < y % 2 ^ i then 1 else 0
theorem borrow_zero (x y : Nat) : borrow x y 0 = 0 := by simp [borrow, Nat.mod_one]
theorem borrow_lt (x y i : Nat) : borrow x y i < 2 := by unfold borrow; split <;> decide
theorem minus_step {x y : Nat} (hxy : y ≤ x) (i : Nat) : (bt x i : Int) - bt y i - borrow x y i = bt (x - y) i - 2 * borrow x y (i + 1) := by
  have h : 0 < 2 ^ i := Nat.two_pow_pos i
  -- x = (x - y) + y: the sum's carries are the difference's borrows
  have hc : ∀ j, carry (x - y) y j = borrow x y j := by
    intro j
    have hj : 0 < 2 ^ j := Nat.two_pow_pos j
    have h1 := Nat.mod_lt (x - y) hj
    have h2 := Nat.mod_lt y hj
    have e : x % 2 ^ j = ((x - y) % 2 ^ j + y % 2 ^ j) % 2 ^ j := by rw [← Nat.add_mod, Nat.sub_add_cancel hxy]
    unfold carry borrow
    rcases Nat.lt_or_ge ((x - y) % 2 ^ j + y % 2 ^ j) (2 ^ j) with hlt | hge
    · rw [Nat.mod_eq_of_lt hlt] at e
      rw [Nat.div_eq_of_lt hlt, if_neg (by omega)]
    · have e2 : ((x - y) % 2 ^ j + y % 2 ^ j) % 2 ^ j = (x - y) % 2 ^ j + y % 2 ^ j - 2 ^ j := by
        rw [Nat.mod_eq_sub_mod hge, Nat.mod_eq_of_lt (by omega)]
      rw [e2] at e
      rw [if_pos (by omega)]
      exact (Nat.div_eq_iff hj).2 ⟨by omega, by omega⟩
  have := plus_step (x - y) y i
  rw [Nat.sub_add_cancel hxy, hc, hc] at this
  omega

/-- Less, equal, greater. -/
def cmpN (x y : Nat) : Int := if x < y then -1 else if x = y then 0 else 1
theorem cmp_less {x y i : Nat} (h : x / 2 ^ (i + 1) = y / 2 ^ (i + 1)) (hb : bt x i ≠ bt y i) : (bt x i : Int) - bt y i = cmpN x y := by
  have hx := div_bit x i
  have hy := div_bit y i
  have h1 := bt_lt x i
  have h2 := bt_lt y i
  unfold cmpN
  rcases Nat.lt_or_ge (bt x i) (bt y i) with hlt | hge
  · have : x < y := by
      apply Nat.lt_of_not_le
      intro hle
      have := Nat.div_le_div_right (c := 2 ^ i) hle
      omega
    rw [if_pos this]; omega
  · have : y < x := by
      apply Nat.lt_of_not_le
      intro hle
      have := Nat.div_le_div_right (c := 2 ^ i) hle
      omega
    rw [if_neg (by omega), if_neg (by omega)]; omega
theorem cmp_same {x y i : Nat} (h : x / 2 ^ (i + 1) = y / 2 ^ (i + 1)) (hb : bt x i = bt y i) : x / 2 ^ i = y / 2 ^ i := by
  rw [div_bit x i, div_bit y i, h, hb]
theorem cmp_equal (x : Nat) : cmpN x x = 0 := by simp [cmpN]

theorem times_bit (x y i : Nat) : x * (y % 2 ^ (i + 1)) = x * (y % 2 ^ i) + bt y i * (x * 2 ^ i) := by
  rw [mod_bit, Nat.mul_add, ← Nat.mul_assoc, ← Nat.mul_assoc, Nat.mul_comm (bt y i) x]

/-- A step of a division, from the top. -/
theorem divide_step (n m i : Nat) (hm : 0 < m) : (2 * (n / 2 ^ (i + 1) % m) + bt n i < m → n / 2 ^ i % m = 2 * (n / 2 ^ (i + 1) % m) + bt n i ∧ bt (n / m) i = 0) ∧
    (m ≤ 2 * (n / 2 ^ (i + 1) % m) + bt n i → n / 2 ^ i % m = 2 * (n / 2 ^ (i + 1) % m) + bt n i - m ∧ bt (n / m) i = 1) := by
  have hb := bt_lt n i
  have hd := div_bit n i
  have hr := Nat.mod_lt (n / 2 ^ (i + 1)) hm
  have hq := Nat.div_add_mod (n / 2 ^ (i + 1)) m
  have hc : bt (n / m) i = n / 2 ^ i / m % 2 := by
    unfold bt
    rw [Nat.div_div_eq_div_mul, Nat.div_div_eq_div_mul, Nat.mul_comm]
  have e : n / 2 ^ i = (2 * (n / 2 ^ (i + 1) % m) + bt n i) + m * (2 * (n / 2 ^ (i + 1) / m)) := by
    rw [Nat.mul_left_comm]; omega
  rw [hc, e, Nat.add_mul_mod_self_left, Nat.add_mul_div_left _ _ hm]
  have hs : 2 * (n / 2 ^ (i + 1) % m) + bt n i < 2 * m := by omega
  clear e hc hq hd
  generalize n / 2 ^ (i + 1) / m = q
  generalize 2 * (n / 2 ^ (i + 1) % m) + bt n i = s at *
  clear hb hr
  refine ⟨fun h => ?_, fun h => ?_⟩
  · rw [Nat.mod_eq_of_lt h, Nat.div_eq_of_lt h]
    exact ⟨rfl, by omega⟩
  · have e1 : s / m = 1 := (Nat.div_eq_iff hm).2 ⟨by omega, by omega⟩
    have e2 : s % m = s - m := by rw [Nat.mod_eq_sub_mod h, Nat.mod_eq_of_lt (by omega)]
    rw [e1, e2]
    exact ⟨rfl, by omega⟩
theorem quotient_lt {n m k : Nat} (h : n < 2 ^ k) : n / m < 2 ^ k := Nat.lt_of_le_of_lt (Nat.div_le_self _ _) h
theorem top_zero {n k : Nat} (h : n < 2 ^ k) : n / 2 ^ k = 0 := Nat.div_eq_of_lt h

theorem tight_zero : Tight 0 0 := ⟨by decide, .inl rfl⟩
theorem Tight.zero {n k : Nat} (h : Tight n k) : n = 0 ↔ k = 0 := by
  obtain ⟨h1, h2⟩ := h
  constructor
  · intro e
    subst e
    rcases h2 with h2 | h2
    · exact h2
    · have := Nat.two_pow_pos (k - 1); omega
  · intro e
    subst e
    simpa using h1
theorem Tight.le {n k m : Nat} (h : Tight n k) (hn : n < 2 ^ m) : k ≤ m := by
  rcases h.2 with h2 | h2
  · omega
  · rcases Nat.lt_or_ge m k with hlt | hge
    · have : 2 ^ m ≤ 2 ^ (k - 1) := Nat.pow_le_pow_right (by decide) (by omega)
      omega
    · exact hge
theorem tight_drop {n k : Nat} (h : n < 2 ^ (k + 1)) (hb : bt n k = 0) : n < 2 ^ k := by
  unfold bt at hb
  have h1 : n / 2 ^ k < 2 := (Nat.div_lt_iff_lt_mul (Nat.two_pow_pos k)).2 (by rw [Nat.pow_succ] at h; omega)
  have h2 : n / 2 ^ k = 0 := by
    generalize n / 2 ^ k = z at *
    omega
  rcases Nat.div_eq_zero_iff.1 h2 with h3 | h3
  · have := Nat.two_pow_pos k; omega
  · exact h3
theorem tight_stop {n k : Nat} (h : n < 2 ^ (k + 1)) (hb : bt n k ≠ 0) : Tight n (k + 1) := by
  refine ⟨h, .inr ?_⟩
  rcases Nat.lt_or_ge n (2 ^ k) with hlt | hge
  · exact absurd (bt_high hlt) hb
  · simpa using hge

end Fr
end Go.Proofs.Ytojkaaglmdfcnaa
