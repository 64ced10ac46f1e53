/- Words of bits as natural numbers: exclusive or is linear; ones, syndrome, the places of data bits. -/
import Derived.Lib.TrailingZeros
namespace Go.Proofs.YteikmbcfiabffaaDoor
namespace Hm

theorem xor_two_pow {b n : Nat} (h : b < 2 ^ n) : b ^^^ 2 ^ n = b + 2 ^ n := by
  apply Nat.eq_of_testBit_eq
  intro i
  rw [Nat.testBit_xor, Nat.testBit_two_pow, Nat.add_comm]
  rcases Nat.lt_trichotomy i n with hi | hi | hi
  · rw [Nat.testBit_two_pow_add_gt hi]
    simp [show ¬ n = i by omega]
  · subst hi
    rw [Nat.testBit_two_pow_add_eq]
    simp
  · have h1 : 2 ^ n + b < 2 ^ i := by
      have : 2 ^ (n + 1) ≤ 2 ^ i := Nat.pow_le_pow_right (by decide) hi
      rw [Nat.pow_succ] at this
      omega
    rw [Nat.testBit_lt_two_pow h1, Nat.testBit_lt_two_pow (Nat.lt_of_lt_of_le h (by omega))]
    simp [show ¬ n = i by omega]

/-- What holds of 0 and of the powers of 2, and is kept by exclusive or, holds of all. -/
theorem lin_ind {p : Nat → Prop} (h0 : p 0) (hx : ∀ a b, p a → p b → p (a ^^^ b)) : ∀ {n : Nat}, (∀ i, i < n → p (2 ^ i)) → ∀ a, a < 2 ^ n → p a
  | 0, _, a, ha => by
    obtain rfl : a = 0 := by simpa using ha
    exact h0
  | n + 1, hb, a, ha => by
    have ih := lin_ind h0 hx (n := n) (fun i hi => hb i (by omega))
    by_cases hlt : a < 2 ^ n
    · exact ih a hlt
    · rw [Nat.pow_succ] at ha
      have e : (a - 2 ^ n) ^^^ 2 ^ n = a := by rw [xor_two_pow (by omega)]; omega
      rw [← e]
      exact hx _ _ (ih _ (by omega)) (hb n (by omega))

/-- The exclusive or of the positions below n at which a word has a 1. -/
def syn : Nat → Nat → Nat
  | 0, _ => 0
  | n + 1, w => if w.testBit n then syn n w ^^^ n else syn n w
/-- The number of ones below n. -/
def ones : Nat → Nat → Nat
  | 0, _ => 0
  | n + 1, w => if w.testBit n then ones n w + 1 else ones n w

theorem syn_zero : ∀ n, syn n 0 = 0
  | 0 => rfl
  | n + 1 => by simp [syn, syn_zero n]
theorem ones_zero : ∀ n, ones n 0 = 0
  | 0 => rfl
  | n + 1 => by simp [ones, ones_zero n]
theorem ones_le : ∀ n w, ones n w ≤ n
  | 0, _ => Nat.le_refl _
  | n + 1, w => by
    have := ones_le n w
    unfold ones
    split <;> omega

theorem syn_xor : ∀ n a b, syn n (a ^^^ b) = syn n a ^^^ syn n b
  | 0, _, _ => by simp [syn]
  | n + 1, a, b => by
    unfold syn
    rw [Nat.testBit_xor, syn_xor n a b]
    cases a.testBit n <;> cases b.testBit n <;> simp
    · ac_rfl
    · ac_rfl
    · rw [show syn n a ^^^ n ^^^ (syn n b ^^^ n) = syn n a ^^^ syn n b ^^^ (n ^^^ n) by ac_rfl, Nat.xor_self, Nat.xor_zero]
theorem ones_xor : ∀ n a b, ones n (a ^^^ b) % 2 = (ones n a + ones n b) % 2
  | 0, _, _ => rfl
  | n + 1, a, b => by
    have := ones_xor n a b
    unfold ones
    rw [Nat.testBit_xor]
    cases a.testBit n <;> cases b.testBit n <;> simp <;> omega

theorem syn_pow : ∀ n i, syn n (2 ^ i) = if i < n then i else 0
  | 0, i => by simp [syn]
  | n + 1, i => by
    unfold syn
    rw [Nat.testBit_two_pow, syn_pow n i]
    by_cases h : i = n
    · subst h; simp
    · by_cases h2 : i < n
      · simp [h, h2, show i < n + 1 by omega]
      · simp [h, h2, show ¬ i < n + 1 by omega]
theorem ones_pow : ∀ n i, ones n (2 ^ i) = if i < n then 1 else 0
  | 0, i => by simp [ones]
  | n + 1, i => by
    unfold ones
    rw [Nat.testBit_two_pow, ones_pow n i]
    by_cases h : i = n
    · subst h; simp
    · by_cases h2 : i < n
      · simp [h, h2, show i < n + 1 by omega]
      · simp [h, h2, show ¬ i < n + 1 by omega]

theorem syn_lt (n w : Nat) (h : n ≤ 64) : syn n w < 64 := by
  induction n with
  | zero => simp [syn]
  | succ n ih =>
    unfold syn
    split
    · exact Nat.xor_lt_two_pow (n := 6) (ih (by omega)) (by omega)
    · exact ih (by omega)

/-- Nothing below n: no ones. -/
theorem ones_eq_zero : ∀ n w, ones n w = 0 → ∀ i, i < n → w.testBit i = false
  | 0, _, _, _, hi => by omega
  | n + 1, w, h, i, hi => by
    unfold ones at h
    cases hb : w.testBit n with
    | true => simp [hb] at h
    | false =>
      simp [hb] at h
      rcases Nat.lt_or_ge i n with h' | h'
      · exact ones_eq_zero n w h i h'
      · obtain rfl : i = n := by omega
        exact hb
theorem zero_of_bits {n w : Nat} (hw : w < 2 ^ n) (h : ∀ i, i < n → w.testBit i = false) : w = 0 := by
  apply Nat.eq_of_testBit_eq
  intro i
  rw [Nat.zero_testBit]
  rcases Nat.lt_or_ge i n with h' | h'
  · exact h i h'
  · exact Nat.testBit_lt_two_pow (Nat.lt_of_lt_of_le hw (Nat.pow_le_pow_right (by decide) h'))
/-- Two ones: two different positions. -/
theorem ones_one : ∀ n w, ones n w = 1 → ∃ a, a < n ∧ ∀ i, i < n → w.testBit i = decide (a = i)
  | 0, _, h => by simp [ones] at h
  | n + 1, w, h => by
    unfold ones at h
    cases hb : w.testBit n with
    | true =>
      simp [hb] at h
      refine ⟨n, by omega, fun i hi => ?_⟩
      by_cases he : n = i
      · subst he; simp [hb]
      · simp [he, ones_eq_zero n w h i (by omega)]
    | false =>
      simp [hb] at h
      obtain ⟨a, ha, hall⟩ := ones_one n w h
      refine ⟨a, by omega, fun i hi => ?_⟩
      rcases Nat.lt_or_ge i n with h' | h'
      · exact hall i h'
      · obtain rfl : i = n := by omega
        simp [hb, show ¬ a = i by omega]
theorem ones_two : ∀ n w, ones n w = 2 → ∃ a b, a < n ∧ b < n ∧ a ≠ b ∧ ∀ i, i < n → w.testBit i = (decide (a = i) ^^ decide (b = i))
  | 0, _, h => by simp [ones] at h
  | n + 1, w, h => by
    unfold ones at h
    cases hb : w.testBit n with
    | true =>
      simp [hb] at h
      obtain ⟨a, ha, hall⟩ := ones_one n w h
      refine ⟨a, n, by omega, by omega, by omega, fun i hi => ?_⟩
      rcases Nat.lt_or_ge i n with h' | h'
      · simp [hall i h', show ¬ n = i by omega]
      · obtain rfl : i = n := by omega
        simp [hb, show ¬ a = i by omega]
    | false =>
      simp [hb] at h
      obtain ⟨a, b, ha, hb', hab, hall⟩ := ones_two n w h
      refine ⟨a, b, by omega, by omega, hab, fun i hi => ?_⟩
      rcases Nat.lt_or_ge i n with h' | h'
      · exact hall i h'
      · obtain rfl : i = n := by omega
        simp [hb, show ¬ a = i by omega, show ¬ b = i by omega]
theorem eq_pows {n w a b : Nat} (hw : w < 2 ^ n) (ha : a < n) (hb : b < n) (h : ∀ i, i < n → w.testBit i = (decide (a = i) ^^ decide (b = i))) : w = 2 ^ a ^^^ 2 ^ b := by
  apply Nat.eq_of_testBit_eq
  intro i
  rw [Nat.testBit_xor, Nat.testBit_two_pow, Nat.testBit_two_pow]
  rcases Nat.lt_or_ge i n with h' | h'
  · exact h i h'
  · rw [Nat.testBit_lt_two_pow (Nat.lt_of_lt_of_le hw (Nat.pow_le_pow_right (by decide) h'))]
    simp [show ¬ a = i by omega, show ¬ b = i by omega]

/-- A gap is opened at a position. -/
def gap (p w : Nat) : Nat := (w / 2 ^ p) <<< (p + 1) ^^^ w % 2 ^ p
/-- A position is taken out. -/
def shut (p w : Nat) : Nat := (w / 2 ^ (p + 1)) <<< p ^^^ w % 2 ^ p
theorem gap_xor (p a b : Nat) : gap p (a ^^^ b) = gap p a ^^^ gap p b := by
  unfold gap
  rw [Nat.xor_div_two_pow, Nat.xor_mod_two_pow, Nat.shiftLeft_xor_distrib]
  ac_rfl
theorem shut_xor (p a b : Nat) : shut p (a ^^^ b) = shut p a ^^^ shut p b := by
  unfold shut
  rw [Nat.xor_div_two_pow, Nat.xor_mod_two_pow, Nat.shiftLeft_xor_distrib]
  ac_rfl
theorem gap_zero (p : Nat) : gap p 0 = 0 := by simp [gap]
theorem shut_zero (p : Nat) : shut p 0 = 0 := by simp [shut]

def spread (d : Nat) : Nat := gap 32 (gap 16 (gap 8 (gap 4 (gap 2 (gap 1 (gap 0 d))))))
def gather (w : Nat) : Nat := shut 26 (shut 11 (shut 4 (shut 1 (shut 0 (shut 0 (shut 0 w))))))
theorem spread_xor (a b : Nat) : spread (a ^^^ b) = spread a ^^^ spread b := by
  unfold spread
  simp only [gap_xor]
theorem gather_xor (a b : Nat) : gather (a ^^^ b) = gather a ^^^ gather b := by
  unfold gather
  simp only [shut_xor]
theorem spread_zero : spread 0 = 0 := by simp [spread, gap_zero]
theorem gather_zero : gather 0 = 0 := by simp [gather, shut_zero]

/-- The places of the data bits. -/
def places : List Nat := [3, 5, 6, 7, 9, 10, 11, 12, 13, 14, 15, 17, 18, 19, 20, 21, 22, 23, 24, 25, 26, 27, 28, 29, 30, 31, 33, 34, 35, 36, 37, 38, 39, 40, 41, 42, 43, 44, 45, 46, 47, 48, 49, 50, 51, 52, 53, 54, 55, 56, 57, 58, 59, 60, 61, 62, 63]
def place (i : Nat) : Nat := places.getD i 0

theorem spread_pow : ∀ i, i < 57 → spread (2 ^ i) = 2 ^ place i := by decide +kernel
theorem gather_place : ∀ i, i < 57 → gather (2 ^ place i) = 2 ^ i := by decide +kernel
theorem place_lt : ∀ i, i < 57 → place i < 64 := by decide +kernel
theorem place_inj : ∀ i, i < 57 → ∀ j, j < 57 → place i = place j → i = j := by decide +kernel
theorem gather_check : ∀ k, k < 6 → gather (2 ^ 2 ^ k) = 0 := by decide +kernel
theorem gather_one : gather 1 = 0 := by decide +kernel

theorem gather_spread {d : Nat} (h : d < 2 ^ 57) : gather (spread d) = d :=
  lin_ind (p := fun d => gather (spread d) = d) (by rw [spread_zero, gather_zero]) (fun a b ha hb => by simp only [spread_xor, gather_xor, ha, hb]) (fun i hi => by simp only [spread_pow i hi, gather_place i hi]) d h
theorem spread_lt {d : Nat} (h : d < 2 ^ 57) : spread d < 2 ^ 64 :=
  lin_ind (p := fun d => spread d < 2 ^ 64) (by rw [spread_zero]; decide) (fun a b ha hb => by simp only [spread_xor]; exact Nat.xor_lt_two_pow ha hb) (fun i hi => by simp only [spread_pow i hi]; exact Nat.pow_lt_pow_right (by decide) (place_lt i hi)) d h
theorem gather_lt {w : Nat} (h : w < 2 ^ 64) : gather w < 2 ^ 57 :=
  lin_ind (p := fun w => gather w < 2 ^ 57) (by rw [gather_zero]; decide) (fun a b ha hb => by simp only [gather_xor]; exact Nat.xor_lt_two_pow ha hb) (by decide +kernel) w h
theorem spread_testBit {d i : Nat} (h : d < 2 ^ 57) (hi : i < 57) : (spread d).testBit (place i) = d.testBit i :=
  lin_ind (p := fun d => (spread d).testBit (place i) = d.testBit i) (by simp [spread_zero]) (fun a b ha hb => by simp only [spread_xor, Nat.testBit_xor, ha, hb]) (fun j hj => by
    simp only [spread_pow j hj, Nat.testBit_two_pow, decide_eq_decide]
    exact ⟨fun h => place_inj j hj i hi h, fun h => by rw [h]⟩) d h
theorem gather_testBit {w i : Nat} (h : w < 2 ^ 64) (hi : i < 57) : (gather w).testBit i = w.testBit (place i) :=
  lin_ind (p := fun w => (gather w).testBit i = w.testBit (place i)) (by simp [gather_zero]) (fun a b ha hb => by simp only [gather_xor, Nat.testBit_xor, ha, hb]) (fun j hj => (by decide +kernel : ∀ i, i < 57 → ∀ j, j < 64 → (gather (2 ^ j)).testBit i = (2 ^ j).testBit (place i)) i hi j hj) w h

end Hm
end Go.Proofs.YteikmbcfiabffaaDoor
