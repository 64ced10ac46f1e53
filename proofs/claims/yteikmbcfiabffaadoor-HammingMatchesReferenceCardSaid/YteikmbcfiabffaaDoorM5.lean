/- The reference's words, bit by bit. -/
import Derived.Test.YteikmbcfiabffaaDoorM3
namespace Go.Proofs.YteikmbcfiabffaaDoor
namespace Hm
set_option linter.unusedVariables false

def isPow (p : Nat) : Bool := p == 1 || p == 2 || p == 4 || p == 8 || p == 16 || p == 32
/-- How many positions up to p hold data bits. -/
def np : Nat → Nat
  | 0 => 0
  | p + 1 => np p + if isPow (p + 1) then 0 else 1
theorem np_63 : np 63 = 57 := by decide +kernel
theorem np_place : ∀ p, p < 63 → ∀ i, i < 57 → np p < i + 1 → np (p + 1) = i + 1 → p + 1 = place i := by decide +kernel

theorem or_pow {x p : Nat} (h : x.testBit p = false) : x ||| 2 ^ p = x ^^^ 2 ^ p := by
  apply Nat.eq_of_testBit_eq
  intro i
  rw [Nat.testBit_or, Nat.testBit_xor, Nat.testBit_two_pow]
  by_cases e : p = i
  · subst e; simp [h]
  · simp [e]
theorem mod_succ (x k : Nat) : x % 2 ^ (k + 1) = if x.testBit k then x % 2 ^ k ^^^ 2 ^ k else x % 2 ^ k := by
  rw [Nat.mod_pow_succ, Nat.testBit_eq_decide_div_mod_eq]
  have h2 : x / 2 ^ k % 2 = 0 ∨ x / 2 ^ k % 2 = 1 := by omega
  rcases h2 with h2 | h2 <;> rw [h2]
  · simp
  · simp [xor_two_pow (Nat.mod_lt x (Nat.two_pow_pos k))]

/-- The data bits of a word, one after the other. -/
def dat (x : Nat) : Nat → Nat
  | 0 => 0
  | k + 1 => if x.testBit (place k) then dat x k ||| 2 ^ k else dat x k
theorem dat_mod {x : Nat} (h : x < 2 ^ 64) : ∀ k, k ≤ 57 → dat x k = gather x % 2 ^ k
  | 0, _ => by rw [Nat.pow_zero, Nat.mod_one]; rfl
  | k + 1, hk => by
    rw [dat, dat_mod h k (by omega), mod_succ, gather_testBit h (by omega), or_pow]
    exact Nat.testBit_lt_two_pow (Nat.mod_lt _ (Nat.two_pow_pos k))
theorem dat_all {x : Nat} (h : x < 2 ^ 64) : dat x 57 = gather x := by
  rw [dat_mod h 57 (Nat.le_refl _)]
  exact Nat.mod_eq_of_lt (gather_lt h)
theorem dat_lt {x : Nat} : ∀ k, dat x k < 2 ^ k
  | 0 => by simp [dat]
  | k + 1 => by
    have := dat_lt (x := x) k
    unfold dat
    split
    · exact Nat.or_lt_two_pow (by rw [Nat.pow_succ]; omega) (Nat.pow_lt_pow_right (by decide) (by omega))
    · rw [Nat.pow_succ]; omega

/-- Data bits spread over a word, one after the other. -/
def spr (d : Nat) : Nat → Nat
  | 0 => 0
  | k + 1 => if d.testBit k then spr d k ||| 2 ^ place k else spr d k
theorem spr_mod (d : Nat) : ∀ k, k ≤ 57 → spr d k = spread (d % 2 ^ k)
  | 0, _ => by rw [Nat.pow_zero, Nat.mod_one, spread_zero]; rfl
  | k + 1, hk => by
    have hm : d % 2 ^ k < 2 ^ k := Nat.mod_lt _ (Nat.two_pow_pos k)
    have h57 : d % 2 ^ k < 2 ^ 57 := Nat.lt_of_lt_of_le hm (Nat.pow_le_pow_right (by decide) (by omega))
    rw [spr, spr_mod d k (by omega), mod_succ]
    split
    · rw [spread_xor, spread_pow k (by omega), or_pow]
      rw [spread_testBit h57 (by omega)]
      exact Nat.testBit_lt_two_pow hm
    · rfl
theorem spr_all {d : Nat} (h : d < 2 ^ 57) : spr d 57 = spread d := by
  rw [spr_mod d 57 (Nat.le_refl _), Nat.mod_eq_of_lt h]
theorem spr_lt (d : Nat) : ∀ k, k ≤ 57 → spr d k < 2 ^ 64
  | 0, _ => by simp [spr]
  | k + 1, hk => by
    have := spr_lt d k (by omega)
    unfold spr
    split
    · exact Nat.or_lt_two_pow this (Nat.pow_lt_pow_right (by decide) (place_lt k (by omega)))
    · exact this

/-- The parity bits for a syndrome, one after the other. -/
def fixTo (s : Nat) : Nat → Nat
  | 0 => 0
  | k + 1 => if s.testBit k then fixTo s k ^^^ 2 ^ 2 ^ k else fixTo s k
def six' (w s : Nat) : Nat → Nat
  | 0 => w
  | k + 1 => if s.testBit k then six' w s k ||| 2 ^ 2 ^ k else six' w s k
theorem fixTo_bit : ∀ s, s < 64 → ∀ k, k < 6 → (fixTo s k).testBit (2 ^ k) = false := by decide +kernel
theorem fixTo_all : ∀ s, s < 64 → fixTo s 6 = fix s := by decide +kernel
theorem spread_pows {d k : Nat} (h : d < 2 ^ 57) (hk : k < 6) : (spread d).testBit (2 ^ k) = false :=
  lin_ind (p := fun d => (spread d).testBit (2 ^ k) = false) (by simp [spread_zero]) (fun a b ha hb => by simp only [spread_xor, Nat.testBit_xor, ha, hb]; rfl)
    (fun i hi => (by decide +kernel : ∀ k, k < 6 → ∀ i, i < 57 → (spread (2 ^ i)).testBit (2 ^ k) = false) k hk i hi) d h
theorem six_xor {d s : Nat} (h : d < 2 ^ 57) (hs : s < 64) : ∀ k, k ≤ 6 → six' (spread d) s k = spread d ^^^ fixTo s k
  | 0, _ => by simp [six', fixTo]
  | k + 1, hk => by
    rw [six', fixTo, six_xor h hs k (by omega)]
    split
    · rw [or_pow, Nat.xor_assoc]
      rw [Nat.testBit_xor, spread_pows h (by omega), fixTo_bit s hs k (by omega)]; rfl
    · rfl
theorem six_all {d : Nat} (h : d < 2 ^ 57) : six' (spread d) (syn 64 (spread d)) 6 = six d := by
  rw [six_xor h (syn_lt _ _ (by decide)) 6 (Nat.le_refl _), fixTo_all _ (syn_lt _ _ (by decide))]; rfl
theorem six'_lt {w s : Nat} (h : w < 2 ^ 64) : ∀ k, k ≤ 6 → six' w s k < 2 ^ 64
  | 0, _ => h
  | k + 1, hk => by
    have := six'_lt (s := s) h k (by omega)
    unfold six'
    split
    · refine Nat.or_lt_two_pow this (Nat.pow_lt_pow_right (by decide) ?_)
      have : 2 ^ k ≤ 2 ^ 5 := Nat.pow_le_pow_right (by decide) (by omega)
      omega
    · exact this

end Hm
end Go.Proofs.YteikmbcfiabffaaDoor
