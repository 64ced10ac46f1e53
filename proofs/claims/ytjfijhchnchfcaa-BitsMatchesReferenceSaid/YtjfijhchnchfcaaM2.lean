/- Numbers and their bits. -/
import Derived.KernelRfl
namespace Go.Proofs.Ytjfijhchnchfcaa
namespace Bt
set_option linter.unusedVariables false

/-- A bit as a number. -/
def bt (b : Bool) : Nat := if b then 1 else 0
/-- The number with these bits, the lowest one first. -/
def jo : List Bool → Nat
  | [] => 0
  | b :: t => bt b + 2 * jo t
theorem jo_lt : ∀ l : List Bool, jo l < 2 ^ l.length
  | [] => by decide
  | b :: t => by
    have := jo_lt t
    have h1 : bt b ≤ 1 := by cases b <;> decide
    simp only [jo, List.length_cons, Nat.pow_succ]
    omega
theorem jo_snoc : ∀ (l : List Bool) (b : Bool), jo (l ++ [b]) = jo l + bt b * 2 ^ l.length
  | [], b => by simp [jo]
  | a :: t, b => by
    have := jo_snoc t b
    simp only [List.cons_append, jo, this, List.length_cons, Nat.pow_succ]
    have e : bt b * (2 ^ t.length * 2) = 2 * (bt b * 2 ^ t.length) := by rw [← Nat.mul_assoc, Nat.mul_comm _ 2]
    rw [e]
    omega
theorem jo_or (l : List Bool) (b : Bool) : jo l ||| bt b * 2 ^ l.length = jo (l ++ [b]) := by
  rw [jo_snoc, Nat.or_comm, Nat.mul_comm, Nat.add_comm]
  exact (Nat.two_pow_add_eq_or_of_lt (jo_lt l) (bt b)).symm
theorem jo_bit : ∀ (l : List Bool) (i : Nat), (jo l).testBit i = l[i]?.getD false
  | [], i => by simp [jo]
  | b :: t, 0 => by
    have e : jo (b :: t) % 2 = bt b := by
      show (bt b + 2 * jo t) % 2 = bt b
      cases b <;> simp [bt] <;> omega
    rw [Nat.testBit_zero]
    simp only [e]
    cases b <;> rfl
  | b :: t, i + 1 => by
    have e : jo (b :: t) / 2 = jo t := by
      show (bt b + 2 * jo t) / 2 = jo t
      cases b <;> simp [bt] <;> omega
    rw [Nat.testBit_succ, e]
    exact jo_bit t i
/-- The n lowest bits of any int. -/
def spl (v : Int) (n : Nat) : List Bool := (List.range n).map fun i => decide (v / 2 ^ i % 2 = 1)
theorem spl_length (v : Int) (n : Nat) : (spl v n).length = n := by simp [spl]
theorem spl_succ (v : Int) (n : Nat) : spl v (n + 1) = spl v n ++ [decide (v / 2 ^ n % 2 = 1)] := by
  simp [spl, List.range_succ]
theorem spl_get (v : Int) (n i : Nat) (h : i < n) : (spl v n)[i]? = some (decide (v / 2 ^ i % 2 = 1)) := by
  simp [spl, h]
theorem spl_nat (x n : Nat) : spl (x : Int) n = (List.range n).map x.testBit := by
  unfold spl
  refine List.map_congr_left fun i _ => ?_
  have e : (x : Int) / 2 ^ i % 2 = ((x / 2 ^ i % 2 : Nat) : Int) := by simp
  rw [e, Nat.testBit_eq_decide_div_mod_eq]
  by_cases h : x / 2 ^ i % 2 = 1
  · rw [h]; rfl
  · rw [decide_eq_false h, decide_eq_false (by omega)]
theorem jo_spl {x n : Nat} (h : x < 2 ^ n) : jo (spl (x : Int) n) = x := by
  refine Nat.eq_of_testBit_eq fun i => ?_
  rw [jo_bit, spl_nat]
  by_cases hi : i < n
  · simp [hi]
  · rw [Nat.testBit_lt_two_pow (Nat.lt_of_lt_of_le h (Nat.pow_le_pow_right (by decide) (by omega)))]
    simp [hi]
def joi (l : List Bool) : Nat := jo (l.take 62)
theorem joi_lt (l : List Bool) : joi l < 4611686018427387904 := by
  have h := jo_lt (l.take 62)
  have h2 : 2 ^ (l.take 62).length ≤ 2 ^ 62 := Nat.pow_le_pow_right (by decide) (by rw [List.length_take]; omega)
  unfold joi
  have h3 : (2 : Nat) ^ 62 = 4611686018427387904 := by decide
  omega
theorem joi_small {l : List Bool} (h : l.length ≤ 62) : joi l = jo l := by unfold joi; rw [List.take_of_length_le h]

end Bt
end Go.Proofs.Ytjfijhchnchfcaa
