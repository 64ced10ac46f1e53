/- Widths and values of operations on bit vectors, as numbers. -/
import Derived.KernelRfl
namespace Go.Proofs.Ytjfijhchnchfcaa
namespace Bt
set_option linter.unusedVariables false

def mask (w : Int) : Int := if 0 ≤ w ∧ w ≤ 62 then 2 ^ w.toNat - 1 else 0
def isW (w : Int) : Bool := decide (1 ≤ w ∧ w ≤ 8)
def isV (v w : Int) : Bool := decide (0 ≤ v ∧ v ≤ mask w)
theorem mask_nat {k : Nat} (h : k ≤ 62) : mask (k : Int) = 2 ^ k - 1 := by
  unfold mask
  rw [if_pos (by omega)]
  simp
theorem mask_cast {k : Nat} (h : k ≤ 62) : mask (k : Int) = ((2 ^ k - 1 : Nat) : Int) := by
  rw [mask_nat h, Int.natCast_sub (Nat.two_pow_pos k)]
  simp
theorem pow_le {k n : Nat} (h : k ≤ n) : (2 : Nat) ^ k ≤ 2 ^ n := Nat.pow_le_pow_right (by decide) h
theorem mask_in (w : Int) : 0 ≤ mask w ∧ mask w < 4611686018427387904 := by
  by_cases h : 0 ≤ w ∧ w ≤ 62
  · obtain ⟨k, rfl⟩ := Int.eq_ofNat_of_zero_le h.1
    rw [mask_cast (by omega)]
    have h1 : 2 ^ k ≤ 2 ^ 62 := pow_le (by omega)
    have h2 : (2 : Nat) ^ 62 = 4611686018427387904 := by decide
    have : 0 < 2 ^ k := Nat.two_pow_pos k
    omega
  · unfold mask
    rw [if_neg h]
    omega
theorem mask_out {w : Int} (h : ¬ (0 ≤ w ∧ w ≤ 62)) : mask w = 0 := if_neg h

/-- How many arguments an operator has. -/
def arity (op : Nat) : Nat := match op with
  | 1 => 0
  | 2 | 12 | 13 => 1
  | 10 => 3
  | _ => 2
/-- The width of the result, of arguments that have widths and are as many as wanted; no width unless the operation is valid. -/
def raw (op : Nat) (ws : List Int) (k w : Int) : Int := match op, ws with
  | 1, [] => if 0 ≤ k ∧ k ≤ mask w then w else 0
  | 2, [a] => a
  | 3, [a, b] | 4, [a, b] | 5, [a, b] | 6, [a, b] | 7, [a, b] => if b = a then a else 0
  | 8, [a, b] | 9, [a, b] => if b = a then 1 else 0
  | 10, [a, b, c] => if a = 1 ∧ b = c then b else 0
  | 11, [a, b] => a + b
  | 12, [a] => if 0 ≤ k ∧ k ≤ a - w then w else 0
  | 13, [a] => if a ≤ w then w else 0
  | _, _ => 0
def wid (op : Int) (ws : List Int) (k w : Int) : Int := if ws.all isW && isW (raw op.toNat ws k w) then raw op.toNat ws k w else 0
def err (r : Int) : Int := if r = 0 then 1 else 0

/-- The value of a valid operation. -/
def val (op : Nat) (ws : List Int) (k w : Int) (vs : List Nat) : Nat := match op, ws, vs with
  | 1, _, _ => k.toNat
  | 2, [a], [x] => 2 ^ a.toNat - 1 - x
  | 3, _, [x, y] => x &&& y
  | 4, _, [x, y] => x ||| y
  | 5, _, [x, y] => x ^^^ y
  | 6, a :: _, [x, y] => (x + y) % 2 ^ a.toNat
  | 7, a :: _, [x, y] => (x + 2 ^ a.toNat - y) % 2 ^ a.toNat
  | 8, _, [x, y] => if x = y then 1 else 0
  | 9, _, [x, y] => if x < y then 1 else 0
  | 10, _, [c, x, y] => if c = 1 then x else y
  | 11, [a, b], [x, y] => x * 2 ^ b.toNat + y
  | 12, _, [x] => x / 2 ^ k.toNat % 2 ^ w.toNat
  | 13, _, [x] => x
  | _, _, _ => 0

end Bt
end Go.Proofs.Ytjfijhchnchfcaa
