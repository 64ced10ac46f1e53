/- One position inverted; positions that differ; the parity of a word. -/
import Derived.Test.YteikmbcfiabffaaDoorW1
namespace Go.Proofs.YteikmbcfiabffaaDoor
open Go.RowKit Go.Shelf
namespace Hm
set_option linter.unusedVariables false

/-- The bit at a position inverted, or the word itself. -/
def flip (x : Nat) (i : Int) : Nat := if 0 ≤ i ∧ i < 64 then x ^^^ 2 ^ i.toNat else x
theorem flip_lt {x : Nat} (i : Int) (h : x < 18446744073709551616) : flip x i < 18446744073709551616 := by
  unfold flip
  split
  · exact Nat.xor_lt_two_pow (n := 64) h (pow_lt (by omega))
  · exact h
theorem flip_nat (x : Nat) {k : Nat} (h : k < 64) : flip x (k : Int) = x ^^^ 2 ^ k := by
  unfold flip
  rw [if_pos (by omega)]; rfl

theorem flip_in (x k : Nat) (w : World) (hx : x < 18446744073709551616) (hk : k < 64) :
    Calls Tryd.prog 13 #[.int .u64 (x : Int), .int .i64 (k : Int)] w fun e w' => e = .returned (.int .u64 ((x ^^^ 2 ^ k : Nat) : Int)) ∧ w = w' := by
  have k1 : IntKind.u64.wrap (2 ^ k) = ((2 ^ k : Nat) : Int) := wrap_u64_of (by simp) (pow_lt hk)
  have k2 : bits .xor .u64 (x : Int) ((2 ^ k : Nat) : Int) = ((x ^^^ 2 ^ k : Nat) : Int) := bits_xor_u64_nat x _ hx (pow_lt hk)
  have h1 : decide ((k : Int) < 0) = false := by simp
  have h2 : decide (64 ≤ (k : Int)) = false := by simp; omega
  generalize x ^^^ 2 ^ k = r at *
  generalize ((2 ^ k : Nat) : Int) = p at *
  go_enter Tryd.func13, Tryd.ntmps13
  go_wp2
  go_ret
  exact ⟨rfl, rfl⟩
theorem flip_out (x : Nat) (i : Int) (w : World) (hi : i < 0 ∨ 64 ≤ i) :
    Calls Tryd.prog 13 #[.int .u64 (x : Int), .int .i64 i] w fun e w' => e = .returned (.int .u64 (x : Int)) ∧ w = w' := by
  by_cases h : i < 0
  · go_enter Tryd.func13, Tryd.ntmps13
    go_wp2
    go_ret
    exact ⟨rfl, rfl⟩
  · have h2 : 64 ≤ i := by omega
    go_enter Tryd.func13, Tryd.ntmps13
    go_wp2
    go_ret
    exact ⟨rfl, rfl⟩
theorem flip_any (x : Nat) (i : Int) (w : World) (hx : x < 18446744073709551616) :
    Calls Tryd.prog 13 #[.int .u64 (x : Int), .int .i64 i] w fun e w' => e = .returned (.int .u64 (flip x i : Int)) ∧ w = w' := by
  unfold flip
  by_cases h : 0 ≤ i ∧ i < 64
  · obtain ⟨k, rfl⟩ := Int.eq_ofNat_of_zero_le h.1
    rw [if_pos h]
    exact flip_in x k w hx (by omega)
  · rw [if_neg h]
    exact flip_out x i w (by omega)

theorem distance_any (x y : Nat) (w : World) (hx : x < 18446744073709551616) (hy : y < 18446744073709551616) :
    Calls Tryd.prog 15 #[.int .u64 (x : Int), .int .u64 (y : Int)] w fun e w' => e = .returned (.int .i64 (pop (x ^^^ y) : Int)) ∧ w = w' := by
  have k2 := bits_xor_u64_nat x y hx hy
  have hl : x ^^^ y < 18446744073709551616 := Nat.xor_lt_two_pow (n := 64) hx hy
  generalize x ^^^ y = r at *
  have HC := Lib.hid (fun W => count_any r W hl)
  clear hl hx hy
  go_enter Tryd.func15, Tryd.ntmps15
  go_wp2_with fail
  refine (HC.out _).mono ?_
  rintro e w' ⟨rfl, rfl⟩
  go_wp2
  go_ret
  exact ⟨rfl, rfl⟩

theorem parity_any (x : Nat) (w : World) (hx : x < 18446744073709551616) :
    Calls Tryd.prog 27 #[.int .u64 (x : Int)] w fun e w' => e = .returned (.int .u64 ((pop x % 2 : Nat) : Int)) ∧ w = w' := by
  have hl := pop_le x
  have HC := Lib.hid (fun W => count_any x W hx)
  clear hx
  generalize pop x = n at *
  obtain ⟨r, hr⟩ : ∃ r, n % 2 = r := ⟨_, rfl⟩
  have e1 : (n : Int) % 2 = (r : Int) := by omega
  have e2 : IntKind.u64.wrap (r : Int) = (r : Int) := wrap_u64_of rfl (by omega)
  rw [hr]
  clear hr
  go_enter Tryd.func27, Tryd.ntmps27
  go_wp2_with fail
  refine (HC.out _).mono ?_
  rintro e w' ⟨rfl, rfl⟩
  go_wp2
  go_ret
  exact ⟨rfl, rfl⟩

end Hm
end Go.Proofs.YteikmbcfiabffaaDoor
