/- The syndrome of a word; data bits spread over a word and gathered again. -/
import Derived.Test.YteikmbcfiabffaaDoorW2
namespace Go.Proofs.YteikmbcfiabffaaDoor
open Go.RowKit Go.Shelf
namespace Hm
set_option linter.unusedVariables false

/-- The package variables that the functions read hold what they were laid with. -/
structure Vars (w : World) : Prop where
  tab : TabAt 1 Lib.deBruijn64tab w
  chk : ∃ t fr, w.heap[0]? = some (.cells #[.int .i64 0, .int .i64 1, .int .i64 2, .int .i64 4, .int .i64 8, .int .i64 16, .int .i64 32] t fr)

theorem tz_any (x : Nat) (w : World) (hx : x < 18446744073709551616) (hv : Vars w) :
    Calls Tryd.prog 33 #[.int .u64 (x : Int)] w fun e w' => e = .returned (.int .i64 (Lib.ctz 64 x : Int)) ∧ w = w' := by
  refine (Any7.bits_TrailingZeros64 Tryd.lays29 x hx w (fun _ => hv.tab)).mono ?_
  rintro e w' ⟨rfl, rfl⟩
  exact ⟨rfl, rfl⟩

/-- The lowest 1 of a number taken away. -/
theorem low_off {r : Nat} (h0 : r ≠ 0) (h : r < 18446744073709551616) : r &&& (r - 1) = r ^^^ 2 ^ Lib.ctz 64 r ∧ Lib.ctz 64 r < 64 ∧ r &&& (r - 1) < r := by
  obtain ⟨m, hm, hk⟩ := Lib.ctzFrom_spec 64 r (by omega) h
  have e : Lib.ctz 64 r = Lib.ctzFrom 64 r := by simp [Lib.ctz, h0]
  rw [e]
  generalize Lib.ctzFrom 64 r = k at *
  refine ⟨?_, hk, Nat.lt_of_le_of_lt Nat.and_le_right (by omega)⟩
  have hp : 0 < 2 ^ k := Nat.two_pow_pos k
  have e1 : r = 2 ^ k * (2 * m + 1) + 0 := by omega
  have e2 : r - 1 = 2 ^ k * (2 * m) + (2 ^ k - 1) := by
    rw [hm, Nat.mul_add, Nat.mul_one]; omega
  rw [e2]
  apply Nat.eq_of_testBit_eq
  intro i
  rw [Nat.testBit_and, Nat.testBit_xor, Nat.testBit_two_pow, e1, Nat.testBit_two_pow_mul_add _ hp, Nat.testBit_two_pow_mul_add _ (by omega)]
  rcases Nat.lt_trichotomy i k with hi | hi | hi
  · simp [hi, show ¬ k = i by omega]
  · subst hi
    simp [Nat.testBit_zero]
  · obtain ⟨j, rfl⟩ : ∃ j, i = k + (j + 1) := ⟨i - k - 1, by omega⟩
    simp only [show ¬ k + (j + 1) < k by omega, if_false, show k + (j + 1) - k = j + 1 by omega, Nat.testBit_succ]
    rw [show 2 * m / 2 = m by omega, show (2 * m + 1) / 2 = m by omega]
    simp

theorem sy_off (r k : Nat) (hk : k < 64) : sy (r ^^^ 2 ^ k) = sy r ^^^ k := syn_flip r hk
theorem sy_zero : sy 0 = 0 := syn_zero 64

set_option maxHeartbeats 1000000 in
theorem syndrome_any (x : Nat) (w : World) (hx : x < 18446744073709551616) (hv : Vars w) :
    Calls Tryd.prog 28 #[.int .u64 (x : Int)] w fun e w' => e = .returned (.int .i64 (sy x : Int)) ∧ w = w' := by
  have HT := Lib.hid (fun (r : Nat) (h : r < 18446744073709551616) => tz_any r w h hv)
  have hs : sy x ^^^ sy x = 0 := Nat.xor_self _
  have HX := Lib.hid hx
  clear hx hv
  go_enter Tryd.func28, Tryd.ntmps28
  go_wp2
  go_loop [3, 4] (fun s t => ∃ r : Nat, Hid (r < 18446744073709551616) ∧ s = .int .i64 ((sy x ^^^ sy r : Nat) : Int) ∧ t = .int .u64 (r : Int)) (fun _ t => (intOf t).toNat)
  case atStart => exact ⟨x, HX, by rw [Nat.xor_self]; rfl, rfl⟩
  case round =>
    obtain ⟨r, hr, rfl, rfl⟩ := hrel
    by_cases h0 : r = 0
    · have hne : ((r : Int) == 0) = true := by simp; omega
      have hne2 : ((r : Int) != 0) = false := by simp; omega
      have HZ := Lib.hid h0
      clear h0
      go_wp2
      go_ret
      exact ⟨ret_int (by rw [HZ.out, sy_zero, Nat.xor_zero]), rfl⟩
    · obtain ⟨l1, l2, l3⟩ := low_off h0 hr.out
      have hso := sy_off r _ l2
      have hT := HT.out r hr.out
      have hs1 : sy x < 64 := sy_lt x
      have hs2 : sy r < 64 := sy_lt r
      have hsx : sy x ^^^ sy r < 2 ^ 6 := Nat.xor_lt_two_pow (by omega) (by omega)
      have hr' : r ^^^ 2 ^ Lib.ctz 64 r < 18446744073709551616 := Nat.xor_lt_two_pow (n := 64) hr.out (pow_lt l2)
      have kx := xor_i64 (sy x ^^^ sy r) (Lib.ctz 64 r) (by omega) (by omega)
      rw [Nat.xor_assoc, ← hso] at kx
      have ks : IntKind.u64.wrap ((r : Int) - 1) = ((r - 1 : Nat) : Int) := wrap_u64_of (by omega) (by have := hr.out; omega)
      have ka : bits .and .u64 (r : Int) ((r - 1 : Nat) : Int) = ((r ^^^ 2 ^ Lib.ctz 64 r : Nat) : Int) := by
        rw [bits_and_u64_nat r (r - 1) hr.out (by have := hr.out; omega), l1]
      rw [l1] at l3
      have HR := Lib.hid hr'
      have hne : ((r : Int) == 0) = false := by simp; omega
      have hne2 : ((r : Int) != 0) = true := by simp; omega
      clear hsx hs1 hs2 hr' hso l1 l2 HX hs
      generalize r ^^^ 2 ^ Lib.ctz 64 r = r' at *
      generalize Lib.ctz 64 r = k at *
      generalize ((r - 1 : Nat) : Int) = p at *
      generalize sy x ^^^ sy r = s at *
      have HT2 := Lib.hid hT
      clear hT
      go_wp2_with fail
      refine (HT2.out).mono ?_
      rintro e w' ⟨rfl, rfl⟩
      go_wp2
      go_round
      case rel => exact ⟨r', HR, rfl, rfl⟩
      case measure => simp [intOf]; omega

end Hm
end Go.Proofs.YteikmbcfiabffaaDoor
