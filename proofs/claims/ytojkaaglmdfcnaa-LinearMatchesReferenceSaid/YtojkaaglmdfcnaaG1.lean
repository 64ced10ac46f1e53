/- What the reference's small functions return: divisors, sizes; and its fractions of two integers. -/
import Derived.Test.YtojkaaglmdfcnaaF5
namespace Go.Proofs.Ytojkaaglmdfcnaa
open Go.RowKit Go.Shelf
namespace Fr
set_option linter.unusedVariables false

theorem most_any (w : World) : Calls Try.prog 70 #[] w fun o w' => o = .returned (.int .i64 4611686018427387904) ∧ w = w' := by
  go_enter Try.func70, Try.ntmps70
  go_wp2
  go_ret
  exact ⟨rfl, rfl⟩

theorem rsize_any (n : Int) (w : World) (h0 : -9223372036854775808 < n) (h1 : n ≤ 9223372036854775807) :
    Calls Try.prog 72 #[.int .i64 n] w fun o w' => o = .returned (.int .i64 (n.natAbs : Int)) ∧ w = w' := by
  by_cases h : n < 0
  · go_enter Try.func72, Try.ntmps72
    go_wp2
    go_ret
    exact ⟨ret_int (by omega), rfl⟩
  · go_enter Try.func72, Try.ntmps72
    go_wp2
    go_ret
    exact ⟨ret_int (by omega), rfl⟩

theorem rgcd_any (a b : Nat) (w : World) (ha : a ≤ 9223372036854775807) (hb : b ≤ 9223372036854775807) :
    Calls Try.prog 71 #[.int .i64 (a : Int), .int .i64 (b : Int)] w fun o w' => o = .returned (.int .i64 (Nat.gcd a b : Int)) ∧ w = w' := by
  go_enter Try.func71, Try.ntmps71
  go_wp2
  go_loop [0, 1] (fun u v => ∃ p q : Nat, u = .int .i64 (p : Int) ∧ v = .int .i64 (q : Int) ∧ Nat.gcd p q = Nat.gcd a b ∧ p ≤ 9223372036854775807 ∧ q ≤ 9223372036854775807) (fun _ v => (intOf v).toNat)
  case atStart => exact ⟨a, b, rfl, rfl, rfl, ha, hb⟩
  case round =>
    obtain ⟨p, q, rfl, rfl, hpq, hp, hq⟩ := hrel
    have HG := Lib.hid hpq
    clear hpq
    by_cases hz : q = 0
    · subst hz
      go_wp2
      go_ret
      exact ⟨ret_int (by rw [← HG.out, Nat.gcd_zero_right]), rfl⟩
    · have hb' : ((q : Int) == 0) = false := by simp; omega
      have hpos : 0 < q := by omega
      have hm' : (p : Int).tmod (q : Int) = ((p % q : Nat) : Int) := by
        rw [IntWalk.rem_in _ _ (by omega), Int.natCast_emod]
      have hml := Nat.mod_lt p hpos
      have HM : Hid (Nat.gcd q (p % q) = Nat.gcd a b) := Lib.hid (by rw [← HG.out, Nat.gcd_comm p q, Nat.gcd_rec q p, Nat.gcd_comm])
      go_wp2
      go_round
      case rel => exact ⟨q, p % q, rfl, congrArg (Value.int .i64) (Int.natCast_emod p q).symm, HM.out, hq, by omega⟩
      case measure => simp only [intOf]; rw [← Int.natCast_emod]; omega

theorem half_any (n g : Int) (w : World) (hn : I64 n) (hg : 0 < g) (hg2 : g ≤ 9223372036854775807) (hl : -9223372036854775808 < n) :
    Calls Try.prog 99 #[.int .i64 n, .int .i64 g] w fun o w' => o = .returned (.int .i64 ((n.tdiv g).natAbs : Int)) ∧ w = w' := by
  have hb0 : (g == 0) = false := by simp; omega
  have hab : (n.tdiv g).natAbs ≤ n.natAbs := by rw [Int.natAbs_tdiv]; exact Nat.div_le_self _ _
  unfold I64 at hn
  have hqw : IntKind.i64.wrap (n.tdiv g) = n.tdiv g := IntWalk.i64_in _ (by omega)
  obtain ⟨t, ht⟩ : ∃ t, n.tdiv g = t := ⟨_, rfl⟩
  have h1 : -9223372036854775807 ≤ t := by omega
  have h2 : t ≤ 9223372036854775807 := by omega
  rw [ht] at hqw ⊢
  have hqw' : IntKind.i64.wrap (n.tdiv g) = t := by rw [ht]; exact hqw
  clear hqw ht hab
  go_enter Try.func99, Try.ntmps99
  go_wp2_with fail
  refine (rsize_any t _ (by omega) (by omega)).mono ?_
  rintro o w' ⟨rfl, rfl⟩
  go_wp2
  go_ret
  exact ⟨rfl, rfl⟩

end Fr
end Go.Proofs.Ytojkaaglmdfcnaa
