/- Data bits spread over a word, and gathered again. -/
import Derived.Test.YteikmbcfiabffaaDoorW3
import Derived.Test.YteikmbcfiabffaaDoorM4
namespace Go.Proofs.YteikmbcfiabffaaDoor
open Go.RowKit Go.Shelf
namespace Hm
set_option linter.unusedVariables false

def chkArr : Array Value := #[.int .i64 0, .int .i64 1, .int .i64 2, .int .i64 4, .int .i64 8, .int .i64 16, .int .i64 32]
theorem chk_ix (k : Nat) (hk : k < 7) (w : World) : (Instr.index 49 (.agg #[.int .i64 0, .int .i64 1, .int .i64 2, .int .i64 4, .int .i64 8, .int .i64 16, .int .i64 32]) (.int .i64 (k : Int))).run Tryd.prog w = .ok (.int .i64 (chkAt k : Int)) w := by
  rcases (by omega : k = 0 ∨ k = 1 ∨ k = 2 ∨ k = 3 ∨ k = 4 ∨ k = 5 ∨ k = 6) with rfl | rfl | rfl | rfl | rfl | rfl | rfl <;> kernel_rfl

theorem mask_u64 (p : Nat) (hp : p ≤ 32) : IntKind.u64.wrap (IntKind.u64.wrap (2 ^ min p 64) - 1) = ((2 ^ p - 1 : Nat) : Int) := by
  have h1 : (2 ^ p : Nat) ≤ 2 ^ 32 := Nat.pow_le_pow_right (by decide) hp
  have h0 : 0 < 2 ^ p := Nat.two_pow_pos p
  rw [Nat.min_eq_left (by omega), wrap_u64_of (n := 2 ^ p) (m := 2 ^ p) (by simp) (by omega)]
  exact wrap_u64_of (by omega) (by omega)
theorem low_u64 (s p : Nat) (hs : s < 18446744073709551616) (hp : p ≤ 32) : bits .and .u64 (s : Int) (IntKind.u64.wrap (IntKind.u64.wrap (2 ^ min p 64) - 1)) = ((s % 2 ^ p : Nat) : Int) := by
  have h1 : (2 ^ p : Nat) ≤ 2 ^ 32 := Nat.pow_le_pow_right (by decide) hp
  rw [mask_u64 p hp, bits_and_u64_nat s (2 ^ p - 1) hs (by omega), Nat.and_two_pow_sub_one_eq_mod]
theorem step_gap (s p : Nat) (hs : s < 9223372036854775808) (hp : p ≤ 32) :
    bits .or .u64 (IntKind.u64.wrap (bits .xor .u64 (s : Int) (bits .and .u64 (s : Int) (IntKind.u64.wrap (IntKind.u64.wrap (2 ^ min p 64) - 1))) * 2)) (bits .and .u64 (s : Int) (IntKind.u64.wrap (IntKind.u64.wrap (2 ^ min p 64) - 1))) = (gap p s : Int) := by
  have h2 := parted s p
  have h3 : s % 2 ^ p ≤ s := Nat.mod_le _ _
  rw [low_u64 s p (by omega) hp, bits_xor_u64_nat s _ (by omega) (by omega), above, wrap_u64_of (m := 2 * (2 ^ p * (s / 2 ^ p))) (by omega) (by omega), bits_or_u64_nat _ _ (by omega) (by omega), gap_or]

set_option maxHeartbeats 1000000 in
theorem spread_any (d : Nat) (w : World) (hd : d < 2 ^ 57) (hv : Vars w) :
    Calls Tryd.prog 31 #[.int .u64 (d : Int)] w fun e w' => e = .returned (.int .u64 (spread d : Int)) ∧ w = w' := by
  obtain ⟨t, fr, hg⟩ := hv.chk
  have HG := Lib.hid hg
  have HD := Lib.hid hd
  clear hg hd hv
  go_enter Tryd.func31, Tryd.ntmps31
  go_wp2_with (refine wpList_load_row rfl 49 _ rfl 0 rfl t _ fr _ HG.out Tryd.underlying49 rfl (by kernel_rfl) ?_)
  clear HG
  go_loop [3, 9] (fun s i => ∃ k : Nat, k ≤ 7 ∧ i = .int .i64 (k : Int) ∧ s = .int .u64 (gaps d k : Int)) (fun _ i => (7 - intOf i).toNat)
  case atStart => exact ⟨0, by omega, rfl, rfl⟩
  case round =>
    obtain ⟨k, hk, rfl, rfl⟩ := hrel
    by_cases h7 : k < 7
    · have HI := fun W => chk_ix k h7 W
      have h1 : decide ((k : Int) < 7) = true := by simp; omega
      have hs : gaps d k < 9223372036854775808 := Nat.lt_of_lt_of_le (gaps_lt HD.out k) (Nat.le_trans (Nat.pow_le_pow_right (by decide) (show 57 + k ≤ 63 by omega)) (by decide))
      have HS := Lib.hid (step_gap (gaps d k) (chkAt k) hs (chkAt_le k))
      have HE : Hid (gaps d (k + 1) = gap (chkAt k) (gaps d k)) := Lib.hid rfl
      clear hs
      generalize gaps d k = s at *
      go_wp2_with fail
      exact ⟨⟨k + 1, by omega, by go_num, by rw [HS.out, HE.out]⟩, by simp [intOf]; omega⟩
    · obtain rfl : k = 7 := by omega
      have h1 : decide (((7 : Nat) : Int) < 7) = false := by decide
      go_wp2_with fail
      go_ret
      exact ⟨rfl, rfl⟩

theorem step_shut (s p : Nat) (hs : s < 18446744073709551616) (hp : p ≤ 32) :
    bits .or .u64 (IntKind.u64.wrap ((s : Int) / 2 ^ (p + 1) * 2 ^ p)) (bits .and .u64 (s : Int) (IntKind.u64.wrap (IntKind.u64.wrap (2 ^ p) - 1))) = (shut p s : Int) := by
  have h1 := low_u64 s p hs hp
  rw [Nat.min_eq_left (by omega)] at h1
  have h2 := parted s p
  have h3 : s % 2 ^ p ≤ s := Nat.mod_le _ _
  have h4 : s / 2 ^ (p + 1) * 2 ^ p ≤ s := by
    have h5 := shut_le p s
    rw [← shut_or] at h5
    exact Nat.le_trans Nat.left_le_or h5
  have e : (s : Int) / 2 ^ (p + 1) * 2 ^ p = ((s / 2 ^ (p + 1) * 2 ^ p : Nat) : Int) := by simp
  rw [h1, wrap_u64_of e (by omega), bits_or_u64_nat _ _ (by omega) (by omega), shut_or]
theorem sub_int (k p : Nat) (h : k ≤ p) (hp : p ≤ 32) : wrap64 ((p : Int) - (k : Int)) = ((p - k : Nat) : Int) := by
  unfold wrap64
  omega
set_option maxHeartbeats 1000000 in
theorem gather_any (x : Nat) (w : World) (hx : x < 18446744073709551616) (hv : Vars w) :
    Calls Tryd.prog 34 #[.int .u64 (x : Int)] w fun e w' => e = .returned (.int .u64 (gather x : Int)) ∧ w = w' := by
  obtain ⟨t, fr, hg⟩ := hv.chk
  have HG := Lib.hid hg
  have HD := Lib.hid hx
  clear hg hx hv
  go_enter Tryd.func34, Tryd.ntmps34
  go_wp2_with (refine wpList_load_row rfl 49 _ rfl 0 rfl t _ fr _ HG.out Tryd.underlying49 rfl (by kernel_rfl) ?_)
  clear HG
  go_loop [3, 10] (fun s i => ∃ k : Nat, k ≤ 7 ∧ i = .int .i64 (k : Int) ∧ s = .int .u64 (shuts x k : Int)) (fun _ i => (7 - intOf i).toNat)
  case atStart => exact ⟨0, by omega, rfl, rfl⟩
  case round =>
    obtain ⟨k, hk, rfl, rfl⟩ := hrel
    by_cases h7 : k < 7
    · have HI := fun W => chk_ix k h7 W
      have h1 : decide ((k : Int) < 7) = true := by simp; omega
      have hs : shuts x k < 18446744073709551616 := Nat.lt_of_le_of_lt (shuts_le x k) HD.out
      have hsub := sub_int k (chkAt k) (chkAt_lt k h7).2 (chkAt_le k)
      have hpk : chkAt k - k ≤ 32 := by have := chkAt_le k; omega
      have HE : Hid (shuts x (k + 1) = shut (chkAt k - k) (shuts x k)) := Lib.hid rfl
      generalize shuts x k = s at *
      generalize chkAt k - k = p at *
      have HS := Lib.hid (step_shut s p hs hpk)
      clear hs
      go_wp2_with fail
      exact ⟨⟨k + 1, by omega, by go_num, by rw [HS.out, HE.out]⟩, by simp [intOf]; omega⟩
    · obtain rfl : k = 7 := by omega
      have h1 : decide (((7 : Nat) : Int) < 7) = false := by decide
      go_wp2_with fail
      go_ret
      exact ⟨rfl, rfl⟩

end Hm
end Go.Proofs.YteikmbcfiabffaaDoor
