/- BitsComparison. -/
import Derived.Test.YtjfijhchnchfcaaWC
import Derived.Test.YtjfijhchnchfcaaM4
namespace Go.Proofs.Ytjfijhchnchfcaa
open Go.RowKit Sl Fr
namespace Bt
set_option linter.unusedVariables false
set_option linter.unusedSimpArgs false

set_option maxRecDepth 100000 in
set_option maxHeartbeats 4000000 in
theorem cmp_walk (a b c : Nat) (w : World) (ha : a < 256) (hb : b < 256) (hc : c < 256) :
    Calls Try.prog 7 #[.int .u8 (a : Int), .int .u8 (b : Int), .int .u8 (c : Int)] w fun e w' => e = .returned (.bool true) ∧ Below w.heap.size w w' := by
  obtain ⟨n, hnq, hn⟩ := width_in c 7 (by omega)
  rw [show ((7 : Nat) : Int) = 7 from rfl] at hnq
  obtain ⟨x, hxq, hx⟩ := cut_in a n (by omega)
  obtain ⟨y, hyq, hy⟩ := cut_in b n (by omega)
  have hn8 : 1 ≤ n ∧ n ≤ 8 := by omega
  have hN : (n : Int) + 1 = ((n + 1 : Nat) : Int) := by simp
  have hN8 : 1 ≤ n + 1 ∧ n + 1 ≤ 8 := by omega
  have hx2 : x < 2 ^ (n + 1) := by rw [Nat.pow_succ]; omega
  have hy2 : y < 2 ^ (n + 1) := by rw [Nat.pow_succ]; omega
  have hd := diff_lt hx2 hy2
  have S1 := Lib.hid ((two_any 9 n x y).eq (u := .int .i64 ((if x < y then 1 else 0 : Nat) : Int)) (by rw [lv9 hn8 hx hy]))
  have S2 := Lib.hid ((two_any 8 n x y).eq (u := .int .i64 ((if x = y then 1 else 0 : Nat) : Int)) (by rw [lv8 hn8 hx hy]))
  have S3 := Lib.hid ((two_any 9 n y x).eq (u := .int .i64 ((if y < x then 1 else 0 : Nat) : Int)) (by rw [lv9 hn8 hy hx]))
  have E1 := Lib.hid ((extended_any x n (n + 1 : Nat) (by omega)).eq (u := .int .i64 (x : Int)) (by rw [lv13 hn.1 (by omega) hN8.2 hx]))
  have E2 := Lib.hid ((extended_any y n (n + 1 : Nat) (by omega)).eq (u := .int .i64 (y : Int)) (by rw [lv13 hn.1 (by omega) hN8.2 hy]))
  have S4 := Lib.hid ((two_any 7 (n + 1 : Nat) x y).eq (u := .int .i64 (((x + 2 ^ (n + 1) - y) % 2 ^ (n + 1) : Nat) : Int)) (by rw [lv7 hN8 hx2 hy2]))
  have S5 := Lib.hid ((slice_any ((x + 2 ^ (n + 1) - y) % 2 ^ (n + 1) : Nat) (n + 1 : Nat) n 1 (by omega)).eq (u := .int .i64 ((if x < y then 1 else 0 : Nat) : Int)) (by
    have := lv12 (m := 1) hN8.2 (Nat.le_refl 1) (Nat.le_refl (n + 1)) hd
    rw [borrow hx hy] at this
    exact congrArg _ this))
  have hM := fun w => mask_at n hn8.2 w
  have k1 : ((((if x < y then 1 else 0 : Nat) : Int)) == 1) = decide (x < y) := by by_cases h : x < y <;> simp [h]
  have k2 : ((((if x = y then 1 else 0 : Nat) : Int)) == 1) = ((x : Int) == (y : Int)) := by
    by_cases h : x = y
    · subst h; simp
    · have h2 : ¬ (x : Int) = (y : Int) := by omega
      simp [h, h2]
  have k3 : ((if x < y then 1 else 0 : Nat) : Int) + ((if x = y then 1 else 0 : Nat) : Int) + ((if y < x then 1 else 0 : Nat) : Int) = 1 := by
    rcases Nat.lt_trichotomy x y with h | h | h
    · rw [if_pos h, if_neg (by omega), if_neg (by omega)]; rfl
    · rw [if_neg (by omega), if_pos h, if_neg (by omega)]; rfl
    · rw [if_neg (by omega), if_neg (by omega), if_pos h]; rfl
  have l1 : (if x < y then 1 else 0 : Nat) ≤ 1 := by split <;> omega
  have l2 : (if x = y then 1 else 0 : Nat) ≤ 1 := by split <;> omega
  have l3 : (if y < x then 1 else 0 : Nat) ≤ 1 := by split <;> omega
  generalize (x + 2 ^ (n + 1) - y) % 2 ^ (n + 1) = d at *
  generalize (if x < y then 1 else 0 : Nat) = L at *
  generalize (if x = y then 1 else 0 : Nat) = E at *
  generalize (if y < x then 1 else 0 : Nat) = M at *
  generalize hNN : n + 1 = N at *
  have hpi := pow_int (k := n) (by omega)
  have n8 : n ≤ 8 := by omega
  clear hc hx hy hx2 hy2 hd hn hn8 hN8 hNN
  go_enter Try.func7, Try.ntmps7
  go_wp2_with fail
  refine (examples_any.at _).mono ?_
  rintro e W1 ⟨rfl, B1⟩
  go_wp2_with fail
  refine (hM _).mono ?_
  rintro e w' ⟨rfl, rfl⟩
  go_wp2_with fail
  refine (hM _).mono ?_
  rintro e w' ⟨rfl, rfl⟩
  go_wp2_with fail
  refine (S1.out.at _).mono ?_
  rintro e W2 ⟨rfl, hb2⟩
  have B2 := B1.trans (hb2.mono B1.size)
  clear hb2 B1
  go_wp2_with fail
  refine (S2.out.at _).mono ?_
  rintro e W3 ⟨rfl, hb3⟩
  have B3 := B2.trans (hb3.mono B2.size)
  clear hb3 B2
  go_wp2_with fail
  refine (S3.out.at _).mono ?_
  rintro e W4 ⟨rfl, hb4⟩
  have B4 := B3.trans (hb4.mono B3.size)
  clear hb4 B3
  go_wp2_with fail
  refine (E1.out.at _).mono ?_
  rintro e W5 ⟨rfl, hb5⟩
  have B5 := B4.trans (hb5.mono B4.size)
  clear hb5 B4
  go_wp2_with fail
  refine (E2.out.at _).mono ?_
  rintro e W6 ⟨rfl, hb6⟩
  have B6 := B5.trans (hb6.mono B5.size)
  clear hb6 B5
  go_wp2_with fail
  refine (S4.out.at _).mono ?_
  rintro e W7 ⟨rfl, hb7⟩
  have B7 := B6.trans (hb7.mono B6.size)
  clear hb7 B6
  go_wp2_with fail
  refine (S5.out.at _).mono ?_
  rintro e W8 ⟨rfl, hb8⟩
  have B8 := B7.trans (hb8.mono B7.size)
  clear hb8 B7
  go_wp2_with fail
  go_ret
  exact ⟨rfl, B8⟩
theorem cmp_row (a b c : Int) (w : World) (ha : 0 ≤ a ∧ a ≤ 255) (hb : 0 ≤ b ∧ b ≤ 255) (hc : 0 ≤ c ∧ c ≤ 255) :
    Calls Try.prog 7 #[.int .u8 a, .int .u8 b, .int .u8 c] w fun e w' => e = .returned (.bool true) ∧ Below w.heap.size w w' := by
  obtain ⟨a, rfl⟩ := Int.eq_ofNat_of_zero_le ha.1
  obtain ⟨b, rfl⟩ := Int.eq_ofNat_of_zero_le hb.1
  obtain ⟨c, rfl⟩ := Int.eq_ofNat_of_zero_le hc.1
  exact cmp_walk a b c w (by omega) (by omega) (by omega)

end Bt
end Go.Proofs.Ytjfijhchnchfcaa
