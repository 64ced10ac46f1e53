/- BitsParts. -/
import Derived.Test.YtjfijhchnchfcaaWC
import Derived.Test.YtjfijhchnchfcaaM4
namespace Go.Proofs.Ytjfijhchnchfcaa
open Go.RowKit Sl Fr
namespace Bt
set_option linter.unusedVariables false
set_option linter.unusedSimpArgs false

set_option maxRecDepth 100000 in
set_option maxHeartbeats 4000000 in
theorem parts_walk (a b k0 k1 k2 : Nat) (w : World) (ha : a < 256) (hb : b < 256) (hk0 : k0 < 256) (hk1 : k1 < 256) (hk2 : k2 < 256) :
    Calls Try.prog 6 #[.int .u8 (a : Int), .int .u8 (b : Int), .agg #[.int .u8 (k0 : Int), .int .u8 (k1 : Int), .int .u8 (k2 : Int)]] w fun e w' => e = .returned (.bool true) ∧ Below w.heap.size w w' := by
  obtain ⟨n, hnq, hn⟩ := width_in k0 7 (by omega)
  rw [show ((7 : Nat) : Int) = 7 from rfl] at hnq
  obtain ⟨e, he⟩ : ∃ e, e = 8 - n := ⟨_, rfl⟩
  obtain ⟨f, hf⟩ : ∃ f, f = 9 - n := ⟨_, rfl⟩
  obtain ⟨m, hm⟩ : ∃ m, m = 1 + k1 % e := ⟨_, rfl⟩
  obtain ⟨t, ht⟩ : ∃ t, t = n + k2 % f := ⟨_, rfl⟩
  have hm1 := Nat.mod_lt k1 (show e > 0 by omega)
  have ht1 := Nat.mod_lt k2 (show f > 0 by omega)
  obtain ⟨r, hr⟩ : ∃ r, r = k1 % e := ⟨_, rfl⟩
  obtain ⟨s, hs⟩ : ∃ s, s = k2 % f := ⟨_, rfl⟩
  have q1 : (8 : Int) - (n : Int) = (e : Int) := by omega
  have q2 : (9 : Int) - (n : Int) = (f : Int) := by omega
  have q3 : (k1 : Int) % (e : Int) = (r : Int) := by rw [hr]; simp
  have q4 : (k2 : Int) % (f : Int) = (s : Int) := by rw [hs]; simp
  have q5 : (k1 : Int).tmod (e : Int) = (r : Int) := by rw [Int.tmod_eq_emod_of_nonneg (by omega)]; exact q3
  have q6 : (k2 : Int).tmod (f : Int) = (s : Int) := by rw [Int.tmod_eq_emod_of_nonneg (by omega)]; exact q4
  have q7 : (1 : Int) + (r : Int) = (m : Int) := by rw [hr, hm]; simp
  have q8 : (n : Int) + (s : Int) = (t : Int) := by rw [hs, ht]; simp
  have z1 : ((e : Int) == 0) = false := by simp; omega
  have z2 : ((f : Int) == 0) = false := by simp; omega
  have z3 : ¬ (e : Int) = 0 := by omega
  have z4 : ¬ (f : Int) = 0 := by omega
  have z5 : ¬ e = 0 := by omega
  have z6 : ¬ f = 0 := by omega
  have hm8 : 1 ≤ m ∧ n + m ≤ 8 := by omega
  have ht8 : n ≤ t ∧ t ≤ 8 := by omega
  have qN : (n : Int) + (m : Int) = ((n + m : Nat) : Int) := by simp
  obtain ⟨x, hxq, hx⟩ := cut_in a n (by omega)
  obtain ⟨y, hyq, hy⟩ := cut_in b m (by omega)
  have hC := cat_lt hx hy
  have hn8 : 1 ≤ n ∧ n ≤ 8 := by omega
  have S1 := Lib.hid ((cat_any n m x y).eq (u := .int .i64 ((x * 2 ^ m + y : Nat) : Int)) (by rw [lv11 hn.1 hm8.1 hm8.2 hx hy]))
  have S2 := Lib.hid ((slice_any ((x * 2 ^ m + y : Nat)) (n + m : Nat) 0 m (by omega)).eq (u := .int .i64 (y : Int)) (by
    have := lv12 (k := 0) (m := m) hm8.2 hm8.1 (by omega) hC
    rw [low_part (n := n) hy] at this
    exact congrArg _ this))
  have S3 := Lib.hid ((slice_any ((x * 2 ^ m + y : Nat)) (n + m : Nat) m n (by omega)).eq (u := .int .i64 (x : Int)) (by
    have := lv12 (k := m) (m := n) hm8.2 hn.1 (by omega) hC
    rw [high_part hx hy] at this
    exact congrArg _ this))
  have S4 := Lib.hid ((extended_any x n t (by omega)).eq (u := .int .i64 (x : Int)) (by rw [lv13 hn.1 ht8.1 ht8.2 hx]))
  have hxt : x < 2 ^ t := Nat.lt_of_lt_of_le hx (pow_le ht8.1)
  have S5 := Lib.hid ((slice_any x t 0 n (by omega)).eq (u := .int .i64 (x : Int)) (by
    have := lv12 (k := 0) (m := n) ht8.2 hn.1 (by omega) hxt
    rw [whole_part hx] at this
    exact congrArg _ this))
  have hM := fun w => mask_at n hn8.2 w
  have hM2 := fun w => mask_at m (by omega) w
  have hpn := pow_int (k := n) (by omega)
  have hpm := pow_int (k := m) (by omega)
  have n8 : n ≤ 8 := by omega
  have m8 : m ≤ 8 := by omega
  have r8 : r ≤ 8 := by omega
  have s8 : s ≤ 9 := by omega
  by_cases heq : t = n
  · have g1 : ((t : Int) == (n : Int)) = true := by simp; omega
    have t8 : t ≤ 8 := by omega
    have t8 : t ≤ 8 := by omega
    generalize x * 2 ^ m + y = C at *
    generalize n + m = N at *
    clear he hf hm ht hm1 ht1 hr hs hm8 ht8 hn hn8 hx hy hC hxt hk0 heq
    go_enter Try.func6, Try.ntmps6
    go_upto_region 1 with fail
    have hst := start1 w #[.int .u8 (k0 : Int), .int .u8 (k1 : Int), .int .u8 (k2 : Int)] 49
    generalize w.alloc (.cells #[.int .u8 (k0 : Int), .int .u8 (k1 : Int), .int .u8 (k2 : Int)] 49) = W0 at *
    obtain ⟨m0, B0⟩ := hst
    go_wp2_with fail
    refine (examples_any.at _).mono ?_
    rintro e W1 ⟨rfl, hb1⟩
    have B1 := B0.trans (hb1.mono B0.size)
    have m1 := m0.keep hb1
    obtain ⟨c0, c1, c2⟩ := m1.c3
    have hlt := m1.lt
    have HM1 := Lib.hid m1
    have HB := Lib.hid B1
    clear hb1 B0 m0 m1 B1
    have B1 := Below.refl W1.heap.size W1
    go_upto_region 6 with fail
    clear q1 q3 q5 q7 hnq z1 z3 z5 r8 c0 c1 c2 hlt
    go_wp2_with fail
    refine (hM _).mono ?_
    rintro e w' ⟨rfl, rfl⟩
    go_wp2_with fail
    refine (hM2 _).mono ?_
    rintro e w' ⟨rfl, rfl⟩
    go_wp2_with fail
    refine (S1.out.at _).mono ?_
    rintro e W2 ⟨rfl, hb2⟩
    have B2 := B1.trans (hb2.mono B1.size)
    clear hb2 B1
    go_wp2_with fail
    refine (S2.out.at _).mono ?_
    rintro e W3 ⟨rfl, hb3⟩
    have B3 := B2.trans (hb3.mono B2.size)
    clear hb3 B2
    go_wp2_with fail
    refine (S3.out.at _).mono ?_
    rintro e W4 ⟨rfl, hb4⟩
    have B4 := B3.trans (hb4.mono B3.size)
    clear hb4 B3
    go_wp2_with fail
    refine (S3.out.at _).mono ?_
    rintro e W5 ⟨rfl, hb5⟩
    have B5 := B4.trans (hb5.mono B4.size)
    clear hb5 B4
    go_wp2_with fail
    refine (S2.out.at _).mono ?_
    rintro e W6 ⟨rfl, hb6⟩
    have B6 := B5.trans (hb6.mono B5.size)
    clear hb6 B5
    go_wp2_with fail
    refine (S1.out.at _).mono ?_
    rintro e W7 ⟨rfl, hb7⟩
    have B7 := B6.trans (hb7.mono B6.size)
    clear hb7 B6
    have m7 := HM1.out.keep B7
    obtain ⟨c0, c1, c2⟩ := m7.c3
    have lz := m7.lt
    clear m7
    go_wp2_with fail
    refine (S4.out.at _).mono ?_
    rintro e W8 ⟨rfl, hb8⟩
    have B8 := B7.trans (hb8.mono B7.size)
    clear hb8 B7
    go_wp2_with fail
    refine (S5.out.at _).mono ?_
    rintro e W9 ⟨rfl, hb9⟩
    have B9 := B8.trans (hb9.mono B8.size)
    clear hb9 B8
    go_wp2_with fail
    go_ret
    exact ⟨rfl, HB.out.trans (B9.mono HB.out.size)⟩
  · have S6 := Lib.hid ((slice_any x t n (t - n : Nat) (by omega)).eq (u := .int .i64 0) (by
      have := lv12 (k := n) (m := t - n) ht8.2 (by omega) (by omega) hxt
      rw [above_part hx] at this
      exact congrArg _ this))
    have q9 : (t : Int) - (n : Int) = ((t - n : Nat) : Int) := by omega
    have g1 : ((t : Int) == (n : Int)) = false := by simp; omega
    generalize t - n = u at *
    have t8 : t ≤ 8 := by omega
    generalize x * 2 ^ m + y = C at *
    generalize n + m = N at *
    clear he hf hm ht hm1 ht1 hr hs hm8 ht8 hn hn8 hx hy hC hxt hk0 heq
    go_enter Try.func6, Try.ntmps6
    go_upto_region 1 with fail
    have hst := start1 w #[.int .u8 (k0 : Int), .int .u8 (k1 : Int), .int .u8 (k2 : Int)] 49
    generalize w.alloc (.cells #[.int .u8 (k0 : Int), .int .u8 (k1 : Int), .int .u8 (k2 : Int)] 49) = W0 at *
    obtain ⟨m0, B0⟩ := hst
    go_wp2_with fail
    refine (examples_any.at _).mono ?_
    rintro e W1 ⟨rfl, hb1⟩
    have B1 := B0.trans (hb1.mono B0.size)
    have m1 := m0.keep hb1
    obtain ⟨c0, c1, c2⟩ := m1.c3
    have hlt := m1.lt
    have HM1 := Lib.hid m1
    have HB := Lib.hid B1
    clear hb1 B0 m0 m1 B1
    have B1 := Below.refl W1.heap.size W1
    go_upto_region 6 with fail
    clear q1 q3 q5 q7 hnq z1 z3 z5 r8 c0 c1 c2 hlt
    go_wp2_with fail
    refine (hM _).mono ?_
    rintro e w' ⟨rfl, rfl⟩
    go_wp2_with fail
    refine (hM2 _).mono ?_
    rintro e w' ⟨rfl, rfl⟩
    go_wp2_with fail
    refine (S1.out.at _).mono ?_
    rintro e W2 ⟨rfl, hb2⟩
    have B2 := B1.trans (hb2.mono B1.size)
    clear hb2 B1
    go_wp2_with fail
    refine (S2.out.at _).mono ?_
    rintro e W3 ⟨rfl, hb3⟩
    have B3 := B2.trans (hb3.mono B2.size)
    clear hb3 B2
    go_wp2_with fail
    refine (S3.out.at _).mono ?_
    rintro e W4 ⟨rfl, hb4⟩
    have B4 := B3.trans (hb4.mono B3.size)
    clear hb4 B3
    go_wp2_with fail
    refine (S3.out.at _).mono ?_
    rintro e W5 ⟨rfl, hb5⟩
    have B5 := B4.trans (hb5.mono B4.size)
    clear hb5 B4
    go_wp2_with fail
    refine (S2.out.at _).mono ?_
    rintro e W6 ⟨rfl, hb6⟩
    have B6 := B5.trans (hb6.mono B5.size)
    clear hb6 B5
    go_wp2_with fail
    refine (S1.out.at _).mono ?_
    rintro e W7 ⟨rfl, hb7⟩
    have B7 := B6.trans (hb7.mono B6.size)
    clear hb7 B6
    have m7 := HM1.out.keep B7
    obtain ⟨c0, c1, c2⟩ := m7.c3
    have lz := m7.lt
    clear m7
    go_wp2_with fail
    refine (S4.out.at _).mono ?_
    rintro e W8 ⟨rfl, hb8⟩
    have B8 := B7.trans (hb8.mono B7.size)
    clear hb8 B7
    go_wp2_with fail
    refine (S5.out.at _).mono ?_
    rintro e W9 ⟨rfl, hb9⟩
    have B9 := B8.trans (hb9.mono B8.size)
    clear hb9 B8
    go_wp2_with fail
    refine (S6.out.at _).mono ?_
    rintro e W10 ⟨rfl, hb10⟩
    have B10 := B9.trans (hb10.mono B9.size)
    clear hb10 B9
    go_wp2_with fail
    go_ret
    exact ⟨rfl, HB.out.trans (B10.mono HB.out.size)⟩
theorem parts_row (a b k0 k1 k2 : Int) (w : World) (ha : 0 ≤ a ∧ a ≤ 255) (hb : 0 ≤ b ∧ b ≤ 255) (h0 : 0 ≤ k0 ∧ k0 ≤ 255) (h1 : 0 ≤ k1 ∧ k1 ≤ 255) (h2 : 0 ≤ k2 ∧ k2 ≤ 255) :
    Calls Try.prog 6 #[.int .u8 a, .int .u8 b, .agg #[.int .u8 k0, .int .u8 k1, .int .u8 k2]] w fun e w' => e = .returned (.bool true) ∧ Below w.heap.size w w' := by
  obtain ⟨a, rfl⟩ := Int.eq_ofNat_of_zero_le ha.1
  obtain ⟨b, rfl⟩ := Int.eq_ofNat_of_zero_le hb.1
  obtain ⟨k0, rfl⟩ := Int.eq_ofNat_of_zero_le h0.1
  obtain ⟨k1, rfl⟩ := Int.eq_ofNat_of_zero_le h1.1
  obtain ⟨k2, rfl⟩ := Int.eq_ofNat_of_zero_le h2.1
  exact parts_walk a b k0 k1 k2 w (by omega) (by omega) (by omega) (by omega) (by omega)

end Bt
end Go.Proofs.Ytjfijhchnchfcaa
