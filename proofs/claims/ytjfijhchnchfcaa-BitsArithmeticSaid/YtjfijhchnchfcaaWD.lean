/- BitsArithmetic. -/
import Derived.Test.YtjfijhchnchfcaaWC
namespace Go.Proofs.Ytjfijhchnchfcaa
open Go.RowKit Sl Fr
namespace Bt
set_option linter.unusedVariables false
set_option linter.unusedSimpArgs false

set_option maxRecDepth 100000 in
set_option maxHeartbeats 4000000 in
theorem arith_walk (a b c : Nat) (w : World) (ha : a < 256) (hb : b < 256) (hc : c < 256) :
    Calls Try.prog 5 #[.int .u8 (a : Int), .int .u8 (b : Int), .int .u8 (c : Int)] w fun e w' => e = .returned (.bool true) ∧ Below w.heap.size w w' := by
  obtain ⟨n, hnq, hn⟩ := width_in c 8 (by omega)
  rw [show ((8 : Nat) : Int) = 8 from rfl] at hnq
  obtain ⟨x, hxq, hx⟩ := cut_in a n hn.2
  obtain ⟨y, hyq, hy⟩ := cut_in b n hn.2
  have h1 : 1 < 2 ^ n := Nat.one_lt_two_pow (by omega)
  have hP : 2 ^ n ≤ 2 ^ 8 := pow_le hn.2
  have hs := sum_lt hx hy
  have hd := diff_lt hx hy
  have hp := not_lt (n := n) (x := x)
  have hq := not_lt (n := n) (x := y)
  have hu : x &&& y < 2 ^ n := Nat.lt_of_le_of_lt Nat.and_le_left hx
  have ho : x ||| y < 2 ^ n := Nat.or_lt_two_pow hx hy
  have hv : x ^^^ y < 2 ^ n := Nat.xor_lt_two_pow hx hy
  have S1 := Lib.hid ((two_any 6 n x y).eq (u := .int .i64 (((x + y) % 2 ^ n : Nat) : Int)) (by rw [lv6 hn hx hy]))
  have S2 := Lib.hid ((two_any 7 n x y).eq (u := .int .i64 (((x + 2 ^ n - y) % 2 ^ n : Nat) : Int)) (by rw [lv7 hn hx hy]))
  have A1 := Lib.hid ((two_any 3 n x y).eq (u := .int .i64 ((x &&& y : Nat) : Int)) (by rw [lv3 hn hx hy]))
  have A2 := Lib.hid ((two_any 4 n x y).eq (u := .int .i64 ((x ||| y : Nat) : Int)) (by rw [lv4 hn hx hy]))
  have A3 := Lib.hid ((two_any 5 n x y).eq (u := .int .i64 ((x ^^^ y : Nat) : Int)) (by rw [lv5 hn hx hy]))
  have N1 : Hid (∀ W : World, Calls Try.prog 23 #[.int .i64 2, .slice (some ⟨W.heap.size, 0, none⟩) 1 1, .slice (some ⟨W.heap.size + 1, 0, none⟩) 1 1] ((W.alloc (.cells #[.int .i64 (n : Int)] 3)).alloc (.cells #[.int .i64 ((x : Nat) : Int)] 3)) fun e w' => e = .returned (.int .i64 ((2 ^ n - 1 - (x) : Nat) : Int)) ∧ Below W.heap.size W w') := Lib.hid (fun W => by
    have := app11 2 n ((x : Nat) : Int) W
    rwa [lv2 hn hx] at this)
  have N2 : Hid (∀ W : World, Calls Try.prog 23 #[.int .i64 2, .slice (some ⟨W.heap.size, 0, none⟩) 1 1, .slice (some ⟨W.heap.size + 1, 0, none⟩) 1 1] ((W.alloc (.cells #[.int .i64 (n : Int)] 3)).alloc (.cells #[.int .i64 ((y : Nat) : Int)] 3)) fun e w' => e = .returned (.int .i64 ((2 ^ n - 1 - (y) : Nat) : Int)) ∧ Below W.heap.size W w') := Lib.hid (fun W => by
    have := app11 2 n ((y : Nat) : Int) W
    rwa [lv2 hn hy] at this)
  have N3 : Hid (∀ W : World, Calls Try.prog 23 #[.int .i64 2, .slice (some ⟨W.heap.size, 0, none⟩) 1 1, .slice (some ⟨W.heap.size + 1, 0, none⟩) 1 1] ((W.alloc (.cells #[.int .i64 (n : Int)] 3)).alloc (.cells #[.int .i64 ((x &&& y : Nat) : Int)] 3)) fun e w' => e = .returned (.int .i64 ((2 ^ n - 1 - (x &&& y) : Nat) : Int)) ∧ Below W.heap.size W w') := Lib.hid (fun W => by
    have := app11 2 n ((x &&& y : Nat) : Int) W
    rwa [lv2 hn hu] at this)
  have N4 : Hid (∀ W : World, Calls Try.prog 23 #[.int .i64 2, .slice (some ⟨W.heap.size, 0, none⟩) 1 1, .slice (some ⟨W.heap.size + 1, 0, none⟩) 1 1] ((W.alloc (.cells #[.int .i64 (n : Int)] 3)).alloc (.cells #[.int .i64 ((x ||| y : Nat) : Int)] 3)) fun e w' => e = .returned (.int .i64 ((2 ^ n - 1 - (x ||| y) : Nat) : Int)) ∧ Below W.heap.size W w') := Lib.hid (fun W => by
    have := app11 2 n ((x ||| y : Nat) : Int) W
    rwa [lv2 hn ho] at this)
  have T1 := Lib.hid ((two_any 7 n ((x + y) % 2 ^ n : Nat) y).eq (u := .int .i64 ((x : Nat) : Int)) (by rw [lv7 hn hs hy, sum_sub hx hy]))
  have T2 := Lib.hid ((two_any 6 n ((x + 2 ^ n - y) % 2 ^ n : Nat) y).eq (u := .int .i64 ((x : Nat) : Int)) (by rw [lv6 hn hd hy, sub_sum hx hy]))
  have T3 := Lib.hid ((two_any 6 n y x).eq (u := .int .i64 (((x + y) % 2 ^ n : Nat) : Int)) (by rw [lv6 hn hy hx, Nat.add_comm y x]))
  have T4 := Lib.hid ((two_any 6 n x (2 ^ n - 1 - y : Nat)).eq (u := .int .i64 (((x + (2 ^ n - 1 - y)) % 2 ^ n : Nat) : Int)) (by rw [lv6 hn hx hq]))
  have ht : (x + (2 ^ n - 1 - y)) % 2 ^ n < 2 ^ n := Nat.mod_lt _ (Nat.two_pow_pos n)
  have T5 := Lib.hid ((two_any 6 n ((x + (2 ^ n - 1 - y)) % 2 ^ n : Nat) 1).eq (u := .int .i64 (((x + 2 ^ n - y) % 2 ^ n : Nat) : Int)) (by have := lv6 hn ht h1; rw [diff_not hx hy] at this; exact congrArg _ this))
  have T6 := Lib.hid ((two_any 4 n (2 ^ n - 1 - x : Nat) (2 ^ n - 1 - y : Nat)).eq (u := .int .i64 ((2 ^ n - 1 - (x &&& y) : Nat) : Int)) (by rw [lv4 hn hp hq, not_and hx hy]))
  have T7 := Lib.hid ((two_any 3 n (2 ^ n - 1 - x : Nat) (2 ^ n - 1 - y : Nat)).eq (u := .int .i64 ((2 ^ n - 1 - (x ||| y) : Nat) : Int)) (by rw [lv3 hn hp hq, not_or hx hy]))
  have q1 : ((2 ^ n - 1 - x : Nat) : Int) + (x : Int) = 2 ^ n - 1 := by
    have e : (2 : Int) ^ n - 1 = ((2 ^ n - 1 : Nat) : Int) := by rw [Int.natCast_sub (Nat.two_pow_pos n)]; simp
    rw [e]; omega
  have q2 : bits .and .i64 (((x ^^^ y : Nat) : Int) + 2 * ((x &&& y : Nat) : Int)) ((2 : Int) ^ n - 1) = (((x + y) % 2 ^ n : Nat) : Int) := by
    rw [and_mask _ _ (by omega), show ((x ^^^ y : Nat) : Int) + 2 * ((x &&& y : Nat) : Int) = ((x + y : Nat) : Int) by have := xor_and x y; omega]; simp
  have q3 : ((x ^^^ y : Nat) : Int) + ((x &&& y : Nat) : Int) = ((x ||| y : Nat) : Int) := by have := xor_or x y; omega
  have hpi := pow_int (k := n) (by omega)
  have hM := fun w => mask_at n hn.2 w
  generalize (x + (2 ^ n - 1 - y)) % 2 ^ n = t at *
  generalize (x + 2 ^ n - y) % 2 ^ n = d at *
  generalize (x + y) % 2 ^ n = s at *
  generalize 2 ^ n - 1 - (x &&& y) = r1 at *
  generalize 2 ^ n - 1 - (x ||| y) = r2 at *
  generalize 2 ^ n - 1 - x = p at *
  generalize 2 ^ n - 1 - y = q at *
  generalize x &&& y = u at *
  generalize x ||| y = o at *
  generalize x ^^^ y = v at *
  have x8 := low8 hn.2 hx
  have y8 := low8 hn.2 hy
  have p8 := low8 hn.2 hp
  have u8 := low8 hn.2 hu
  have v8 := low8 hn.2 hv
  clear hc hx hy hs hd hp hq hu ho hv ht h1 hP hn
  go_enter Try.func5, Try.ntmps5
  go_wp2_with fail
  refine (examples_any.at _).mono ?_
  rintro e W1 ⟨rfl, B1⟩
  go_wp2_with fail
  refine (hM _).mono ?_
  rintro e w' ⟨rfl, rfl⟩
  go_wp2_with fail
  refine (S1.out.at _).mono ?_
  rintro e W2 ⟨rfl, hb2⟩
  have B2 := B1.trans (hb2.mono B1.size)
  clear hb2 B1
  go_wp2_with fail
  refine (S2.out.at _).mono ?_
  rintro e W3 ⟨rfl, hb3⟩
  have B3 := B2.trans (hb3.mono B2.size)
  clear hb3 B2
  go_wp2_with fail
  refine (N1.out _).mono ?_
  rintro e W4 ⟨rfl, hb4⟩
  have B4 := B3.trans (hb4.mono B3.size)
  clear hb4 B3
  go_wp2_with fail
  refine (N2.out _).mono ?_
  rintro e W5 ⟨rfl, hb5⟩
  have B5 := B4.trans (hb5.mono B4.size)
  clear hb5 B4
  go_wp2_with fail
  refine (A1.out.at _).mono ?_
  rintro e W6 ⟨rfl, hb6⟩
  have B6 := B5.trans (hb6.mono B5.size)
  clear hb6 B5
  go_wp2_with fail
  refine (A2.out.at _).mono ?_
  rintro e W7 ⟨rfl, hb7⟩
  have B7 := B6.trans (hb7.mono B6.size)
  clear hb7 B6
  go_wp2_with fail
  refine (A3.out.at _).mono ?_
  rintro e W8 ⟨rfl, hb8⟩
  have B8 := B7.trans (hb8.mono B7.size)
  clear hb8 B7
  go_wp2_with fail
  refine (T1.out.at _).mono ?_
  rintro e W9 ⟨rfl, hb9⟩
  have B9 := B8.trans (hb9.mono B8.size)
  clear hb9 B8
  go_wp2_with fail
  refine (T2.out.at _).mono ?_
  rintro e W10 ⟨rfl, hb10⟩
  have B10 := B9.trans (hb10.mono B9.size)
  clear hb10 B9
  go_wp2_with fail
  refine (T3.out.at _).mono ?_
  rintro e W11 ⟨rfl, hb11⟩
  have B11 := B10.trans (hb11.mono B10.size)
  clear hb11 B10
  go_wp2_with fail
  refine (T4.out.at _).mono ?_
  rintro e W12 ⟨rfl, hb12⟩
  have B12 := B11.trans (hb12.mono B11.size)
  clear hb12 B11
  go_wp2_with fail
  refine (T5.out.at _).mono ?_
  rintro e W13 ⟨rfl, hb13⟩
  have B13 := B12.trans (hb13.mono B12.size)
  clear hb13 B12
  go_wp2_with fail
  refine (N3.out _).mono ?_
  rintro e W14 ⟨rfl, hb14⟩
  have B14 := B13.trans (hb14.mono B13.size)
  clear hb14 B13
  go_wp2_with fail
  refine (T6.out.at _).mono ?_
  rintro e W15 ⟨rfl, hb15⟩
  have B15 := B14.trans (hb15.mono B14.size)
  clear hb15 B14
  go_wp2_with fail
  refine (N4.out _).mono ?_
  rintro e W16 ⟨rfl, hb16⟩
  have B16 := B15.trans (hb16.mono B15.size)
  clear hb16 B15
  go_wp2_with fail
  refine (T7.out.at _).mono ?_
  rintro e W17 ⟨rfl, hb17⟩
  have B17 := B16.trans (hb17.mono B16.size)
  clear hb17 B16
  go_wp2_with fail
  go_ret
  exact ⟨rfl, B17⟩
theorem arith_row (a b c : Int) (w : World) (ha : 0 ≤ a ∧ a ≤ 255) (hb : 0 ≤ b ∧ b ≤ 255) (hc : 0 ≤ c ∧ c ≤ 255) :
    Calls Try.prog 5 #[.int .u8 a, .int .u8 b, .int .u8 c] w fun e w' => e = .returned (.bool true) ∧ Below w.heap.size w w' := by
  obtain ⟨a, rfl⟩ := Int.eq_ofNat_of_zero_le ha.1
  obtain ⟨b, rfl⟩ := Int.eq_ofNat_of_zero_le hb.1
  obtain ⟨c, rfl⟩ := Int.eq_ofNat_of_zero_le hc.1
  exact arith_walk a b c w (by omega) (by omega) (by omega)

end Bt
end Go.Proofs.Ytjfijhchnchfcaa
