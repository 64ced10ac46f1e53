/- Statement HammingDistances: the walk. -/
import Derived.Test.YteikmbcfiabffaaDoorR3
namespace Go.Proofs.YteikmbcfiabffaaDoor
open Go.RowKit Go.Shelf Fr
namespace Hm
set_option linter.unusedVariables false

set_option maxRecDepth 100000 in
set_option maxHeartbeats 4000000 in
theorem distances_walk (x y : Nat) (w : World) (hx : x < 18446744073709551616) (hy : y < 18446744073709551616) (hv : Vars w) :
    Calls Tryd.prog 7 #[.int .u64 (x : Int), .int .u64 (y : Int)] w fun e w' => e = .returned (.bool true) ∧ Below w.heap.size w w' := by
  have HEX := Lib.hid (examples_any w hv)
  have S0 := St.start hv
  have hz : x ^^^ y < 18446744073709551616 := Nat.xor_lt_two_pow (n := 64) hx hy
  have HC := Lib.hid (fun W => cut_any x W hx)
  have HD := Lib.hid (fun W => cut_any y W hy)
  have HE := Lib.hid (fun W => cut_any (x ^^^ y) W hz)
  have kz := bits_xor_u64_nat x y hx hy
  rw [Nat.xor_mod_two_pow] at HE
  have hr := low57 x
  have hs := low57 y
  have ht : x % 2 ^ 57 ^^^ y % 2 ^ 57 < 2 ^ 57 := Nat.xor_lt_two_pow hr hs
  generalize x ^^^ y = z at *
  generalize x % 2 ^ 57 = r at *
  generalize y % 2 ^ 57 = s at *
  have HN := Lib.hid (enc_cut r hr)
  have HO := Lib.hid (enc_cut s hs)
  have HP := Lib.hid (enc_cut (r ^^^ s) ht)
  have kx := bits_xor_u64_nat (enc r) (enc s) (enc_lt hr) (enc_lt hs)
  have hf := enc_far hr hs
  rw [enc_xor hr hs] at kx hf
  have HL0 := Lib.hid (fun W => distance_any (enc r) (enc s) W (enc_lt hr) (enc_lt hs))
  rw [enc_xor hr hs] at HL0
  have hp : ones 64 (enc (r ^^^ s)) = pop (enc (r ^^^ s)) := rfl
  rw [hp] at hf
  generalize r ^^^ s = t at *
  clear hr hs ht hx hy hz hp hv
  generalize enc t = c at *
  generalize enc r = a at *
  generalize enc s = b at *
  generalize pop c = n at *
  go_enter Tryd.func7, Tryd.ntmps7
  have HF := Lib.hid hf
  clear hf
  go_wp2_with fail
  refine HEX.out.mono ?_
  rintro e w1 ⟨rfl, hb⟩
  have S1 := S0.step hb
  clear hb S0
  go_wp2_with fail
  refine (HC.out _).mono ?_
  rintro e w' ⟨rfl, rfl⟩
  go_wp2_with fail
  refine (HN.out _ S1.v).mono ?_
  rintro e w2 ⟨rfl, hb⟩
  have S2 := S1.step hb
  clear hb S1
  go_wp2_with fail
  refine (HD.out _).mono ?_
  rintro e w' ⟨rfl, rfl⟩
  go_wp2_with fail
  refine (HO.out _ S2.v).mono ?_
  rintro e w3 ⟨rfl, hb⟩
  have S3 := S2.step hb
  clear hb S2
  go_wp2_with fail
  refine (HE.out _).mono ?_
  rintro e w' ⟨rfl, rfl⟩
  go_wp2_with fail
  refine (HP.out _ S3.v).mono ?_
  rintro e w4 ⟨rfl, hb⟩
  have S4 := S3.step hb
  clear hb S3
  go_wp2_with fail
  have S5 := ((S4.alloc (.cells #[.int .u64 (a : Int), .int .i64 0] 27)).alloc (.cells #[.int .u64 (b : Int), .int .i64 0] 27)).alloc (.cells #[.int .u64 (c : Int), .int .i64 0] 27)
  refine (HL0.out _).mono ?_
  rintro e w' ⟨rfl, rfl⟩
  obtain ⟨f1, f2⟩ := HF.out
  by_cases hrs : r = s
  · have hn := f1.2 hrs
    have q1 : ((n : Int) == 0) = true := by rw [hn]; rfl
    have q2 : ((r : Int) == (s : Int)) = true := by simp [hrs]
    have q3 : (r == s) = true := by simp [hrs]
    have q4 : decide (r = s) = true := by simp [hrs]
    clear hn hrs f1 f2 HF
    go_wp2_with fail
    refine (HC.out _).mono ?_
    rintro e w' ⟨rfl, rfl⟩
    go_wp2_with fail
    refine (HD.out _).mono ?_
    rintro e w' ⟨rfl, rfl⟩
    go_wp2_with fail
    go_ret
    exact ⟨rfl, S5.b⟩
  · have hn : n ≠ 0 := fun h => hrs (f1.1 h)
    have q1 : ((n : Int) == 0) = false := by simp; omega
    have q2 : ((r : Int) == (s : Int)) = false := by simp; omega
    have q3 : (r == s) = false := by simp [hrs]
    have q4 : decide (r = s) = false := by simp [hrs]
    have q5 : 4 ≤ (n : Int) := by omega
    clear hn hrs f1 f2 HF
    go_wp2_with fail
    refine (HC.out _).mono ?_
    rintro e w' ⟨rfl, rfl⟩
    go_wp2_with fail
    refine (HD.out _).mono ?_
    rintro e w' ⟨rfl, rfl⟩
    go_wp2_with fail
    go_ret
    exact ⟨rfl, S5.b⟩

theorem distances_row (a b : Int) (w : World) (h : 0 ≤ a ∧ a ≤ 18446744073709551615) (hb : 0 ≤ b ∧ b ≤ 18446744073709551615) (hv : Vars w) :
    Calls Tryd.prog 7 #[.int .u64 a, .int .u64 b] w fun e w' => e = .returned (.bool true) ∧ Below w.heap.size w w' := by
  obtain ⟨x, rfl⟩ := Int.eq_ofNat_of_zero_le h.1
  obtain ⟨y, rfl⟩ := Int.eq_ofNat_of_zero_le hb.1
  exact distances_walk x y w (by omega) (by omega) hv

end Hm
end Go.Proofs.YteikmbcfiabffaaDoor
