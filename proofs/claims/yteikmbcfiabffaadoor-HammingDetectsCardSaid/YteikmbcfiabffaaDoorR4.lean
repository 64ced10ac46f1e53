/- Statement HammingDetects: the walk. -/
import Derived.Test.YteikmbcfiabffaaDoorR3
namespace Go.Proofs.YteikmbcfiabffaaDoor
open Go.RowKit Go.Shelf Fr
namespace Hm
set_option linter.unusedVariables false

theorem decE_two {d i j : Nat} (h : d < 2 ^ 57) (hi : i < 64) (hj : j < 64) (hij : i ≠ j) : decE (enc d ^^^ 2 ^ i ^^^ 2 ^ j) = 6 ∧ decN (enc d ^^^ 2 ^ i ^^^ 2 ^ j) = 0 ∧ decD (enc d ^^^ 2 ^ i ^^^ 2 ^ j) = 0 := by
  unfold decE decN decD; rw [check_two h hi hj hij]; exact ⟨rfl, rfl, rfl⟩

set_option maxRecDepth 100000 in
set_option maxHeartbeats 4000000 in
theorem detects_walk (d k l : Nat) (i j : Int) (w : World) (hx : d < 18446744073709551616) (hk : k < 64) (hl : l < 64) (hi : i % 64 = (k : Int)) (hj : j % 64 = (l : Int)) (h0 : 0 ≤ i) (h1 : i ≤ 255) (h2 : 0 ≤ j) (h3 : j ≤ 255) (hv : Vars w) :
    Calls Tryd.prog 6 #[.int .u64 (d : Int), .int .u8 i, .int .u8 j] w fun e w' => e = .returned (.bool true) ∧ Below w.heap.size w w' := by
  have HEX := Lib.hid (examples_any w hv)
  have S0 := St.start hv
  have HC := Lib.hid (fun W => cut_any d W hx)
  have hr := low57 d
  generalize d % 2 ^ 57 = r at *
  have HN := Lib.hid (enc_cut r hr)
  have hc := enc_lt hr
  have HF := Lib.hid (fun W => flip_in (enc r) k W hc hk)
  have ho : enc r ^^^ 2 ^ k < 2 ^ 64 := Nat.xor_lt_two_pow hc (pow_lt hk)
  have HG := Lib.hid (fun W => flip_in (enc r ^^^ 2 ^ k) l W ho hl)
  have ho2 : enc r ^^^ 2 ^ k ^^^ 2 ^ l < 2 ^ 64 := Nat.xor_lt_two_pow ho (pow_lt hl)
  by_cases hkl : k = l
  · subst hkl
    have HI := Lib.hid hi
    rw [flip_flip] at HG
    clear hr hv hx hc ho hk hl ho2
    generalize enc r ^^^ 2 ^ k = o at *
    generalize enc r = c at *
    go_enter Tryd.func6, Tryd.ntmps6
    go_wp2_with fail
    refine HEX.out.mono ?_
    rintro e w1 ⟨rfl, hb⟩
    have S1 := S0.step hb
    clear hb S0
    go_wp2_with fail
    refine (HC.out _).mono ?_
    rintro e w' ⟨rfl, rfl⟩
    go_wp2_with fail
    refine (HN.out _ S1.v).mono ?_
    rintro e w2 ⟨rfl, hb⟩
    have S2 := (S1.step hb).alloc (.cells #[.int .u64 (c : Int), .int .i64 0] 27)
    have X2 := Box2.new w2 (.int .u64 (c : Int)) (.int .i64 0) 27
    clear hb S1
    have x0 := X2.c0
    have x1 := X2.c1
    go_wp2_with fail
    refine (HF.out _).mono ?_
    rintro e w' ⟨rfl, rfl⟩
    go_wp2_with fail
    refine (HG.out _).mono ?_
    rintro e w' ⟨rfl, rfl⟩
    go_wp2_with fail
    go_ret
    exact ⟨rfl, S2.b⟩
  · obtain ⟨e1, e2, e3⟩ := decE_two hr hk hl hkl
    have HK := Lib.hid (check_lit (enc r ^^^ 2 ^ k ^^^ 2 ^ l) (enc r ^^^ 2 ^ k ^^^ 2 ^ l : Nat) 2 rfl ho2 (by rw [check_two hr hk hl hkl]; rfl))
    have HD := Lib.hid (dec_lit (enc r ^^^ 2 ^ k ^^^ 2 ^ l) (enc r ^^^ 2 ^ k ^^^ 2 ^ l : Nat) 0 0 6 rfl ho2 (by rw [e3]; rfl) (by rw [e2]; rfl) (by rw [e1]; rfl))
    have HL := Lib.hid (distance_lit (enc r ^^^ 2 ^ k ^^^ 2 ^ l) (enc r) (enc r ^^^ 2 ^ k ^^^ 2 ^ l : Nat) (enc r) 2 rfl rfl ho2 hc (by rw [Nat.xor_assoc (enc r), xor_cancel]; show ((ones 64 (2 ^ k ^^^ 2 ^ l) : Nat) : Int) = 2; rw [ones_two_pows hk hl hkl]; rfl))
    have q1 : ((k : Int) == (l : Int)) = false := by simp; omega
    have q2 : decide (k = l) = false := by simp [hkl]
    have q3 : (k == l) = false := by simp [hkl]
    clear hr hv hx hc ho hk hl ho2 e1 e2 e3 hkl
    generalize enc r ^^^ 2 ^ k ^^^ 2 ^ l = o2 at *
    generalize enc r ^^^ 2 ^ k = o at *
    generalize enc r = c at *
    go_enter Tryd.func6, Tryd.ntmps6
    go_wp2_with fail
    refine HEX.out.mono ?_
    rintro e w1 ⟨rfl, hb⟩
    have S1 := S0.step hb
    clear hb S0
    go_wp2_with fail
    refine (HC.out _).mono ?_
    rintro e w' ⟨rfl, rfl⟩
    go_wp2_with fail
    refine (HN.out _ S1.v).mono ?_
    rintro e w2 ⟨rfl, hb⟩
    have S2 := (S1.step hb).alloc (.cells #[.int .u64 (c : Int), .int .i64 0] 27)
    have X2 := Box2.new w2 (.int .u64 (c : Int)) (.int .i64 0) 27
    clear hb S1
    have x0 := X2.c0
    have x1 := X2.c1
    go_wp2_with fail
    refine (HF.out _).mono ?_
    rintro e w' ⟨rfl, rfl⟩
    go_wp2_with fail
    refine (HG.out _).mono ?_
    rintro e w' ⟨rfl, rfl⟩
    go_wp2_with fail
    refine (HK.out _ S2.v).mono ?_
    rintro e w' ⟨rfl, rfl⟩
    go_wp2_with fail
    refine (HD.out _ S2.v).mono ?_
    rintro e w3 ⟨rfl, hb⟩
    have S3 := S2.step hb
    have X3 := X2.keep hb
    clear hb S2 X2 x0 x1
    have x0 := X3.c0
    have x1 := X3.c1
    go_wp2_with fail
    refine (HL.out _).mono ?_
    rintro e w' ⟨rfl, rfl⟩
    go_wp2_with fail
    go_ret
    exact ⟨rfl, S3.b⟩

theorem detects_row (a i j : Int) (w : World) (h : 0 ≤ a ∧ a ≤ 18446744073709551615) (hi : 0 ≤ i ∧ i ≤ 255) (hj : 0 ≤ j ∧ j ≤ 255) (hv : Vars w) :
    Calls Tryd.prog 6 #[.int .u64 a, .int .u8 i, .int .u8 j] w fun e w' => e = .returned (.bool true) ∧ Below w.heap.size w w' := by
  obtain ⟨d, rfl⟩ := Int.eq_ofNat_of_zero_le h.1
  exact detects_walk d (i % 64).toNat (j % 64).toNat i j w (by omega) (by omega) (by omega) (by omega) (by omega) hi.1 hi.2 hj.1 hj.2 hv

end Hm
end Go.Proofs.YteikmbcfiabffaaDoor
