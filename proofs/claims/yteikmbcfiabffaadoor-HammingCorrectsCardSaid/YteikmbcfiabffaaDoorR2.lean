/- Statement HammingRoundTrip: the walk. -/
import Derived.Test.YteikmbcfiabffaaDoorW6
import Derived.Test.YteikmbcfiabffaaDoorL0
namespace Go.Proofs.YteikmbcfiabffaaDoor
open Go.RowKit Go.Shelf Fr
namespace Hm
set_option linter.unusedVariables false

/-- The data bits of a number, and what is asked of their code word. -/
theorem low57 (d : Nat) : d % 2 ^ 57 < 2 ^ 57 := Nat.mod_lt _ (by decide)
theorem enc_cut (r : Nat) (hr : r < 2 ^ 57) (w : World) (hv : Vars w) :
    Calls Tryd.prog 10 #[.int .u64 (r : Int)] w fun e w' => e = .returned (.agg #[.int .u64 (enc r : Int), .int .i64 0]) ∧ Below w.heap.size w w' :=
  enc_lit r r (enc r) 0 rfl (Nat.lt_trans hr (by decide)) (by rw [encD, if_pos hr]) (by rw [encE, if_pos hr]; rfl) w hv
theorem enc_not (d : Nat) (hx : d < 18446744073709551616) (hd : ¬ d < 2 ^ 57) (w : World) (hv : Vars w) :
    Calls Tryd.prog 10 #[.int .u64 (d : Int)] w fun e w' => e = .returned (.agg #[.int .u64 0, .int .i64 1]) ∧ Below w.heap.size w w' :=
  enc_lit d d 0 1 rfl hx (by rw [encD, if_neg hd]; rfl) (by rw [encE, if_neg hd]; rfl) w hv
theorem decE_enc {d : Nat} (h : d < 2 ^ 57) : decE (enc d) = 0 := by unfold decE; rw [check_enc h]; rfl
theorem decN_enc {d : Nat} (h : d < 2 ^ 57) : decN (enc d) = 0 := by unfold decN; rw [check_enc h]; rfl

set_option maxRecDepth 100000 in
set_option maxHeartbeats 4000000 in
theorem trip_walk (d : Nat) (w : World) (hx : d < 18446744073709551616) (hv : Vars w) :
    Calls Tryd.prog 4 #[.int .u64 (d : Int)] w fun e w' => e = .returned (.bool true) ∧ Below w.heap.size w w' := by
  have HEX := Lib.hid (examples_any w hv)
  have S0 := St.start hv
  have HC := Lib.hid (fun W => cut_any d W hx)
  have hr := low57 d
  generalize d % 2 ^ 57 = r at *
  have HN := Lib.hid (enc_cut r hr)
  have HK := Lib.hid (check_lit (enc r) (enc r) 0 rfl (enc_lt hr) (by rw [check_enc hr]; rfl))
  have HD := Lib.hid (dec_lit (enc r) (enc r) r 0 0 rfl (enc_lt hr) (by rw [decD_enc hr]) (by rw [decN_enc hr]; rfl) (by rw [decE_enc hr]; rfl))
  clear hr hv
  by_cases hd : d < 2 ^ 57
  · have z2 : ((d : Int) / 144115188075855872 != 0) = false := by simp; omega
    have z3 : ((d : Int) / 144115188075855872 == 0) = true := by simp; omega
    clear hd hx
    generalize enc r = c at *
    go_enter Tryd.func4, Tryd.ntmps4
    go_wp2_with fail
    refine HEX.out.mono ?_
    rintro e w1 ⟨rfl, hb⟩
    have S1 := S0.step hb
    clear hb S0
    go_wp2_with fail
    refine (HC.out _).mono ?_
    rintro e w' ⟨rfl, rfl⟩
    go_wp2_with fail
    refine (HN.out _ S1.v).mono ?_
    rintro e w2 ⟨rfl, hb⟩
    have S2 := (S1.step hb).alloc (.cells #[.int .u64 (c : Int), .int .i64 0] 27)
    have X2 := Box2.new w2 (.int .u64 (c : Int)) (.int .i64 0) 27
    clear hb S1
    have x0 := X2.c0
    have x1 := X2.c1
    go_wp2_with fail
    refine (HK.out _ S2.v).mono ?_
    rintro e w' ⟨rfl, rfl⟩
    go_wp2_with fail
    refine (HD.out _ S2.v).mono ?_
    rintro e w3 ⟨rfl, hb⟩
    have S3 := S2.step hb
    clear hb S2 X2 x0 x1
    go_wp2_with fail
    refine (HC.out _).mono ?_
    rintro e w' ⟨rfl, rfl⟩
    go_wp2_with fail
    go_ret
    exact ⟨rfl, S3.b⟩
  · have z2 : ((d : Int) / 144115188075855872 != 0) = true := by simp; omega
    have z3 : ((d : Int) / 144115188075855872 == 0) = false := by simp; omega
    have HO := Lib.hid (enc_not d hx hd)
    clear hd hx
    generalize enc r = c at *
    go_enter Tryd.func4, Tryd.ntmps4
    go_wp2_with fail
    refine HEX.out.mono ?_
    rintro e w1 ⟨rfl, hb⟩
    have S1 := S0.step hb
    clear hb S0
    go_wp2_with fail
    refine (HO.out _ S1.v).mono ?_
    rintro e w1' ⟨rfl, hb⟩
    have S1 := S1.step hb
    clear hb
    go_wp2_with fail
    refine (HC.out _).mono ?_
    rintro e w' ⟨rfl, rfl⟩
    go_wp2_with fail
    refine (HN.out _ S1.v).mono ?_
    rintro e w2 ⟨rfl, hb⟩
    have S2 := (S1.step hb).alloc (.cells #[.int .u64 (c : Int), .int .i64 0] 27)
    have X2 := Box2.new w2 (.int .u64 (c : Int)) (.int .i64 0) 27
    clear hb S1
    have x0 := X2.c0
    have x1 := X2.c1
    go_wp2_with fail
    refine (HK.out _ S2.v).mono ?_
    rintro e w' ⟨rfl, rfl⟩
    go_wp2_with fail
    refine (HD.out _ S2.v).mono ?_
    rintro e w3 ⟨rfl, hb⟩
    have S3 := S2.step hb
    clear hb S2 X2 x0 x1
    go_wp2_with fail
    refine (HC.out _).mono ?_
    rintro e w' ⟨rfl, rfl⟩
    go_wp2_with fail
    go_ret
    exact ⟨rfl, S3.b⟩

theorem trip_row (a : Int) (w : World) (h : 0 ≤ a ∧ a ≤ 18446744073709551615) (hv : Vars w) :
    Calls Tryd.prog 4 #[.int .u64 a] w fun e w' => e = .returned (.bool true) ∧ Below w.heap.size w w' := by
  obtain ⟨d, rfl⟩ := Int.eq_ofNat_of_zero_le h.1
  exact trip_walk d w (by omega) hv

end Hm
end Go.Proofs.YteikmbcfiabffaaDoor
