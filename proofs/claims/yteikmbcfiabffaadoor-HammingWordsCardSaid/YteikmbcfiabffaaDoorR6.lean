/- Statement HammingWords: the walk. -/
import Derived.Test.YteikmbcfiabffaaDoorR3
namespace Go.Proofs.YteikmbcfiabffaaDoor
open Go.RowKit Go.Shelf Fr
namespace Hm
set_option linter.unusedVariables false

theorem leads_succ (x k : Nat) (h : check (x ^^^ 2 ^ k) = 0) : leads x (k + 1) = leads x k + 1 := by rw [leads, if_pos h]
theorem leads_same (x k : Nat) (h : ¬ check (x ^^^ 2 ^ k) = 0) : leads x (k + 1) = leads x k := by rw [leads, if_neg h]; rfl
theorem leads_le (x : Nat) : ∀ k, leads x k ≤ k
  | 0 => Nat.le_refl _
  | k + 1 => by
    have := leads_le x k
    unfold leads
    split <;> omega
/-- How many positions of a word lead to a code word. -/
def total (x : Nat) : Nat := leads x 64

set_option maxRecDepth 100000 in
set_option maxHeartbeats 4000000 in
theorem words_walk (x : Nat) (w : World) (hx : x < 18446744073709551616) (hv : Vars w) :
    Calls Tryd.prog 8 #[.int .u64 (x : Int)] w fun e w' => e = .returned (.bool true) ∧ Below w.heap.size w w' := by
  have HEX := Lib.hid (examples_any w hv)
  have S0 := St.start hv
  have HX := Lib.hid hx
  clear hx hv
  go_enter Tryd.func8, Tryd.ntmps8
  go_wp2_with fail
  refine HEX.out.mono ?_
  rintro e w1 ⟨rfl, hb⟩
  have S1 := S0.step hb
  clear hb S0
  go_wp2_with fail
  go_loop [4, 5] (fun n i => ∃ k : Nat, k ≤ 64 ∧ i = .int .i64 (k : Int) ∧ n = .int .i64 (leads x k : Int)) (fun _ i => (64 - intOf i).toNat)
  case atStart => exact ⟨0, by omega, rfl, rfl⟩
  case round =>
    obtain ⟨k, hk, rfl, rfl⟩ := hrel
    by_cases h64 : k < 64
    · have h1 : decide ((k : Int) < 64) = true := by simp; omega
      have ho : x ^^^ 2 ^ k < 18446744073709551616 := Nat.xor_lt_two_pow (n := 64) HX.out (pow_lt h64)
      have HF := Lib.hid (flip_in x k w1 HX.out h64)
      have HK := Lib.hid (check_any (x ^^^ 2 ^ k) w1 ho S1.v)
      have hle := leads_le x k
      by_cases hc : check (x ^^^ 2 ^ k) = 0
      · have HE := Lib.hid (leads_succ x k hc)
        rw [hc] at HK
        clear ho hc
        generalize x ^^^ 2 ^ k = o at *
        generalize leads x k = n at *
        go_wp2_with fail
        refine HF.out.mono ?_
        rintro e w' ⟨rfl, rfl⟩
        go_wp2_with fail
        refine HK.out.mono ?_
        rintro e w' ⟨rfl, rfl⟩
        go_wp2_with fail
        go_round
        case rel => exact ⟨k + 1, by omega, by go_num, by rw [HE.out]; go_num⟩
        case measure => simp [intOf]; omega
      · have HE := Lib.hid (leads_same x k hc)
        have q1 : ((check (x ^^^ 2 ^ k) : Int) == 0) = false := by simp; omega
        clear ho hc
        generalize check (x ^^^ 2 ^ k) = c at *
        generalize x ^^^ 2 ^ k = o at *
        generalize leads x k = n at *
        go_wp2_with fail
        refine HF.out.mono ?_
        rintro e w' ⟨rfl, rfl⟩
        go_wp2_with fail
        refine HK.out.mono ?_
        rintro e w' ⟨rfl, rfl⟩
        go_wp2_with fail
        go_round
        case rel => exact ⟨k + 1, by omega, by go_num, by rw [HE.out]⟩
        case measure => simp [intOf]; omega
    · obtain rfl : k = 64 := by omega
      have h1 : decide (((64 : Nat) : Int) < 64) = false := by decide
      have ht : leads x 64 = total x := rfl
      rw [ht]
      have hd := decD_lt HX.out
      have HD := Lib.hid (decoded_any x w1 HX.out S1.v)
      have HN := Lib.hid (enc_cut (decD x) hd)
      have HK := Lib.hid (fun W hv => check_any x W HX.out hv)
      clear h64 hk ht
      rcases check_le x with hc | hc | hc
      · have hl : total x = 0 := leads_even (by omega) 64 (by decide)
        obtain ⟨e1, e2, e3⟩ := words_zero HX.out hc
        rw [hl]
        rw [hc] at HK
        rw [e2, e3] at HD
        rw [e1] at HN
        clear hl hc e1 e2 e3 hd
        generalize decD x = d at *
        go_wp2_with fail
        refine HD.out.mono ?_
        rintro e w2 ⟨rfl, hb⟩
        have S2 := (S1.step hb).alloc (.cells #[.int .u64 (d : Int), .int .i64 0, .int .i64 0] 35)
        have X2 := Box3.new w2 (.int .u64 (d : Int)) (.int .i64 0) (.int .i64 0) 35
        clear hb S1
        have x0 := X2.c0
        go_wp2_with fail
        refine (HN.out _ S2.v).mono ?_
        rintro e w3 ⟨rfl, hb⟩
        have S3 := (S2.step hb).alloc (.cells #[.int .u64 (x : Int), .int .i64 0] 27)
        have X3 := (X2.keep hb).alloc (.cells #[.int .u64 (x : Int), .int .i64 0] 27)
        have Y3 := Box2.new w3 (.int .u64 (x : Int)) (.int .i64 0) 27
        clear hb S2 X2 x0
        have x0 := X3.c0
        have x1 := X3.c1
        have x2 := X3.c2
        have y0 := Y3.c0
        have y1 := Y3.c1
        go_wp2_with fail
        refine (HK.out _ S3.v).mono ?_
        rintro e w' ⟨rfl, rfl⟩
        go_wp2_with fail
        go_ret
        exact ⟨rfl, S3.b⟩
      · have hl : total x = 1 := leads_one hc
        obtain ⟨e1, e2, e3⟩ := words_one HX.out hc
        have HL := Lib.hid (distance_lit (enc (decD x)) x (enc (decD x)) x 1 rfl rfl (enc_lt hd) HX.out (by show ((ones 64 (enc (decD x) ^^^ x) : Nat) : Int) = 1; rw [e1]; rfl))
        rw [hl]
        rw [hc] at HK
        rw [e2, e3] at HD
        clear hl hc e1 e2 e3 hd
        generalize enc (decD x) = c at *
        generalize decD x = d at *
        go_wp2_with fail
        refine HD.out.mono ?_
        rintro e w2 ⟨rfl, hb⟩
        have S2 := (S1.step hb).alloc (.cells #[.int .u64 (d : Int), .int .i64 1, .int .i64 0] 35)
        have X2 := Box3.new w2 (.int .u64 (d : Int)) (.int .i64 1) (.int .i64 0) 35
        clear hb S1
        have x0 := X2.c0
        go_wp2_with fail
        refine (HN.out _ S2.v).mono ?_
        rintro e w3 ⟨rfl, hb⟩
        have S3 := (S2.step hb).alloc (.cells #[.int .u64 (c : Int), .int .i64 0] 27)
        have X3 := (X2.keep hb).alloc (.cells #[.int .u64 (c : Int), .int .i64 0] 27)
        have Y3 := Box2.new w3 (.int .u64 (c : Int)) (.int .i64 0) 27
        clear hb S2 X2 x0
        have x0 := X3.c0
        have x1 := X3.c1
        have x2 := X3.c2
        have y0 := Y3.c0
        have y1 := Y3.c1
        go_wp2_with fail
        refine (HK.out _ S3.v).mono ?_
        rintro e w' ⟨rfl, rfl⟩
        go_wp2_with fail
        refine (HL.out _).mono ?_
        rintro e w' ⟨rfl, rfl⟩
        go_wp2_with fail
        go_ret
        exact ⟨rfl, S3.b⟩
      · have hl : total x = 0 := leads_even (by omega) 64 (by decide)
        have e1 : decD x = 0 := by unfold decD; rw [hc]; rfl
        have e2 : decN x = 0 := by unfold decN; rw [hc]; rfl
        have e3 : decE x = 6 := by unfold decE; rw [hc]; rfl
        clear HN
        have HN := Lib.hid (enc_lit 0 0 0 0 (by decide) (by decide) (by decide +kernel) (by decide +kernel))
        rw [hl]
        rw [hc] at HK
        rw [e1, e2, e3] at HD
        clear hl hc e1 e2 e3 hd
        go_wp2_with fail
        refine HD.out.mono ?_
        rintro e w2 ⟨rfl, hb⟩
        have S2 := (S1.step hb).alloc (.cells #[.int .u64 0, .int .i64 0, .int .i64 6] 35)
        have X2 := Box3.new w2 (.int .u64 0) (.int .i64 0) (.int .i64 6) 35
        clear hb S1
        have x0 := X2.c0
        go_wp2_with fail
        refine (HN.out _ S2.v).mono ?_
        rintro e w3 ⟨rfl, hb⟩
        have S3 := (S2.step hb).alloc (.cells #[.int .u64 0, .int .i64 0] 27)
        have X3 := (X2.keep hb).alloc (.cells #[.int .u64 0, .int .i64 0] 27)
        have Y3 := Box2.new w3 (.int .u64 0) (.int .i64 0) 27
        clear hb S2 X2 x0
        have x0 := X3.c0
        have x1 := X3.c1
        have x2 := X3.c2
        have y0 := Y3.c0
        have y1 := Y3.c1
        go_wp2_with fail
        refine (HK.out _ S3.v).mono ?_
        rintro e w' ⟨rfl, rfl⟩
        go_wp2_with fail
        go_ret
        exact ⟨rfl, S3.b⟩

theorem words_row (a : Int) (w : World) (h : 0 ≤ a ∧ a ≤ 18446744073709551615) (hv : Vars w) :
    Calls Tryd.prog 8 #[.int .u64 a] w fun e w' => e = .returned (.bool true) ∧ Below w.heap.size w w' := by
  obtain ⟨x, rfl⟩ := Int.eq_ofNat_of_zero_le h.1
  exact words_walk x w (by omega) hv

end Hm
end Go.Proofs.YteikmbcfiabffaaDoor
