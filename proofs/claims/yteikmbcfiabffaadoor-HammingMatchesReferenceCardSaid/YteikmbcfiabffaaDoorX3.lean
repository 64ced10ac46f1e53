/- The reference's EncodeIn and DecodeIn. -/
import Derived.Test.YteikmbcfiabffaaDoorX2
namespace Go.Proofs.YteikmbcfiabffaaDoor
open Go.RowKit Go.Shelf
namespace Hm
set_option linter.unusedVariables false

theorem shr_and_one (s k : Nat) (hs : s < 64) : bits .and .i64 ((s : Int) / 2 ^ k) 1 = ((s / 2 ^ k % 2 : Nat) : Int) := by
  have h := and_i64 (s / 2 ^ k) (2 ^ 1 - 1) (Nat.lt_of_le_of_lt (Nat.div_le_self _ _) (by omega)) (by decide)
  rw [Nat.and_two_pow_sub_one_eq_mod] at h
  simpa using h
theorem pow_small (k : Nat) (h : k < 6) : 2 ^ k < 64 := Nat.lt_of_lt_of_le (Nat.pow_lt_pow_right (by decide) h) (by decide)

set_option maxHeartbeats 1000000 in
theorem rencode_ok (d : Nat) (w : World) (hd : d < 2 ^ 57) :
    Calls Tryd.prog 11 #[.int .u64 (d : Int)] w fun e w' => e = .returned (.agg #[.int .u64 (enc d : Int), .int .i64 0]) ∧ Below w.heap.size w w' := by
  have hx : d < 18446744073709551616 := Nat.lt_trans hd (by decide)
  have HB := Lib.hid (fun k W h => bit_any d k W hx h)
  have HA := Lib.hid (spr_all hd)
  have hsp := spread_lt hd
  have HY := Lib.hid (fun W => rsyn_any (spread d) W hsp)
  have H6 : Hid (six' (spread d) (sy (spread d)) 6 = six d) := Lib.hid (six_all hd)
  have HO := Lib.hid (fun W => rones_any (six d) W (six_lt hd))
  have hsy := sy_lt (spread d)
  have HSL : Hid (∀ k, k ≤ 6 → six' (spread d) (sy (spread d)) k < 2 ^ 64) := Lib.hid (six'_lt hsp)
  have HQ : Hid (six d ||| pop (six d) % 2 = enc d) := Lib.hid (enc_or hd)
  have HO1 := Lib.hid (bits_or_u64_nat (six d) 1 (six_lt hd) (by decide))
  have z2 : ((d : Int) / 144115188075855872 != 0) = false := by simp; omega
  have z3 : ((d : Int) / 144115188075855872 == 0) = true := by simp; omega
  clear hx hd hsp
  generalize hu : spread d = u at *
  clear hu
  generalize sy u = s at *
  go_enter Tryd.func11, Tryd.ntmps11
  go_wp2_with fail
  go_loop [3, 4] (fun n p => ∃ k : Nat, k ≤ 57 ∧ n = .int .u64 (spr d k : Int) ∧ p = .int .i64 (k : Int)) (fun _ p => (57 - intOf p).toNat)
  case atStart => exact ⟨0, by omega, rfl, rfl⟩
  case round =>
    obtain ⟨k, hk, rfl, rfl⟩ := hrel
    by_cases hlt : k < 57
    · have d1 : decide ((k : Int) < 57) = true := by simp; omega
      have hs : spr d (k + 1) = if d.testBit k then spr d k ||| 2 ^ place k else spr d k := rfl
      have hpl := place_lt k hlt
      have HT := Lib.hid (fun W => HB.out k W (by omega))
      have HP := Lib.hid (fun W => place_any k W hlt)
      have k0 : IntKind.u64.wrap (place k : Int) = (place k : Int) := wrap_u64_of rfl (by omega)
      have k1 := pow_u64 (place k) hpl
      have k2 := bits_or_u64_nat (spr d k) (2 ^ place k) (spr_lt d k hk) (pow_lt hpl)
      cases hb : d.testBit k with
      | true =>
        rw [hb] at HT hs
        have HS := Lib.hid hs
        clear hb hs
        generalize ((2 ^ place k : Nat) : Int) = p at *
        generalize spr d k ||| 2 ^ place k = m' at *
        generalize place k = q at *
        generalize spr d k = m at *
        go_wp2_with fail
        refine (HT.out _).mono ?_
        rintro e w' ⟨rfl, rfl⟩
        go_wp2_with fail
        refine (HP.out _).mono ?_
        rintro e w' ⟨rfl, rfl⟩
        go_wp2_with fail
        go_round
        case rel => exact ⟨k + 1, by omega, by rw [HS.out]; rfl, by go_num⟩
        case measure => simp [intOf]; omega
      | false =>
        rw [hb] at HT hs
        have HS := Lib.hid hs
        clear hb hs k0 k1 k2
        generalize spr d k = m at *
        go_wp2_with fail
        refine (HT.out _).mono ?_
        rintro e w' ⟨rfl, rfl⟩
        go_wp2_with fail
        go_round
        case rel => exact ⟨k + 1, by omega, by rw [HS.out]; rfl, by go_num⟩
        case measure => simp [intOf]; omega
    · obtain rfl : k = 57 := by omega
      have d1 : decide (((57 : Nat) : Int) < 57) = false := by decide
      rw [HA.out]
      go_wp2_with fail
      refine (HY.out _).mono ?_
      rintro e w' ⟨rfl, rfl⟩
      go_wp2_with fail
      clear HY HA HB d1
      go_loop [3, 6] (fun n p => ∃ k : Nat, k ≤ 6 ∧ n = .int .u64 (six' u s k : Int) ∧ p = .int .i64 (k : Int)) (fun _ p => (6 - intOf p).toNat)
      case atStart => exact ⟨0, by omega, rfl, rfl⟩
      case round =>
        obtain ⟨k, hk, rfl, rfl⟩ := hrel
        by_cases hlt : k < 6
        · have d1 : decide ((k : Int) < 6) = true := by simp; omega
          have hs : six' u s (k + 1) = if s.testBit k then six' u s k ||| 2 ^ 2 ^ k else six' u s k := rfl
          have kb := shr_and_one s k hsy
          have hp := pow_small k hlt
          have k0 : IntKind.u64.wrap (k : Int) = (k : Int) := wrap_u64_of rfl (by omega)
          have k1 := pow_u64 k (by omega)
          have k3 := pow_u64 (2 ^ k) hp
          have k2 := bits_or_u64_nat (six' u s k) (2 ^ 2 ^ k) (HSL.out k hk) (pow_lt hp)
          rw [testBit_div] at hs
          rcases (by omega : s / 2 ^ k % 2 = 0 ∨ s / 2 ^ k % 2 = 1) with e | e
          · rw [e] at kb hs
            have HS := Lib.hid hs
            clear e hs k0 k1 k2 k3 hp
            generalize six' u s k = m at *
            go_wp2_with fail
            exact ⟨⟨k + 1, by omega, by rw [HS.out]; rfl, by go_num⟩, by simp [intOf]; omega⟩
          · rw [e] at kb hs
            have HS := Lib.hid hs
            clear e hs
            generalize (2 : Nat) ^ k = q at *
            generalize six' u s k ||| 2 ^ q = m' at *
            generalize ((2 ^ q : Nat) : Int) = p at *
            generalize six' u s k = m at *
            go_wp2_with fail
            exact ⟨⟨k + 1, by omega, by rw [HS.out]; rfl, by go_num⟩, by simp [intOf]; omega⟩
        · obtain rfl : k = 6 := by omega
          have d1 : decide (((6 : Nat) : Int) < 6) = false := by decide
          rw [H6.out]
          have hl := pop_le (six d)
          have hq := HQ.out
          rcases (by omega : pop (six d) % 2 = 0 ∨ pop (six d) % 2 = 1) with e | e
          · rw [e, Nat.or_zero] at hq
            have e1 : (pop (six d) : Int) % 2 = 0 := by omega
            have HE := Lib.hid hq
            clear e hl HQ HO1 H6 HSL hq
            generalize six d = c at *
            generalize pop c = n at *
            go_wp2_with fail
            refine (HO.out _).mono ?_
            rintro e w' ⟨rfl, rfl⟩
            go_wp2_with fail
            refine bodyPost_ret (v := .agg #[.int .u64 (c : Int), .int .i64 0]) (by simp [results, Tryd.results11, go_sem]) rfl ⟨by rw [HE.out], ?_⟩
            exact (Below.refl _ w).alloc (Nat.le_refl _) _
          · rw [e] at hq
            have e1 : (pop (six d) : Int) % 2 = 1 := by omega
            have hO := HO1.out
            rw [hq] at hO
            have HE : Hid (bits .or .u64 (six d : Int) 1 = (enc d : Int)) := Lib.hid hO
            clear e hl HQ HO1 H6 HSL hq hO
            generalize six d = c at *
            generalize pop c = n at *
            go_wp2_with fail
            refine (HO.out _).mono ?_
            rintro e w' ⟨rfl, rfl⟩
            go_wp2_with fail
            refine bodyPost_ret (v := .agg #[.int .u64 (bits .or .u64 (c : Int) 1), .int .i64 0]) (by simp [results, Tryd.results11, go_sem]) rfl ⟨by rw [HE.out], ?_⟩
            exact (Below.refl _ w).alloc (Nat.le_refl _) _

theorem rencode_no (d : Nat) (w : World) (hx : d < 18446744073709551616) (hd : ¬ d < 2 ^ 57) :
    Calls Tryd.prog 11 #[.int .u64 (d : Int)] w fun e w' => e = .returned (.agg #[.int .u64 0, .int .i64 1]) ∧ Below w.heap.size w w' := by
  have z2 : ((d : Int) / 144115188075855872 != 0) = true := by simp; omega
  have z3 : ((d : Int) / 144115188075855872 == 0) = false := by simp; omega
  clear hx hd
  go_enter Tryd.func11, Tryd.ntmps11
  go_wp2_with fail
  refine bodyPost_ret (v := .agg #[.int .u64 0, .int .i64 1]) (by simp [results, Tryd.results11, go_sem]) rfl ⟨rfl, ?_⟩
  exact (Below.refl _ w).alloc (Nat.le_refl _) _
theorem rencode_any (d : Nat) (w : World) (hx : d < 18446744073709551616) :
    Calls Tryd.prog 11 #[.int .u64 (d : Int)] w fun e w' => e = .returned (.agg #[.int .u64 (encD d : Int), .int .i64 (encE d : Int)]) ∧ Below w.heap.size w w' := by
  unfold encD encE
  by_cases hd : d < 2 ^ 57
  · rw [if_pos hd, if_pos hd]
    exact rencode_ok d w hd
  · rw [if_neg hd, if_neg hd]
    exact rencode_no d w hx hd

set_option maxHeartbeats 1000000 in
theorem rdecode_any (x : Nat) (w : World) (hx : x < 18446744073709551616) :
    Calls Tryd.prog 20 #[.int .u64 (x : Int)] w fun e w' => e = .returned (.agg #[.int .u64 (decD x : Int), .int .i64 (decN x : Int), .int .i64 (decE x : Int)]) ∧ Below w.heap.size w w' := by
  have HC := Lib.hid (fun W => rcheck_any x W hx)
  have HS := Lib.hid (fun W => rsyn_any x W hx)
  have hs := sy_lt x
  have HF := Lib.hid (fun W => rflip_in x (sy x) W hx hs)
  have HG1 := Lib.hid (fun W => rdata_any (x ^^^ 2 ^ sy x) W (Nat.xor_lt_two_pow (n := 64) hx (pow_lt hs)))
  have HG2 := Lib.hid (fun W => rdata_any x W hx)
  rw [check_decD]
  unfold decN decE
  clear hx hs
  rcases check_le x with h | h | h
  · rw [h] at HC ⊢
    simp only [if_neg (by decide : ¬ (0 : Nat) = 2), if_neg (by decide : ¬ (0 : Nat) = 1)]
    clear h
    generalize gather x = g at *
    go_enter Tryd.func20, Tryd.ntmps20
    go_wp2_with fail
    refine (HC.out _).mono ?_
    rintro e w' ⟨rfl, rfl⟩
    go_wp2_with fail
    refine (HG2.out _).mono ?_
    rintro e w' ⟨rfl, rfl⟩
    go_wp2_with fail
    exact bodyPost_ret (v := .agg #[.int .u64 (g : Int), .int .i64 0, .int .i64 0]) (by simp [results, Tryd.results20, go_sem]) rfl ⟨rfl, (Below.refl _ w).alloc (Nat.le_refl _) _⟩
  · rw [h] at HC ⊢
    simp only [if_neg (by decide : ¬ (1 : Nat) = 2), if_pos]
    clear h
    generalize gather (x ^^^ 2 ^ sy x) = g at *
    generalize x ^^^ 2 ^ sy x = y at *
    generalize sy x = s at *
    go_enter Tryd.func20, Tryd.ntmps20
    go_wp2_with fail
    refine (HC.out _).mono ?_
    rintro e w' ⟨rfl, rfl⟩
    go_wp2_with fail
    refine (HS.out _).mono ?_
    rintro e w' ⟨rfl, rfl⟩
    go_wp2_with fail
    refine (HF.out _).mono ?_
    rintro e w' ⟨rfl, rfl⟩
    go_wp2_with fail
    refine (HG1.out _).mono ?_
    rintro e w' ⟨rfl, rfl⟩
    go_wp2_with fail
    exact bodyPost_ret (v := .agg #[.int .u64 (g : Int), .int .i64 1, .int .i64 0]) (by simp [results, Tryd.results20, go_sem]) rfl ⟨rfl, (Below.refl _ w).alloc (Nat.le_refl _) _⟩
  · rw [h] at HC ⊢
    simp only [if_pos, if_neg (by decide : ¬ (2 : Nat) = 1)]
    clear h
    go_enter Tryd.func20, Tryd.ntmps20
    go_wp2_with fail
    refine (HC.out _).mono ?_
    rintro e w' ⟨rfl, rfl⟩
    go_wp2_with fail
    exact bodyPost_ret (v := .agg #[.int .u64 0, .int .i64 0, .int .i64 6]) (by simp [results, Tryd.results20, go_sem]) rfl ⟨rfl, (Below.refl _ w).alloc (Nat.le_refl _) _⟩

end Hm
end Go.Proofs.YteikmbcfiabffaaDoor
