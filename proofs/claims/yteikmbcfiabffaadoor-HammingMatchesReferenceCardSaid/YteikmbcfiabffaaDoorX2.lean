/- The reference's Flip, Distance, Check, Data, EncodeIn and DecodeIn return what the package's functions return. -/
import Derived.Test.YteikmbcfiabffaaDoorX1
namespace Go.Proofs.YteikmbcfiabffaaDoor
open Go.RowKit Go.Shelf
namespace Hm
set_option linter.unusedVariables false

theorem rflip_in (x k : Nat) (w : World) (hx : x < 18446744073709551616) (hk : k < 64) :
    Calls Tryd.prog 14 #[.int .u64 (x : Int), .int .i64 (k : Int)] w fun e w' => e = .returned (.int .u64 ((x ^^^ 2 ^ k : Nat) : Int)) ∧ w = w' := by
  have k0 : IntKind.u64.wrap (k : Int) = (k : Int) := wrap_u64_of rfl (by omega)
  have k1 : IntKind.u64.wrap (2 ^ k) = ((2 ^ k : Nat) : Int) := wrap_u64_of (by simp) (pow_lt hk)
  have k2 : bits .xor .u64 (x : Int) ((2 ^ k : Nat) : Int) = ((x ^^^ 2 ^ k : Nat) : Int) := bits_xor_u64_nat x _ hx (pow_lt hk)
  have h1 : decide ((k : Int) < 0) = false := by simp
  have h2 : decide (63 < (k : Int)) = false := by simp; omega
  generalize x ^^^ 2 ^ k = r at *
  generalize ((2 ^ k : Nat) : Int) = p at *
  clear hx
  go_enter Tryd.func14, Tryd.ntmps14
  go_wp2
  go_ret
  exact ⟨rfl, rfl⟩
theorem rflip_out (x : Nat) (i : Int) (w : World) (hi : i < 0 ∨ 64 ≤ i) :
    Calls Tryd.prog 14 #[.int .u64 (x : Int), .int .i64 i] w fun e w' => e = .returned (.int .u64 (x : Int)) ∧ w = w' := by
  by_cases h : i < 0
  · go_enter Tryd.func14, Tryd.ntmps14
    go_wp2
    go_ret
    exact ⟨rfl, rfl⟩
  · have h2 : 64 ≤ i := by omega
    have h3 : decide (63 < i) = true := by simp; omega
    go_enter Tryd.func14, Tryd.ntmps14
    go_wp2
    go_ret
    exact ⟨rfl, rfl⟩
theorem rflip_any (x : Nat) (i : Int) (w : World) (hx : x < 18446744073709551616) :
    Calls Tryd.prog 14 #[.int .u64 (x : Int), .int .i64 i] w fun e w' => e = .returned (.int .u64 (flip x i : Int)) ∧ w = w' := by
  unfold flip
  by_cases h : 0 ≤ i ∧ i < 64
  · obtain ⟨k, rfl⟩ := Int.eq_ofNat_of_zero_le h.1
    rw [if_pos h]
    exact rflip_in x k w hx (by omega)
  · rw [if_neg h]
    exact rflip_out x i w (by omega)

theorem rdistance_any (x y : Nat) (w : World) (hx : x < 18446744073709551616) (hy : y < 18446744073709551616) :
    Calls Tryd.prog 16 #[.int .u64 (x : Int), .int .u64 (y : Int)] w fun e w' => e = .returned (.int .i64 (pop (x ^^^ y) : Int)) ∧ w = w' := by
  have k2 := bits_xor_u64_nat x y hx hy
  have hl : x ^^^ y < 18446744073709551616 := Nat.xor_lt_two_pow (n := 64) hx hy
  generalize x ^^^ y = r at *
  have HC := Lib.hid (fun W => rones_any r W hl)
  clear hl hx hy
  go_enter Tryd.func16, Tryd.ntmps16
  go_wp2_with fail
  refine (HC.out _).mono ?_
  rintro e w' ⟨rfl, rfl⟩
  go_wp2
  go_ret
  exact ⟨rfl, rfl⟩

theorem rcheck_any (x : Nat) (w : World) (hx : x < 18446744073709551616) :
    Calls Tryd.prog 18 #[.int .u64 (x : Int)] w fun e w' => e = .returned (.int .i64 (check x : Int)) ∧ w = w' := by
  have HP := Lib.hid (rones_any x w hx)
  have HS := Lib.hid (rsyn_any x w hx)
  have hc : check x = if pop x % 2 = 1 then 1 else if sy x = 0 then 0 else 2 := rfl
  have hl := pop_le x
  rw [hc]
  clear hx hc
  generalize pop x = p at *
  generalize sy x = s at *
  by_cases h1 : p % 2 = 1
  · rw [if_pos h1]
    have e1 : (p : Int) % 2 = 1 := by omega
    clear h1
    go_enter Tryd.func18, Tryd.ntmps18
    go_wp2_with fail
    refine HP.out.mono ?_
    rintro e w' ⟨rfl, rfl⟩
    go_wp2
    go_ret
    exact ⟨rfl, rfl⟩
  · rw [if_neg h1]
    have e1 : (p : Int) % 2 = 0 := by omega
    by_cases h3 : s = 0
    · rw [if_pos h3]
      have e2 : ((s : Int) == 0) = true := by simp; omega
      have e3 : ((s : Int) != 0) = false := by simp; omega
      clear h3 h1
      go_enter Tryd.func18, Tryd.ntmps18
      go_wp2_with fail
      refine HP.out.mono ?_
      rintro e w' ⟨rfl, rfl⟩
      go_wp2_with fail
      refine (HS.out).mono ?_
      rintro e w' ⟨rfl, rfl⟩
      go_wp2
      go_ret
      exact ⟨rfl, rfl⟩
    · rw [if_neg h3]
      have e2 : ((s : Int) == 0) = false := by simp; omega
      have e3 : ((s : Int) != 0) = true := by simp; omega
      clear h3 h1
      go_enter Tryd.func18, Tryd.ntmps18
      go_wp2_with fail
      refine HP.out.mono ?_
      rintro e w' ⟨rfl, rfl⟩
      go_wp2_with fail
      refine (HS.out).mono ?_
      rintro e w' ⟨rfl, rfl⟩
      go_wp2
      go_ret
      exact ⟨rfl, rfl⟩

theorem pow_u64 (k : Nat) (h : k < 64) : IntKind.u64.wrap (2 ^ k) = ((2 ^ k : Nat) : Int) := wrap_u64_of (by simp) (pow_lt h)

theorem rdata_any (x : Nat) (w : World) (hx : x < 18446744073709551616) :
    Calls Tryd.prog 30 #[.int .u64 (x : Int)] w fun e w' => e = .returned (.int .u64 (gather x : Int)) ∧ w = w' := by
  have HB := Lib.hid (fun k W h => bit_any x k W hx h)
  have HD := Lib.hid (dat_all hx)
  clear hx
  go_enter Tryd.func30, Tryd.ntmps30
  go_wp2
  go_loop [3, 4] (fun n p => ∃ k : Nat, k ≤ 57 ∧ n = .int .u64 (dat x k : Int) ∧ p = .int .i64 (k : Int)) (fun _ p => (57 - intOf p).toNat)
  case atStart => exact ⟨0, by omega, rfl, rfl⟩
  case round =>
    obtain ⟨k, hk, rfl, rfl⟩ := hrel
    by_cases hlt : k < 57
    · have d1 : decide ((k : Int) < 57) = true := by simp; omega
      have hs : dat x (k + 1) = if x.testBit (place k) then dat x k ||| 2 ^ k else dat x k := rfl
      have hl : dat x k < 18446744073709551616 := Nat.lt_of_lt_of_le (dat_lt k) (Nat.pow_le_pow_right (by decide) (by omega : k ≤ 64))
      have HP := Lib.hid (place_any k w hlt)
      have HT := Lib.hid (HB.out (place k) w (place_lt k hlt))
      have k0 : IntKind.u64.wrap (k : Int) = (k : Int) := wrap_u64_of rfl (by omega)
      have k1 := pow_u64 k (by omega)
      have k2 := bits_or_u64_nat (dat x k) (2 ^ k) hl (pow_lt (by omega))
      clear hl
      cases hb : x.testBit (place k) with
      | true =>
        rw [hb] at HT hs
        have HS := Lib.hid hs
        clear hb hs
        generalize place k = q at *
        generalize ((2 ^ k : Nat) : Int) = p at *
        generalize dat x k ||| 2 ^ k = m' at *
        generalize dat x k = m at *
        go_wp2_with fail
        refine HP.out.mono ?_
        rintro e w' ⟨rfl, rfl⟩
        go_wp2_with fail
        refine HT.out.mono ?_
        rintro e w' ⟨rfl, rfl⟩
        go_wp2_with fail
        go_round
        case rel => exact ⟨k + 1, by omega, by rw [HS.out]; rfl, by go_num⟩
        case measure => simp [intOf]; omega
      | false =>
        rw [hb] at HT hs
        have HS := Lib.hid hs
        clear hb hs k0 k1 k2
        generalize place k = q at *
        generalize dat x k = m at *
        go_wp2_with fail
        refine HP.out.mono ?_
        rintro e w' ⟨rfl, rfl⟩
        go_wp2_with fail
        refine HT.out.mono ?_
        rintro e w' ⟨rfl, rfl⟩
        go_wp2_with fail
        go_round
        case rel => exact ⟨k + 1, by omega, by rw [HS.out]; rfl, by go_num⟩
        case measure => simp [intOf]; omega
    · obtain rfl : k = 57 := by omega
      have d1 : decide (((57 : Nat) : Int) < 57) = false := by decide
      rw [HD.out]
      go_wp2_with fail
      go_ret
      exact ⟨rfl, rfl⟩

end Hm
end Go.Proofs.YteikmbcfiabffaaDoor
