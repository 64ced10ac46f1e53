/- The reference's small functions: bits, places, ones, syndromes. -/
import Derived.Test.YteikmbcfiabffaaDoorW6
import Derived.Test.YteikmbcfiabffaaDoorM5
namespace Go.Proofs.YteikmbcfiabffaaDoor
open Go.RowKit Go.Shelf
namespace Hm
set_option linter.unusedVariables false

theorem testBit_div (x k : Nat) : x.testBit k = decide (x / 2 ^ k % 2 = 1) := Nat.testBit_eq_decide_div_mod_eq
theorem one_mod (x : Nat) (hx : x < 18446744073709551616) (k : Nat) : bits .and .u64 ((x : Int) / 2 ^ k) 1 = ((x / 2 ^ k % 2 : Nat) : Int) := by
  have h := bits_and_u64_nat (x / 2 ^ k) (2 ^ 1 - 1) (Nat.lt_of_le_of_lt (Nat.div_le_self _ _) hx) (by decide)
  rw [Nat.and_two_pow_sub_one_eq_mod] at h
  simpa using h

theorem bit_any (x k : Nat) (w : World) (hx : x < 18446744073709551616) (hk : k < 64) :
    Calls Tryd.prog 22 #[.int .u64 (x : Int), .int .i64 (k : Int)] w fun e w' => e = .returned (.bool (x.testBit k)) ∧ w = w' := by
  have h1 := one_mod x hx k
  have h2 : IntKind.u64.wrap (k : Int) = (k : Int) := wrap_u64_of rfl (by omega)
  rw [testBit_div]
  rcases (by omega : x / 2 ^ k % 2 = 0 ∨ x / 2 ^ k % 2 = 1) with e | e
  all_goals
    rw [e] at h1 ⊢
    clear e hx
    go_enter Tryd.func22, Tryd.ntmps22
    go_wp2
    go_ret
    exact ⟨rfl, rfl⟩

theorem power_any (p : Nat) (w : World) :
    Calls Tryd.prog 32 #[.int .i64 (p : Int)] w fun e w' => e = .returned (.bool (isPow p)) ∧ w = w' := by
  by_cases h1 : p = 1
  · subst h1
    go_enter Tryd.func32, Tryd.ntmps32
    go_wp2
    go_ret
    exact ⟨rfl, rfl⟩
  by_cases h2 : p = 2
  · subst h2
    go_enter Tryd.func32, Tryd.ntmps32
    go_wp2
    go_ret
    exact ⟨rfl, rfl⟩
  by_cases h3 : p = 4
  · subst h3
    go_enter Tryd.func32, Tryd.ntmps32
    go_wp2
    go_ret
    exact ⟨rfl, rfl⟩
  by_cases h4 : p = 8
  · subst h4
    go_enter Tryd.func32, Tryd.ntmps32
    go_wp2
    go_ret
    exact ⟨rfl, rfl⟩
  by_cases h5 : p = 16
  · subst h5
    go_enter Tryd.func32, Tryd.ntmps32
    go_wp2
    go_ret
    exact ⟨rfl, rfl⟩
  have e1 : ((p : Int) == 1) = false := by simp; omega
  have e2 : ((p : Int) == 2) = false := by simp; omega
  have e3 : ((p : Int) == 4) = false := by simp; omega
  have e4 : ((p : Int) == 8) = false := by simp; omega
  have e5 : ((p : Int) == 16) = false := by simp; omega
  have hi : isPow p = ((p : Int) == 32) := by
    unfold isPow
    rw [Bool.eq_iff_iff]
    simp
    omega
  rw [hi]
  clear h1 h2 h3 h4 h5 hi
  go_enter Tryd.func32, Tryd.ntmps32
  go_wp2
  go_ret
  exact ⟨rfl, rfl⟩

theorem place_any (i : Nat) (w : World) (hi : i < 57) :
    Calls Tryd.prog 23 #[.int .i64 (i : Int)] w fun e w' => e = .returned (.int .i64 (place i : Int)) ∧ w = w' := by
  go_enter Tryd.func23, Tryd.ntmps23
  go_wp2
  go_loop [3, 4] (fun n p => ∃ k : Nat, k ≤ 63 ∧ np k ≤ i + 1 ∧ Hid (np k = i + 1 → k = place i) ∧ n = .int .i64 ((np k : Int) - 1) ∧ p = .int .i64 (k : Int)) (fun _ p => (63 - intOf p).toNat)
  case atStart => exact ⟨0, by omega, by simp [np], Lib.hid (fun h => by simp [np] at h), rfl, rfl⟩
  case round =>
    obtain ⟨k, hk, hn, hp, rfl, rfl⟩ := hrel
    by_cases hlt : np k < i + 1
    · have hk63 : k < 63 := by
        rcases Nat.lt_or_ge k 63 with h | h
        · exact h
        · obtain rfl : k = 63 := by omega
          rw [np_63] at hlt; omega
      have HN := Lib.hid (np_place k hk63 i hi hlt)
      have HP := Lib.hid (fun W => power_any (k + 1) W)
      have d1 : decide ((np k : Int) - 1 < (i : Int)) = true := by simp; omega
      have d2 : (np k : Int) - 1 < (i : Int) := by omega
      have hs : np (k + 1) = np k + if isPow (k + 1) then 0 else 1 := rfl
      cases hb : isPow (k + 1) with
      | true =>
        rw [hb] at HP hs
        have HS := Lib.hid hs
        clear hb hs hp
        generalize hm : np k = m at *
        clear hm
        have ec : ((k + 1 : Nat) : Int) = (k : Int) + 1 := by omega
        rw [ec] at HP
        go_wp2_with fail
        refine (HP.out _).mono ?_
        rintro e w' ⟨rfl, rfl⟩
        go_wp2_with fail
        go_round
        case rel => exact ⟨k + 1, by omega, by rw [HS.out]; simp <;> omega, HN, by rw [HS.out]; rfl, by go_num⟩
        case measure => simp [intOf]; omega
      | false =>
        rw [hb] at HP hs
        have HS := Lib.hid hs
        clear hb hs hp
        generalize hm : np k = m at *
        clear hm
        have ec : ((k + 1 : Nat) : Int) = (k : Int) + 1 := by omega
        rw [ec] at HP
        go_wp2_with fail
        refine (HP.out _).mono ?_
        rintro e w' ⟨rfl, rfl⟩
        go_wp2_with fail
        go_round
        case rel => exact ⟨k + 1, by omega, by rw [HS.out]; simp <;> omega, HN, by rw [HS.out]; simp <;> omega, by go_num⟩
        case measure => simp [intOf]; omega
    · have hpl := hp.out (by omega)
      have d1 : decide ((np k : Int) - 1 < (i : Int)) = false := by simp; omega
      have HL := Lib.hid hpl
      clear hpl hp
      generalize hm : np k = m at *
      clear hm
      go_wp2_with fail
      go_ret
      exact ⟨ret_int (by rw [HL.out]), rfl⟩

theorem rones_any (x : Nat) (w : World) (hx : x < 18446744073709551616) :
    Calls Tryd.prog 25 #[.int .u64 (x : Int)] w fun e w' => e = .returned (.int .i64 (pop x : Int)) ∧ w = w' := by
  have HB := Lib.hid (fun k W h => bit_any x k W hx h)
  clear hx
  go_enter Tryd.func25, Tryd.ntmps25
  go_wp2
  go_loop [3, 4] (fun n p => ∃ k : Nat, k ≤ 64 ∧ n = .int .i64 (ones k x : Int) ∧ p = .int .i64 (k : Int)) (fun _ p => (64 - intOf p).toNat)
  case atStart => exact ⟨0, by omega, rfl, rfl⟩
  case round =>
    obtain ⟨k, hk, rfl, rfl⟩ := hrel
    by_cases hlt : k < 64
    · have d1 : decide ((k : Int) < 64) = true := by simp; omega
      have hs : ones (k + 1) x = if x.testBit k then ones k x + 1 else ones k x := rfl
      have hl := ones_le k x
      have HT := Lib.hid (HB.out k w hlt)
      cases hb : x.testBit k with
      | true =>
        rw [hb] at HT hs
        have HS := Lib.hid hs
        clear hb hs
        generalize ones k x = m at *
        go_wp2_with fail
        refine HT.out.mono ?_
        rintro e w' ⟨rfl, rfl⟩
        go_wp2_with fail
        go_round
        case rel => exact ⟨k + 1, by omega, by rw [HS.out]; go_num, by go_num⟩
        case measure => simp [intOf]; omega
      | false =>
        rw [hb] at HT hs
        have HS := Lib.hid hs
        clear hb hs
        generalize ones k x = m at *
        go_wp2_with fail
        refine HT.out.mono ?_
        rintro e w' ⟨rfl, rfl⟩
        go_wp2_with fail
        go_round
        case rel => exact ⟨k + 1, by omega, by rw [HS.out]; rfl, by go_num⟩
        case measure => simp [intOf]; omega
    · obtain rfl : k = 64 := by omega
      have d1 : decide (((64 : Nat) : Int) < 64) = false := by decide
      have ht : ones 64 x = pop x := rfl
      rw [ht]
      go_wp2_with fail
      go_ret
      exact ⟨rfl, rfl⟩

theorem rsyn_any (x : Nat) (w : World) (hx : x < 18446744073709551616) :
    Calls Tryd.prog 24 #[.int .u64 (x : Int)] w fun e w' => e = .returned (.int .i64 (sy x : Int)) ∧ w = w' := by
  have HB := Lib.hid (fun k W h => bit_any x k W hx h)
  clear hx
  go_enter Tryd.func24, Tryd.ntmps24
  go_wp2
  go_loop [3, 4] (fun n p => ∃ k : Nat, k ≤ 64 ∧ n = .int .i64 (syn k x : Int) ∧ p = .int .i64 (k : Int)) (fun _ p => (64 - intOf p).toNat)
  case atStart => exact ⟨0, by omega, rfl, rfl⟩
  case round =>
    obtain ⟨k, hk, rfl, rfl⟩ := hrel
    by_cases hlt : k < 64
    · have d1 : decide ((k : Int) < 64) = true := by simp; omega
      have hs : syn (k + 1) x = if x.testBit k then syn k x ^^^ k else syn k x := rfl
      have hl := syn_lt k x hk
      have HT := Lib.hid (HB.out k w hlt)
      have kx := xor_i64 (syn k x) k (by omega) (by omega)
      cases hb : x.testBit k with
      | true =>
        rw [hb] at HT hs
        have HS := Lib.hid hs
        clear hb hs
        generalize syn k x ^^^ k = m' at *
        generalize syn k x = m at *
        go_wp2_with fail
        refine HT.out.mono ?_
        rintro e w' ⟨rfl, rfl⟩
        go_wp2_with fail
        go_round
        case rel => exact ⟨k + 1, by omega, by rw [HS.out]; rfl, by go_num⟩
        case measure => simp [intOf]; omega
      | false =>
        rw [hb] at HT hs
        have HS := Lib.hid hs
        clear hb hs kx
        generalize syn k x = m at *
        go_wp2_with fail
        refine HT.out.mono ?_
        rintro e w' ⟨rfl, rfl⟩
        go_wp2_with fail
        go_round
        case rel => exact ⟨k + 1, by omega, by rw [HS.out]; rfl, by go_num⟩
        case measure => simp [intOf]; omega
    · obtain rfl : k = 64 := by omega
      have d1 : decide (((64 : Nat) : Int) < 64) = false := by decide
      have ht : syn 64 x = sy x := rfl
      rw [ht]
      go_wp2_with fail
      go_ret
      exact ⟨rfl, rfl⟩

end Hm
end Go.Proofs.YteikmbcfiabffaaDoor
