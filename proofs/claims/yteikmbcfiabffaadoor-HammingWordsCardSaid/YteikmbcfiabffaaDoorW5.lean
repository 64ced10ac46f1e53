/- Check, Encode and Decode. -/
import Derived.Test.YteikmbcfiabffaaDoorW4
namespace Go.Proofs.YteikmbcfiabffaaDoor
open Go.RowKit Go.Shelf
namespace Hm
set_option linter.unusedVariables false

theorem check_any (x : Nat) (w : World) (hx : x < 18446744073709551616) (hv : Vars w) :
    Calls Tryd.prog 17 #[.int .u64 (x : Int)] w fun e w' => e = .returned (.int .i64 (check x : Int)) ∧ w = w' := by
  have HP := Lib.hid (fun W => parity_any x W hx)
  have HS := Lib.hid (syndrome_any x w hx hv)
  have hc : check x = if pop x % 2 = 1 then 1 else if sy x = 0 then 0 else 2 := rfl
  rw [hc]
  clear hx hv hc
  have h2 : pop x % 2 < 2 := Nat.mod_lt _ (by decide)
  generalize pop x % 2 = p at *
  generalize sy x = s at *
  by_cases h1 : p = 1
  · subst h1
    go_enter Tryd.func17, Tryd.ntmps17
    go_wp2_with fail
    refine (HP.out _).mono ?_
    rintro e w' ⟨rfl, rfl⟩
    go_wp2
    go_ret
    exact ⟨rfl, rfl⟩
  · rw [if_neg h1]
    have e1 : ((p : Int) == 1) = false := by simp; omega
    by_cases h3 : s = 0
    · rw [if_pos h3]
      have e2 : ((s : Int) == 0) = true := by simp; omega
      have e3 : ((s : Int) != 0) = false := by simp; omega
      clear h3 h1 h2
      go_enter Tryd.func17, Tryd.ntmps17
      go_wp2_with fail
      refine (HP.out _).mono ?_
      rintro e w' ⟨rfl, rfl⟩
      go_wp2_with fail
      refine (HS.out).mono ?_
      rintro e w' ⟨rfl, rfl⟩
      go_wp2
      go_ret
      exact ⟨rfl, rfl⟩
    · rw [if_neg h3]
      have e2 : ((s : Int) == 0) = false := by simp; omega
      have e3 : ((s : Int) != 0) = true := by simp; omega
      clear h3 h1 h2
      go_enter Tryd.func17, Tryd.ntmps17
      go_wp2_with fail
      refine (HP.out _).mono ?_
      rintro e w' ⟨rfl, rfl⟩
      go_wp2_with fail
      refine (HS.out).mono ?_
      rintro e w' ⟨rfl, rfl⟩
      go_wp2
      go_ret
      exact ⟨rfl, rfl⟩

/-- The word behind the first k parity bits. -/
def sets (w s : Nat) : Nat → Nat
  | 0 => w
  | k + 1 => if s &&& chkAt k = 0 then sets w s k else sets w s k ^^^ 2 ^ chkAt k
theorem sets_xor (w s : Nat) : ∀ k, sets w s k = w ^^^ sets 0 s k
  | 0 => by simp [sets]
  | k + 1 => by
    unfold sets
    rw [sets_xor w s k]
    split
    · rfl
    · rw [Nat.xor_assoc]
theorem sets_fix : ∀ s, s < 64 → sets 0 s 7 = fix s := by decide +kernel
theorem sets_six (d : Nat) : sets (spread d) (sy (spread d)) 7 = six d := by
  rw [sets_xor, sets_fix _ (sy_lt _)]; rfl
theorem sets_lt {w s : Nat} (h : w < 18446744073709551616) : ∀ k, sets w s k < 18446744073709551616
  | 0 => h
  | k + 1 => by
    unfold sets
    split
    · exact sets_lt h k
    · exact Nat.xor_lt_two_pow (n := 64) (sets_lt h k) (pow_lt (by have := chkAt_le k; omega))

def encD (d : Nat) : Nat := if d < 2 ^ 57 then enc d else 0
def encE (d : Nat) : Nat := if d < 2 ^ 57 then 0 else 1

set_option maxHeartbeats 1000000 in
theorem encode_ok (d : Nat) (w : World) (hd : d < 2 ^ 57) (hv : Vars w) :
    Calls Tryd.prog 21 #[.int .u64 (d : Int)] w fun e w' => e = .returned (.tuple #[.int .u64 (enc d : Int), .int .i64 0]) ∧ w = w' := by
  obtain ⟨t, fr, hg⟩ := hv.chk
  have HG := Lib.hid hg
  have HP := Lib.hid (spread_any d w hd hv)
  have hl := spread_lt hd
  have HY := Lib.hid (syndrome_any (spread d) w hl hv)
  have H6 := Lib.hid (sets_six d)
  have HA := Lib.hid (parity_any (six d) w (six_lt hd))
  have hs := sy_lt (spread d)
  have HL := Lib.hid hl
  have HB : Hid (bits .or .u64 (six d : Int) ((pop (six d) : Int) % 2) = (enc d : Int)) := Lib.hid (by
    have h := bits_or_u64_nat (six d) (pop (six d) % 2) (six_lt hd) (by omega)
    rw [show six d ||| pop (six d) % 2 = enc d from enc_or hd, Int.natCast_emod] at h
    exact h)
  have z1 : decide ((d : Int) / 144115188075855872 = 0) = true := by simp; omega
  have z2 : ((d : Int) / 144115188075855872 != 0) = false := by simp; omega
  have z3 : ((d : Int) / 144115188075855872 == 0) = true := by simp; omega
  clear hg hv hl hd
  generalize spread d = u at *
  generalize sy u = s at *
  go_enter Tryd.func21, Tryd.ntmps21
  go_wp2_with fail
  refine (HP.out).mono ?_
  rintro e w' ⟨rfl, rfl⟩
  go_wp2_with fail
  refine (HY.out).mono ?_
  rintro e w' ⟨rfl, rfl⟩
  go_wp2_with (refine wpList_load_row rfl 49 _ rfl 0 rfl t _ fr _ HG.out Tryd.underlying49 rfl (by kernel_rfl) ?_)
  clear HG HP HY
  go_loop [4, 16] (fun v i => ∃ k : Nat, k ≤ 7 ∧ i = .int .i64 (k : Int) ∧ v = .int .u64 (sets u s k : Int)) (fun _ i => (7 - intOf i).toNat)
  case atStart => exact ⟨0, by omega, rfl, rfl⟩
  case round =>
    obtain ⟨k, hk, rfl, rfl⟩ := hrel
    by_cases h7 : k < 7
    · have HI := fun W => chk_ix k h7 W
      have h1 : decide ((k : Int) < 7) = true := by simp; omega
      have hv := sets_lt (s := s) HL.out k
      have hp := chkAt_le k
      have kx := and_i64 s (chkAt k) (by omega) (by omega)
      have HF := Lib.hid (fun W => flip_in (sets u s k) (chkAt k) W hv (by omega))
      by_cases hz : s &&& chkAt k = 0
      · have HE : Hid (sets u s (k + 1) = sets u s k) := Lib.hid (by rw [sets, if_pos hz])
        have e1 : (((s &&& chkAt k : Nat) : Int) == 0) = true := by rw [hz]; rfl
        have e2 : (((s &&& chkAt k : Nat) : Int) != 0) = false := by rw [hz]; rfl
        clear hz hv
        generalize ((s &&& chkAt k : Nat) : Int) = a at *
        generalize sets u s k = v at *
        generalize chkAt k = p at *
        go_wp2_with fail
        exact ⟨⟨k + 1, by omega, by go_num, by rw [HE.out]⟩, by simp [intOf]; omega⟩
      · have HE : Hid (sets u s (k + 1) = sets u s k ^^^ 2 ^ chkAt k) := Lib.hid (by rw [sets, if_neg hz])
        have e1 : (((s &&& chkAt k : Nat) : Int) == 0) = false := by simp; exact hz
        have e2 : (((s &&& chkAt k : Nat) : Int) != 0) = true := by simp; exact hz
        clear hz hv
        generalize ((s &&& chkAt k : Nat) : Int) = a at *
        generalize sets u s k ^^^ 2 ^ chkAt k = v' at *
        generalize sets u s k = v at *
        generalize chkAt k = p at *
        go_wp2_with fail
        refine (HF.out _).mono ?_
        rintro e w' ⟨rfl, rfl⟩
        go_wp2_with fail
        exact ⟨⟨k + 1, by omega, by go_num, by rw [HE.out]⟩, by simp [intOf]; omega⟩
    · obtain rfl : k = 7 := by omega
      have h1 : decide (((7 : Nat) : Int) < 7) = false := by decide
      rw [H6.out]
      go_wp2_with fail
      refine (HA.out).mono ?_
      rintro e w' ⟨rfl, rfl⟩
      go_wp2_with fail
      go_ret2
      refine ⟨?_, rfl⟩
      show Ending.returned (.tuple #[.int .u64 (bits .or .u64 (six d : Int) ((pop (six d) : Int) % 2)), .int .i64 0]) = _
      rw [HB.out]

theorem encode_no (d : Nat) (w : World) (hx : d < 18446744073709551616) (hd : ¬ d < 2 ^ 57) :
    Calls Tryd.prog 21 #[.int .u64 (d : Int)] w fun e w' => e = .returned (.tuple #[.int .u64 0, .int .i64 1]) ∧ w = w' := by
  have z2 : ((d : Int) / 144115188075855872 != 0) = true := by simp; omega
  have z3 : ((d : Int) / 144115188075855872 == 0) = false := by simp; omega
  clear hx hd
  go_enter Tryd.func21, Tryd.ntmps21
  go_wp2_with fail
  go_ret2
  exact ⟨rfl, rfl⟩
theorem encode_any (d : Nat) (w : World) (hx : d < 18446744073709551616) (hv : Vars w) :
    Calls Tryd.prog 21 #[.int .u64 (d : Int)] w fun e w' => e = .returned (.tuple #[.int .u64 (encD d : Int), .int .i64 (encE d : Int)]) ∧ w = w' := by
  unfold encD encE
  by_cases hd : d < 2 ^ 57
  · rw [if_pos hd, if_pos hd]
    exact encode_ok d w hd hv
  · rw [if_neg hd, if_neg hd]
    exact encode_no d w hx hd

theorem check_decD (x : Nat) : decD x = (if check x = 2 then 0 else if check x = 1 then gather (x ^^^ 2 ^ sy x) else gather x) := rfl
set_option maxHeartbeats 1000000 in
theorem decode_any (x : Nat) (w : World) (hx : x < 18446744073709551616) (hv : Vars w) :
    Calls Tryd.prog 29 #[.int .u64 (x : Int)] w fun e w' => e = .returned (.tuple #[.int .u64 (decD x : Int), .int .i64 (decN x : Int), .int .i64 (decE x : Int)]) ∧ w = w' := by
  have HC := Lib.hid (check_any x w hx hv)
  have HS := Lib.hid (syndrome_any x w hx hv)
  have hs := sy_lt x
  have HF := Lib.hid (flip_in x (sy x) w hx hs)
  have HG1 := Lib.hid (gather_any (x ^^^ 2 ^ sy x) w (Nat.xor_lt_two_pow (n := 64) hx (pow_lt hs)) hv)
  have HG2 := Lib.hid (gather_any x w hx hv)
  rw [check_decD]
  unfold decN decE
  clear hx hv hs
  rcases check_le x with h | h | h
  · rw [h] at HC ⊢
    simp only [if_neg (by decide : ¬ (0 : Nat) = 2), if_neg (by decide : ¬ (0 : Nat) = 1)]
    clear h
    generalize gather x = g at *
    go_enter Tryd.func29, Tryd.ntmps29
    go_wp2_with fail
    refine (HC.out).mono ?_
    rintro e w' ⟨rfl, rfl⟩
    go_wp2_with fail
    refine (HG2.out).mono ?_
    rintro e w' ⟨rfl, rfl⟩
    go_wp2_with fail
    exact bodyPost_ret (v := .tuple #[.int .u64 (g : Int), .int .i64 0, .int .i64 0]) (by simp [results, Tryd.results29, go_sem]) rfl ⟨rfl, rfl⟩
  · rw [h] at HC ⊢
    simp only [if_neg (by decide : ¬ (1 : Nat) = 2), if_pos]
    clear h
    generalize gather (x ^^^ 2 ^ sy x) = g at *
    generalize x ^^^ 2 ^ sy x = y at *
    generalize sy x = s at *
    go_enter Tryd.func29, Tryd.ntmps29
    go_wp2_with fail
    refine (HC.out).mono ?_
    rintro e w' ⟨rfl, rfl⟩
    go_wp2_with fail
    refine (HS.out).mono ?_
    rintro e w' ⟨rfl, rfl⟩
    go_wp2_with fail
    refine (HF.out).mono ?_
    rintro e w' ⟨rfl, rfl⟩
    go_wp2_with fail
    refine (HG1.out).mono ?_
    rintro e w' ⟨rfl, rfl⟩
    go_wp2_with fail
    exact bodyPost_ret (v := .tuple #[.int .u64 (g : Int), .int .i64 1, .int .i64 0]) (by simp [results, Tryd.results29, go_sem]) rfl ⟨rfl, rfl⟩
  · rw [h] at HC ⊢
    simp only [if_pos, if_neg (by decide : ¬ (2 : Nat) = 1)]
    clear h
    go_enter Tryd.func29, Tryd.ntmps29
    go_wp2_with fail
    refine (HC.out).mono ?_
    rintro e w' ⟨rfl, rfl⟩
    go_wp2_with fail
    exact bodyPost_ret (v := .tuple #[.int .u64 0, .int .i64 0, .int .i64 6]) (by simp [results, Tryd.results29, go_sem]) rfl ⟨rfl, rfl⟩

end Hm
end Go.Proofs.YteikmbcfiabffaaDoor
