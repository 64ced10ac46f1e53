/- The law's white; LexerCovers. -/
import Derived.Test.YtiebhlmjpnhepaaDoorWI
namespace Go.Proofs.YtiebhlmjpnhepaaDoor
open Go.RowKit Sl Fr
namespace Lx
set_option linter.unusedVariables false
set_option linter.unusedSimpArgs false

theorem white_sp {c : UInt8} {r : By} (h : isSp c = true) : whiteS false (c :: r) = whiteS false r := by rw [whiteS, if_pos h]
theorem white_no {c : UInt8} {r : By} (h : isSp c = false) (h2 : ¬ (c = 47 ∧ r.head? = some 47)) : whiteS false (c :: r) = false := by rw [whiteS, if_neg (by simp [h]), if_neg h2]
theorem white_lf (r : By) : whiteS true (10 :: r) = whiteS false r := by rw [whiteS, if_pos rfl]
theorem white_in {c : UInt8} {r : By} (h : c ≠ 10) : whiteS true (c :: r) = whiteS true r := by rw [whiteS, if_neg h]
theorem white_open {c : UInt8} {r : By} (h : isSp c = false) (h2 : c = 47 ∧ r.head? = some 47) : whiteS false (c :: r) = whiteS true (c :: r) := by
  rw [white_in (by rw [h2.1]; decide), whiteS, if_neg (by simp [h]), if_pos h2]
theorem u8_int {c d : UInt8} : ((c.toNat : Int) == (d.toNat : Int)) = (c == d) := (eq_int c d).symm
def WhA (s : ByteArray) (R : Bool) (i : Value) : Prop := ∃ k : Nat, i = .int .i64 (k : Int) ∧ k ≤ s.size + 1 ∧ whiteS false ((bys s).drop k) = R
def WhB (s : ByteArray) (R : Bool) (k0 : Nat) (i : Value) : Prop := ∃ k : Nat, i = .int .i64 (k : Int) ∧ k0 ≤ k ∧ k ≤ s.size ∧ whiteS true ((bys s).drop k) = R
set_option maxHeartbeats 2000000 in
theorem white_any (s : ByteArray) (w : World) (hs : s.size ≤ 281474976710656) : Calls Tryd.prog 22 #[.string s] w fun e w' => e = .returned (.bool (whiteS false (bys s))) ∧ w = w' := by
  obtain ⟨R, hR⟩ : ∃ R, whiteS false (bys s) = R := ⟨_, rfl⟩
  rw [hR]
  have H0 : Hid (WhA s R (.int .i64 0)) := Lib.hid ⟨0, rfl, Nat.zero_le _, by rw [List.drop_zero]; exact hR⟩
  clear hR
  go_enter Tryd.func22, Tryd.ntmps22
  go_wp2_with fail
  go_loop [3] (WhA s R) (fun i => s.size + 2 - (intOf i).toNat)
  case atStart => exact H0.out
  case round =>
    obtain ⟨k, rfl, hk, hw⟩ := hrel
    have HW := Lib.hid hw
    clear hw H0
    by_cases hlt : k < s.size
    · have hd := bys_drop hlt
      have e32 := u8_int (c := s[k]) (d := 32)
      have e10 := u8_int (c := s[k]) (d := 10)
      have e47 := u8_int (c := s[k]) (d := 47)
      simp only [show (((32 : UInt8).toNat : Nat) : Int) = 32 from rfl, show (((10 : UInt8).toNat : Nat) : Int) = 10 from rfl, show (((47 : UInt8).toNat : Nat) : Int) = 47 from rfl] at e32 e10 e47
      by_cases h32 : s[k] = 32
      · have hN : Hid (whiteS false ((bys s).drop (k + 1)) = R) := Lib.hid (by have := HW.out; rwa [hd, white_sp (by rw [h32]; rfl)] at this)
        rw [show (s[k] == 32) = true by simp [h32]] at e32
        clear hd e10 e47 h32 HW
        go_wp2_with fail
        go_round
        case rel => exact ⟨k + 1, by go_num, by omega, hN.out⟩
        case measure => simp [intOf]; omega
      · rw [show (s[k] == 32) = false by simp [h32]] at e32
        by_cases h10 : s[k] = 10
        · have hN : Hid (whiteS false ((bys s).drop (k + 1)) = R) := Lib.hid (by have := HW.out; rwa [hd, white_sp (by rw [h10]; rfl)] at this)
          rw [show (s[k] == 10) = true by simp [h10]] at e10
          clear hd e47 h32 h10 HW
          go_wp2_with fail
          go_round
          case rel => exact ⟨k + 1, by go_num, by omega, hN.out⟩
          case measure => simp [intOf]; omega
        · rw [show (s[k] == 10) = false by simp [h10]] at e10
          have hsp : isSp s[k] = false := by simp [isSp, h32, h10]
          by_cases h47 : s[k] = 47
          · rw [show (s[k] == 47) = true by simp [h47]] at e47
            have e47b : ((s[k].toNat : Int) != 47) = false := by rw [bne, e47]; rfl
            by_cases hl1 : k + 1 < s.size
            · have hd1 := bys_drop hl1
              have f47 := u8_int (c := s[k + 1]) (d := 47)
              simp only [show (((47 : UInt8).toNat : Nat) : Int) = 47 from rfl] at f47
              by_cases g47 : s[k + 1] = 47
              · rw [show (s[k + 1] == 47) = true by simp [g47]] at f47
                have hN : Hid (WhB s R k (.int .i64 (k : Int))) := Lib.hid ⟨k, rfl, Nat.le_refl _, by omega, by
                  have := HW.out
                  rw [hd, white_open hsp ⟨h47, by rw [hd1]; simp [g47]⟩, ← hd] at this
                  exact this⟩
                clear hd hd1 h32 h10 h47 g47 hsp HW
                have f47b : ((s[k + 1].toNat : Int) != 47) = false := by rw [bne, f47]; rfl
                have hne : ((k + 1 : Nat) == s.size) = false := by simp; omega
                have hne2 : ((k : Int) + 1 == (s.size : Int)) = false := by simp; omega
                go_wp2_with fail
                go_loop [3] (WhB s R k) (fun i => s.size + 2 - (intOf i).toNat)
                case atStart => exact hN.out
                case round =>
                  obtain ⟨j, rfl, hkj, hj, hwj⟩ := hrel
                  have HJ := Lib.hid hwj
                  clear hwj hN
                  by_cases hjl : j < s.size
                  · have hdj := bys_drop hjl
                    have ej := u8_int (c := s[j]) (d := 10)
                    simp only [show (((10 : UInt8).toNat : Nat) : Int) = 10 from rfl] at ej
                    by_cases hj10 : s[j] = 10
                    · have hN2 : Hid (whiteS false ((bys s).drop (j + 1)) = R) := Lib.hid (by have := HJ.out; rwa [hdj, hj10, white_lf] at this)
                      rw [show (s[j] == 10) = true by simp [hj10]] at ej
                      have ej2 : ((s[j].toNat : Int) != 10) = false := by rw [bne, ej]; rfl
                      clear hdj hj10 HJ
                      go_wp2_with fail
                      go_round
                      case rel => exact ⟨j + 1, by go_num, by omega, hN2.out⟩
                      case measure => simp [intOf]; omega
                    · have hN2 : Hid (whiteS true ((bys s).drop (j + 1)) = R) := Lib.hid (by have := HJ.out; rwa [hdj, white_in hj10] at this)
                      rw [show (s[j] == 10) = false by simp [hj10]] at ej
                      have ej2 : ((s[j].toNat : Int) != 10) = true := by rw [bne, ej]; rfl
                      clear hdj hj10 HJ
                      go_wp2_with fail
                      go_round
                      case rel => exact ⟨j + 1, by go_num, by omega, by omega, hN2.out⟩
                      case measure => simp [intOf]; omega
                  · have hN2 : Hid (whiteS false ((bys s).drop (j + 1)) = R) := Lib.hid (by
                      have h5 := HJ.out
                      rw [List.drop_of_length_le (by rw [bys_len]; omega)] at h5
                      rw [List.drop_of_length_le (by rw [bys_len]; omega)]
                      exact h5)
                    clear HJ
                    go_wp2_with fail
                    go_round
                    case rel => exact ⟨j + 1, by go_num, by omega, hN2.out⟩
                    case measure => simp [intOf]; omega
              · have hRf : R = false := by
                  have := HW.out
                  rw [hd, white_no hsp (by rw [hd1]; simp [g47])] at this
                  exact this.symm
                subst hRf
                rw [show (s[k + 1] == 47) = false by simp [g47]] at f47
                have f47b : ((s[k + 1].toNat : Int) != 47) = true := by rw [bne, f47]; rfl
                have hne : ((k + 1 : Nat) == s.size) = false := by simp; omega
                have hne2 : ((k : Int) + 1 == (s.size : Int)) = false := by simp; omega
                clear hd hd1 h32 h10 h47 g47 hsp HW
                go_wp2_with fail
                go_ret
                exact ⟨rfl, rfl⟩
            · have hRf : R = false := by
                have := HW.out
                rw [hd, white_no hsp (by rw [List.drop_of_length_le (by rw [bys_len]; omega)]; simp)] at this
                exact this.symm
              subst hRf
              have hke : k + 1 = s.size := by omega
              have hne : ((k + 1 : Nat) == s.size) = true := by simp; omega
              have hne2 : ((k : Int) + 1 == (s.size : Int)) = true := by simp; omega
              clear hd h32 h10 h47 hsp HW hke
              go_wp2_with fail
              go_ret
              exact ⟨rfl, rfl⟩
          · have hRf : R = false := by
              have := HW.out
              rw [hd, white_no hsp (fun h => h47 h.1)] at this
              exact this.symm
            subst hRf
            rw [show (s[k] == 47) = false by simp [h47]] at e47
            have e47b : ((s[k].toNat : Int) != 47) = true := by rw [bne, e47]; rfl
            clear hd h32 h10 h47 hsp HW
            go_wp2_with fail
            go_ret
            exact ⟨rfl, rfl⟩
    · have hRt : R = true := by
        have := HW.out
        rw [List.drop_of_length_le (by rw [bys_len]; omega)] at this
        exact this.symm
      subst hRt
      clear HW
      go_wp2_with fail
      go_ret
      exact ⟨rfl, rfl⟩

end Lx
end Go.Proofs.YtiebhlmjpnhepaaDoor
