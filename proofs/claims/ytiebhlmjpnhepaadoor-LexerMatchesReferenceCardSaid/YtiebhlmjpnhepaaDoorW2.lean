/- Prefixes; names; numbers. -/
import Derived.Test.YtiebhlmjpnhepaaDoorW1
import Derived.Test.YtiebhlmjpnhepaaDoorM4
import Derived.Test.YtiebhlmjpnhepaaDoorSh
namespace Go.Proofs.YtiebhlmjpnhepaaDoor
open Go.RowKit Sl Fr
namespace Lx
set_option linter.unusedVariables false

theorem prefix_any (s p : ByteArray) (w : World) : Calls Tryd.prog 44 #[.string s, .string p] w fun e w' => e = .returned (.bool ((bys p).isPrefixOf (bys s))) ∧ w = w' := by
  refine (Tryd.strings_HasPrefix s p w).mono ?_
  rintro e w' ⟨rfl, rfl⟩
  exact ⟨rfl, rfl⟩
theorem bys_toList (s : ByteArray) : s.toList = bys s := by
  unfold bys
  exact ByteArray.toList_eq ..
theorem isName_any (s : ByteArray) (w : World) : Calls Tryd.prog 51 #[.string s] w fun e w' => e = .returned (.bool (isName (bys s))) ∧ w = w' := by
  by_cases h0 : s.size = 0
  · have h1 : bys s = [] := List.eq_nil_of_length_eq_zero (by rw [bys_len, h0])
    have h2 : s.toList = [] := by rw [bys_toList, h1]
    rw [h1, show isName [] = false by rfl]
    clear h0 h1
    go_enter Tryd.func51, Tryd.ntmps51
    go_wp2
    go_ret
    exact ⟨rfl, rfl⟩
  · have hlt : 0 < s.size := by omega
    have hd := bys_drop hlt
    rw [List.drop_zero] at hd
    have h2 : s.toList.isEmpty = false := by rw [bys_toList, hd]; rfl
    have h3 : s.toList ≠ [] := by rw [bys_toList, hd]; simp
    have hc := fun w => isLetter_any s[0] w
    rw [hd, show isName (s[0] :: (bys s).drop (0 + 1)) = isL s[0] by rfl]
    clear hd h0
    go_enter Tryd.func51, Tryd.ntmps51
    go_wp2_with (go_at_call 49; refine (hc _).mono ?_; rintro e w' ⟨rfl, rfl⟩)
    go_ret
    exact ⟨rfl, rfl⟩

theorem numV_snoc (l : By) (c : UInt8) : ∀ v : Nat, numV v (l ++ [c]) = min (10 * numV v l + (c.toNat - 48)) 1000001 := by
  induction l with
  | nil => intro v; rfl
  | cons d r ih =>
    intro v
    show numV (min (10 * v + (d.toNat - 48)) 1000001) (r ++ [c]) = _
    exact ih _
theorem isD_in {c : UInt8} (h : isD c = true) : 48 ≤ (c.toNat : Int) ∧ (c.toNat : Int) ≤ 57 := by simpa [isD] using h
set_option maxHeartbeats 1000000 in
theorem isNumber_any (s : ByteArray) (w : World) (hs : s.size ≤ 281474976710656) : Calls Tryd.prog 52 #[.string s] w fun e w' => e = .returned (.bool (isNum (bys s))) ∧ w = w' := by
  by_cases h0 : s.size = 0
  · have h1 : bys s = [] := List.eq_nil_of_length_eq_zero (by rw [bys_len, h0])
    have h2 : s.toList = [] := by rw [bys_toList, h1]
    rw [h1, show isNum [] = false by rfl]
    clear h0 h1
    go_enter Tryd.func52, Tryd.ntmps52
    go_wp2
    go_ret
    exact ⟨rfl, rfl⟩
  · have hlt : 0 < s.size := by omega
    have hd := bys_drop hlt
    rw [List.drop_zero] at hd
    have h2 : s.toList.isEmpty = false := by rw [bys_toList, hd]; rfl
    have h3 : s.toList ≠ [] := by rw [bys_toList, hd]; simp
    by_cases hz : s[0] = 48
    · have hz2 : ((s[0].toNat : Int) == 48) = true := by rw [hz]; rfl
      rw [hd, hz, isNum_zero]
      have hr : (s.toList == [48]) = ((bys s).drop (0 + 1)).isEmpty := by
        rw [bys_toList]
        rw [hd, hz]
        generalize (bys s).drop (0 + 1) = r
        cases r <;> rfl
      obtain ⟨b, hb⟩ : ∃ b, ((bys s).drop (0 + 1)).isEmpty = b := ⟨_, rfl⟩
      rw [hb] at hr ⊢
      clear hd h0 hb hz
      go_enter Tryd.func52, Tryd.ntmps52
      go_wp2
      go_ret
      exact ⟨rfl, rfl⟩
    · have hz2 : ((s[0].toNat : Int) == 48) = false := by
        rw [Bool.eq_false_iff]
        intro h
        apply hz
        have : (s[0].toNat : Int) = 48 := by simpa using h
        exact UInt8.toNat_inj.1 (by show _ = 48; omega)
      obtain ⟨R, hR⟩ : ∃ R, isNum (bys s) = R := ⟨_, rfl⟩
      have hN : isNum (bys s) = ((bys s).all isD && decide (numV 0 (bys s) ≤ 1000000)) := by
        rw [hd]
        exact isNum_other hz
      rw [hR] at hN ⊢
      have HN := Lib.hid hN
      have hcd := fun (c : UInt8) w => isDigit_any c w
      clear hd h0 hN hR hz
      go_enter Tryd.func52, Tryd.ntmps52
      go_wp2
      go_loop [3, 16] (fun v i => ∃ k n : Nat, k ≤ s.size ∧ i = .int .i64 k ∧ v = .int .i64 n ∧ n ≤ 1000001 ∧ ((bys s).take k).all isD = true ∧ numV 0 ((bys s).take k) = n) (fun _ i => s.size - (intOf i).toNat)
      case atStart => exact ⟨0, 0, Nat.zero_le _, rfl, rfl, by omega, by simp, rfl⟩
      case round =>
        obtain ⟨k, n, hk, rfl, rfl, hn, hall, hv⟩ := hrel
        have HA := Lib.hid hall
        have HV := Lib.hid hv
        clear hall hv
        by_cases hlt : k < s.size
        · have hg := bys_get hlt
          have HG := Lib.hid hg
          clear hg
          generalize hcc : s[k] = c at *
          have HCC := Lib.hid hcc
          have hc := fun w => hcd c w
          clear hcd
          cases hw : isD c
          · rw [hw] at hc
            have HW := Lib.hid hw
            clear hw
            go_wp2_with (go_at_call 50; refine (hc _).mono ?_; rintro e w' ⟨rfl, rfl⟩)
            go_ret
            refine ⟨ret_bool ?_, rfl⟩
            rw [HN.out]
            have : (bys s).all isD = false := by
              rw [List.all_eq_false]
              exact ⟨c, List.mem_of_getElem? HG.out, by simp [HW.out]⟩
            rw [this]; rfl
          · rw [hw] at hc
            obtain ⟨hb1, hb2⟩ := isD_in hw
            have HW := Lib.hid hw
            clear hw
            have HT : Hid (numV 0 ((bys s).take (k + 1)) = min (10 * n + (c.toNat - 48)) 1000001) := Lib.hid (by rw [take_snoc HG.out, numV_snoc, HV.out])
            go_wp2_with (go_at_call 50; refine (hc _).mono ?_; rintro e w' ⟨rfl, rfl⟩)
            exact ⟨⟨k + 1, min (10 * n + (c.toNat - 48)) 1000001, by omega, by go_num, by congr 1; omega, by omega, by rw [take_snoc HG.out, List.all_append, HA.out]; simp [HW.out], HT.out⟩, by simp [intOf]; omega⟩
        · have hk2 : k = s.size := by omega
          clear hcd
          go_wp2
          go_ret
          refine ⟨ret_bool ?_, rfl⟩
          have h5 : (bys s).take k = bys s := List.take_of_length_le (by rw [bys_len]; omega)
          have h6 := HA.out
          have h7 := HV.out
          rw [h5] at h6 h7
          rw [HN.out, h6, h7, Bool.true_and, decide_eq_decide]
          omega

end Lx
end Go.Proofs.YtiebhlmjpnhepaaDoor
