/- The reference's kind, Kind and blank. -/
import Derived.Test.YtiebhlmjpnhepaaDoorV1
import Derived.Test.YtiebhlmjpnhepaaDoorM6
namespace Go.Proofs.YtiebhlmjpnhepaaDoor
open Go.RowKit Sl Fr
namespace Lx
set_option linter.unusedVariables false
set_option linter.unusedSimpArgs false

theorem bys_zero {s : ByteArray} (h : s.size = 0) : bys s = [] := List.eq_nil_of_length_eq_zero (by rw [bys_len, h])
theorem bys_all {s : ByteArray} {k : Nat} (h : k = s.size) : (bys s).take k = bys s := List.take_of_length_le (by rw [bys_len]; omega)
set_option maxRecDepth 100000 in
set_option maxHeartbeats 4000000 in
theorem rkind_any (s : ByteArray) (w : World) (hs : s.size ≤ 281474976710656) : Calls Tryd.prog 29 #[.string s] w fun e w' => e = .returned (.int .i64 (rkF (bys s) : Nat)) ∧ w = w' := by
  by_cases h0 : s.size = 0
  · have h1 := bys_zero h0
    have h2 : ((s.size : Int) == 0) = true := by rw [h0]; rfl
    rw [h1, rkF_nil]
    clear h1
    go_enter Tryd.func29, Tryd.ntmps29
    go_wp2
    go_ret
    exact ⟨rfl, rfl⟩
  · have hlt0 : 0 < s.size := by omega
    have h2 : ((s.size : Int) == 0) = false := beq_eq_false_iff_ne.2 (by omega)
    have hd := bys_drop hlt0
    rw [List.drop_zero] at hd
    have HD := Lib.hid hd
    have HG0 := Lib.hid (bys_get hlt0)
    have HLEN := Lib.hid (bys_len s)
    obtain ⟨R, hR⟩ : ∃ R, R = rkF (bys s) := ⟨_, rfl⟩
    rw [← hR]
    have HR := Lib.hid hR
    clear hd hR
    have hcd := fun (c : UInt8) w => rdigit_any c w
    have hcw := fun (c : UInt8) w => rword_any c w
    generalize hc0 : s[0] = c0 at *
    generalize (bys s).drop (0 + 1) = r0 at *
    have hc1 := fun w => hcd c0 w
    cases hD : isD c0 with
    | false =>
      rw [hD] at hc1
      have HDD := Lib.hid hD
      clear hD
      go_enter Tryd.func29, Tryd.ntmps29
      go_wp2_with (go_at_call 35; refine (hc1 _).mono ?_; rintro e w' ⟨rfl, rfl⟩)
      clear hc1
      go_loop [3] (fun v => ∃ k : Nat, v = .int .i64 (k : Int) ∧ k ≤ s.size ∧ ((bys s).take k).all isWd = true) (fun v => s.size - (intOf v).toNat)
      case atStart => exact ⟨0, rfl, by omega, by simp⟩
      case round =>
        obtain ⟨k, rfl, hk, hall⟩ := hrel
        have HA := Lib.hid hall
        clear hall hc0
        by_cases hlt : k < s.size
        · have hg := bys_get hlt
          have HG := Lib.hid hg
          clear hg
          generalize hcc : s[k] = c at *
          have hc := fun w => hcw c w
          cases hW : isWd c with
          | false =>
            rw [hW] at hc
            have HW := Lib.hid hW
            clear hW
            go_wp2_with (go_at_call 28; refine (hc _).mono ?_; rintro e w' ⟨rfl, rfl⟩)
            go_ret
            exact ⟨ret_num (by rw [HR.out, rkF_not (List.mem_of_getElem? HG.out) HW.out]; rfl), rfl⟩
          | true =>
            rw [hW] at hc
            have HW := Lib.hid hW
            clear hW
            go_wp2_with (go_at_call 28; refine (hc _).mono ?_; rintro e w' ⟨rfl, rfl⟩)
            go_round
            case rel => exact ⟨k + 1, by go_num, by omega, by rw [take_snoc HG.out, List.all_append, HA.out]; simp [HW.out]⟩
            case measure => simp [intOf]; omega
        · have hk2 : k = s.size := by omega
          go_wp2_with fail
          go_ret
          refine ⟨ret_num ?_, rfl⟩
          have h6 := HA.out
          rw [bys_all hk2, HD.out] at h6
          rw [HR.out, HD.out, rkF_name h6 HDD.out]; rfl
    | true =>
      rw [hD] at hc1
      have HDD := Lib.hid hD
      clear hD
      have NO : ∀ k, k ≤ s.size → ((∃ c, (bys s)[k]? = some c ∧ isD c = false) ∨ 1000000 < numV 0 ((bys s).take k)) → R = 0 := fun k hk h => by
        rw [HR.out, HD.out]
        apply rkF_num HDD.out
        rw [HD.out] at h
        have h1 : numV 0 ((c0 :: r0).take 0) = 0 := rfl
        refine isNum_no ?_ ?_
        · rintro rfl
          rcases h with ⟨c, h3, h4⟩ | h3
          · cases k with
            | zero => simp at h3; subst h3; rw [HDD.out] at h4; cases h4
            | succ k => simp at h3
          · have e1 := HLEN.out
            rw [HD.out] at e1
            have hk1 : k ≤ 1 := by simp at e1; omega
            rcases Nat.lt_or_ge k 1 with h5 | h5
            · obtain rfl : k = 0 := by omega
              omega
            · obtain rfl : k = 1 := by omega
              have h6 := (isD_in HDD.out).2
              have h7 : numV 0 (List.take 1 [c0]) = min (10 * 0 + (c0.toNat - 48)) 1000001 := rfl
              omega
        · rcases h with ⟨c, h3, h4⟩ | h3
          · left
            rw [List.all_eq_false]
            exact ⟨c, List.mem_of_getElem? h3, by simp [h4]⟩
          · right
            have e2 := numV_app ((c0 :: r0).take k) ((c0 :: r0).drop k) 0
            rw [List.take_append_drop] at e2
            have e3 : numV 0 ((c0 :: r0).take k) = 1000001 := by
              have := numV_le ((c0 :: r0).take k) 0 (by omega)
              omega
            rw [e2, numV_stuck _ _ e3]
            omega
      have HNO := Lib.hid NO
      clear NO
      go_enter Tryd.func29, Tryd.ntmps29
      go_wp2_with (go_at_call 35; refine (hc1 _).mono ?_; rintro e w' ⟨rfl, rfl⟩)
      clear hc1
      go_loop [4, 5] (fun v i => ∃ k n : Nat, v = .int .i64 (n : Int) ∧ i = .int .i64 (k : Int) ∧ k ≤ s.size ∧ n ≤ 10000009 ∧ ((bys s).take k).all isD = true ∧ numV 0 ((bys s).take k) = min n 1000001) (fun _ i => s.size - (intOf i).toNat)
      case atStart => exact ⟨0, 0, rfl, rfl, by omega, by omega, by simp, rfl⟩
      case round =>
        obtain ⟨k, n, rfl, rfl, hk, hn, hall, hv⟩ := hrel
        have HA := Lib.hid hall
        have HV := Lib.hid hv
        clear hall hv
        by_cases hlt : k < s.size
        · have hg := bys_get hlt
          have HG := Lib.hid hg
          clear hg hc0
          generalize hcc : s[k] = c at *
          have hc := fun w => hcd c w
          cases hW : isD c with
          | false =>
            rw [hW] at hc
            have HW := Lib.hid hW
            clear hW
            go_wp2_with (go_at_call 35; refine (hc _).mono ?_; rintro e w' ⟨rfl, rfl⟩)
            go_ret
            exact ⟨ret_num (by rw [HNO.out k hk (.inl ⟨c, HG.out, HW.out⟩)]; rfl), rfl⟩
          | true =>
            rw [hW] at hc
            obtain ⟨hb1, hb2⟩ := isD_in hW
            have HW := Lib.hid hW
            clear hW
            by_cases hbig : 1000000 < n
            · have hbig2 : (1000000 : Int) < (n : Int) := by omega
              go_wp2_with (go_at_call 35; refine (hc _).mono ?_; rintro e w' ⟨rfl, rfl⟩)
              go_ret
              exact ⟨ret_num (by rw [HNO.out k hk (.inr (by rw [HV.out]; omega))]; rfl), rfl⟩
            · have hbig2 : ¬ (1000000 : Int) < (n : Int) := by omega
              have HT : Hid (numV 0 ((bys s).take (k + 1)) = min (10 * n + (c.toNat - 48)) 1000001) := Lib.hid (by rw [take_snoc HG.out, numV_snoc, HV.out]; omega)
              go_wp2_with (go_at_call 35; refine (hc _).mono ?_; rintro e w' ⟨rfl, rfl⟩)
              go_round
              case rel => exact ⟨k + 1, 10 * n + (c.toNat - 48), by congr 1; omega, by go_num, by omega, by omega, by rw [take_snoc HG.out, List.all_append, HA.out]; simp [HW.out], HT.out⟩
              case measure => simp [intOf]; omega
        · have hk2 : k = s.size := by omega
          by_cases hbig : 1000000 < n
          · have hbig2 : (1000000 : Int) < (n : Int) := by omega
            go_wp2_with fail
            go_ret
            exact ⟨ret_num (by rw [HNO.out k hk (.inr (by rw [HV.out]; omega))]; rfl), rfl⟩
          · have hbig2 : ¬ (1000000 : Int) < (n : Int) := by omega
            have e48 := eq_int c0 48
            rw [show ((48 : UInt8).toNat : Int) = 48 from rfl] at e48
            have YES : (c0 = 48 → s.size ≤ 1) → R = 2 := fun hz => by
              have h6 := HA.out
              have h7 := HV.out
              rw [bys_all hk2, HD.out] at h6 h7
              rw [HR.out, HD.out]
              refine rkF_two HDD.out h6 (isNum_yes (fun h => ?_) h6 (by rw [h7]; omega))
              have e1 := HLEN.out
              rw [HD.out] at e1
              have := hz h
              exact List.eq_nil_of_length_eq_zero (by simp at e1; omega)
            cases q : ((c0.toNat : Int) == 48) with
            | false =>
              rw [q] at e48
              have hne : c0 ≠ 48 := by simpa using e48
              obtain rfl := YES (fun h => absurd h hne)
              clear e48 hne YES
              go_wp2_with fail
              go_ret
              exact ⟨rfl, rfl⟩
            | true =>
              rw [q] at e48
              have heq : c0 = 48 := by simpa using e48
              by_cases h1 : 1 < s.size
              · have hi : (1 : Int) < (s.size : Int) := by omega
                have hz : R = 0 := by
                  rw [HR.out, HD.out]
                  apply rkF_num HDD.out
                  rw [heq]
                  apply isNum_lead
                  intro h
                  have e1 := HLEN.out
                  rw [HD.out, h] at e1
                  simp at e1; omega
                subst hz
                clear e48 heq YES
                go_wp2_with fail
                go_ret
                exact ⟨rfl, rfl⟩
              · have hi : ¬ (1 : Int) < (s.size : Int) := by omega
                obtain rfl := YES (fun _ => by omega)
                clear e48 heq YES
                go_wp2_with fail
                go_ret
                exact ⟨rfl, rfl⟩

set_option maxRecDepth 100000 in
theorem rKind_any (s : ByteArray) (w : World) (hs : s.size ≤ 281474976710656) : Calls Tryd.prog 17 #[.string s] w fun e w' => e = .returned (.int .i64 (kindOf (bys s) : Nat)) ∧ Below w.heap.size w w' := by
  have hk := fun w => rkind_any s w hs
  have hr := kind_ref (bys s)
  generalize kindOf (bys s) = R at *
  generalize rkF (bys s) = K at *
  by_cases h0 : s.size = 0
  · obtain rfl : R = K := by rw [hr, if_neg (by rw [bys_zero h0]; simp)]
    have h2 : ¬ (0 : Int) < (s.size : Int) := by omega
    clear hr
    go_enter Tryd.func17, Tryd.ntmps17
    go_wp2_with (go_at_call 29; refine (hk _).mono ?_; rintro e w' ⟨rfl, rfl⟩)
    go_ret
    exact ⟨rfl, Below.refl _ _⟩
  · have h2 : (0 : Int) < (s.size : Int) := by omega
    have hne : bys s ≠ [] := fun h => h0 (by rw [← bys_len, h]; rfl)
    have hg := fun w => rsign_any s 0 w (by omega) hs
    rw [List.drop_zero] at hg
    have hle := sgn_le (bys s)
    rw [bys_len] at hle hr
    generalize sgn (bys s) = g at *
    by_cases hgs : g = s.size
    · obtain rfl : R = 3 := by rw [hr, if_pos ⟨hne, hgs⟩]
      have h3 : ((g : Int) == (s.size : Int)) = true := by simp; omega
      clear hr hk
      go_enter Tryd.func17, Tryd.ntmps17
      go_wp2_with (go_at_call 30; refine (hg _).mono ?_; rintro e w' ⟨rfl, hb⟩)
      go_ret
      exact ⟨rfl, hb⟩
    · obtain rfl : R = K := by rw [hr, if_neg (fun h => hgs h.2)]
      have h3 : ((g : Int) == (s.size : Int)) = false := by simp; omega
      clear hr
      go_enter Tryd.func17, Tryd.ntmps17
      go_wp2_with (first | (go_at_call 30; refine (hg _).mono ?_; rintro e w' ⟨rfl, hb⟩) | (go_at_call 29; refine (hk _).mono ?_; rintro e w'' ⟨rfl, rfl⟩))
      go_ret
      exact ⟨rfl, hb⟩

end Lx
end Go.Proofs.YtiebhlmjpnhepaaDoor
