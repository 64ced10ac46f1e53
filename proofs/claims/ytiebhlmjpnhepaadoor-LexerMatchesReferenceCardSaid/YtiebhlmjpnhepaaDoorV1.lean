/- The reference's small functions: space, digit, word, sign. -/
import Derived.Test.YtiebhlmjpnhepaaDoorW6
namespace Go.Proofs.YtiebhlmjpnhepaaDoor
open Go.RowKit Sl Fr
namespace Lx
set_option linter.unusedVariables false
set_option linter.unusedSimpArgs false

theorem rspace_any (c : UInt8) (w : World) : Calls Tryd.prog 34 #[.int .u8 (c.toNat : Int)] w fun e w' => e = .returned (.bool (isSp c)) ∧ w = w' := by
  have h := eq_int c 10
  have h' := eq_int c 32
  rw [show isSp c = (c == 32 || c == 10) by rfl, h, h']
  clear h h'
  have e : ((32 : UInt8).toNat : Int) = 32 := rfl
  have e' : ((10 : UInt8).toNat : Int) = 10 := rfl
  rw [e, e']
  clear e e'
  cases h0 : ((c.toNat : Int) == 32)
  · go_enter Tryd.func34, Tryd.ntmps34
    go_wp2
    go_ret
    exact ⟨rfl, rfl⟩
  · go_enter Tryd.func34, Tryd.ntmps34
    go_wp2
    go_ret
    exact ⟨rfl, rfl⟩
theorem rdigit_any (c : UInt8) (w : World) : Calls Tryd.prog 35 #[.int .u8 (c.toNat : Int)] w fun e w' => e = .returned (.bool (isD c)) ∧ w = w' := by
  by_cases h0 : 48 ≤ (c.toNat : Int)
  · by_cases h1 : (c.toNat : Int) ≤ 57
    · rw [show isD c = true by simp [isD]; omega]
      go_enter Tryd.func35, Tryd.ntmps35
      go_wp2
      go_ret
      exact ⟨rfl, rfl⟩
    · rw [show isD c = false by simp [isD]; omega]
      go_enter Tryd.func35, Tryd.ntmps35
      go_wp2
      go_ret
      exact ⟨rfl, rfl⟩
  · rw [show isD c = false by simp [isD]; omega]
    go_enter Tryd.func35, Tryd.ntmps35
    go_wp2
    go_ret
    exact ⟨rfl, rfl⟩
theorem rword_any (c : UInt8) (w : World) : Calls Tryd.prog 28 #[.int .u8 (c.toNat : Int)] w fun e w' => e = .returned (.bool (isWd c)) ∧ w = w' := by
  have hd := fun w => rdigit_any c w
  rw [show isWd c = (isL c || isD c) by rfl]
  generalize isD c = dg at *
  by_cases h0 : 97 ≤ (c.toNat : Int)
  · by_cases h1 : (c.toNat : Int) ≤ 122
    · rw [show isL c = true by simp [isL]; omega]
      go_enter Tryd.func28, Tryd.ntmps28
      go_wp2_with (go_at_call 35; refine (hd _).mono ?_; rintro e w' ⟨rfl, rfl⟩)
      go_ret
      exact ⟨rfl, rfl⟩
    · rw [show isL c = false by simp [isL]; omega]
      go_enter Tryd.func28, Tryd.ntmps28
      go_wp2_with (go_at_call 35; refine (hd _).mono ?_; rintro e w' ⟨rfl, rfl⟩)
      go_ret
      exact ⟨by simp, rfl⟩
  · rw [show isL c = false by simp [isL]; omega]
    go_enter Tryd.func28, Tryd.ntmps28
    go_wp2_with (go_at_call 35; refine (hd _).mono ?_; rintro e w' ⟨rfl, rfl⟩)
    go_ret
    exact ⟨by simp, rfl⟩

/-- The signs of one byte, as a string. -/
def sgS : ByteArray := ⟨#[40, 41, 123, 125, 91, 93, 44, 59, 58, 61, 43, 45, 38, 124, 94, 126, 60, 63, 64, 35, 46]⟩
theorem sgS_size : sgS.size = 21 := rfl
theorem sgS_bys : bys sgS = oneSigns := rfl
/-- Whether a sign of two bytes stands there. -/
def twoS (s : ByteArray) (i : Nat) : Bool := match (bys s).drop i with
  | c :: d :: _ => (c == 45 && d == 62) || (c == 61 && d == 61)
  | _ => false
theorem sgn_two {s : ByteArray} {i : Nat} (h : twoS s i = true) : sgn ((bys s).drop i) = 2 := by
  unfold twoS at h
  split at h
  · rename_i c d r e
    rw [e, sgn_cons, if_pos]
    simpa using h
  · cases h
theorem sgn_one {s : ByteArray} {i : Nat} (hi : i < s.size) (h : twoS s i = false) : sgn ((bys s).drop i) = if s[i] ∈ oneSigns then 1 else 0 := by
  have hd := bys_drop hi
  unfold twoS at h
  rw [hd] at h ⊢
  rw [sgn_cons, if_neg]
  intro hc
  cases hr : (bys s).drop (i + 1) with
  | nil => rw [hr] at hc; simp at hc
  | cons d r =>
    rw [hr] at h hc
    simp at h hc
    rcases hc with hc | hc
    · exact h.1 hc.1 hc.2
    · exact h.2 hc.1 hc.2
theorem twoS_last {s : ByteArray} {i : Nat} (h : i + 1 = s.size) : twoS s i = false := by
  have hd := bys_drop (s := s) (j := i) (by omega)
  unfold twoS
  rw [hd, List.drop_of_length_le (l := bys s) (by rw [bys_len]; omega)]
theorem twoS_at {s : ByteArray} {i : Nat} (h : i + 1 < s.size) : twoS s i = ((s[i] == 45 && s[i + 1] == 62) || (s[i] == 61 && s[i + 1] == 61)) := by
  unfold twoS
  rw [bys_drop (show i < s.size by omega), bys_drop h]

set_option maxRecDepth 100000 in
set_option maxHeartbeats 4000000 in
theorem rsign_any (s : ByteArray) (i : Nat) (w : World) (hi : i < s.size) (hs : s.size ≤ 281474976710656) : Calls Tryd.prog 30 #[.string s, .int .i64 (i : Int)] w fun e w' => e = .returned (.int .i64 (sgn ((bys s).drop i) : Nat)) ∧ Below w.heap.size w w' := by
  have H2 := Lib.hid (fun h => sgn_two (s := s) (i := i) h)
  have H1 := Lib.hid (fun h => sgn_one (s := s) (i := i) hi h)
  have HL := Lib.hid (fun h => twoS_last (s := s) (i := i) h)
  have HA := Lib.hid (fun h => twoS_at (s := s) (i := i) h)
  generalize sgn ((bys s).drop i) = R at *
  generalize twoS s i = T at *
  go_enter Tryd.func30, Tryd.ntmps30
  go_upto_region 1 with fail
  go_cut [36] (fun v wx => v = .bool T ∧ w = wx)
  case first =>
    by_cases hn : i + 1 < s.size
    · have ha := HA.out hn
      have hn2 : (i : Int) + 1 < (s.size : Int) := by omega
      have e0 := eq_int s[i] 45
      have e1 := eq_int s[i + 1] 62
      have e2 := eq_int s[i] 61
      have e3 := eq_int s[i + 1] 61
      rw [e0, e1, e2, e3, show ((45 : UInt8).toNat : Int) = 45 from rfl, show ((62 : UInt8).toNat : Int) = 62 from rfl, show ((61 : UInt8).toNat : Int) = 61 from rfl] at ha
      clear e0 e1 e2 e3 HA HL H1 H2
      have HAA := Lib.hid ha
      clear ha
      generalize hc : s[i] = c at *
      generalize hdd : s[i + 1] = d at *
      cases q0 : ((c.toNat : Int) == 45) <;> cases q1 : ((c.toNat : Int) == 61) <;> cases q2 : ((d.toNat : Int) == 62) <;> cases q3 : ((d.toNat : Int) == 61)
      all_goals
        rw [q0, q1, q2, q3] at HAA
        obtain rfl : T = _ := HAA.out
        clear HAA
        go_wp2_with fail
        go_meet
        exact ⟨rfl, rfl⟩
    · obtain rfl : T = false := HL.out (by omega)
      have hn2 : ¬ ((i : Int) + 1 < (s.size : Int)) := by omega
      go_wp2_with fail
      go_meet
      exact ⟨rfl, rfl⟩
  case rest =>
    obtain ⟨rfl, rfl⟩ := hcut
    cases hT : T with
    | true =>
      obtain rfl : R = 2 := H2.out hT
      go_wp2_with fail
      go_ret
      exact ⟨rfl, Below.refl _ _⟩
    | false =>
      have h1 := H1.out hT
      have HR := Lib.hid h1
      clear h1 H1 H2 HL HA
      generalize hc : s[i] = c at *
      have HC := Lib.hid hc
      go_wp2_with fail
      go_loopw [5] (fun v W => ∃ k : Nat, v = .int .i64 (k : Int) ∧ k ≤ 21 ∧ (∀ j, j < k → oneSigns[j]? ≠ some c) ∧ Below w.heap.size w W) (fun v _ => 21 - (intOf v).toNat)
      case atStart => exact ⟨0, rfl, by omega, fun j hj => by omega, Below.refl _ _⟩
      case round =>
        obtain ⟨k, rfl, hk, hno, hbl⟩ := hrel
        have HNO := Lib.hid hno
        clear hno
        by_cases hlt : k < 21
        · have hlt2 : k < sgS.size := by rw [sgS_size]; exact hlt
          have hg := bys_get hlt2
          rw [sgS_bys] at hg
          have HG := Lib.hid hg
          clear hg
          have he := eq_int sgS[k] c
          have hk0 : (0 : Int) ≤ (k : Int) := Int.natCast_nonneg _
          have hk1 : (k : Int) < 21 := by omega
          unfold sgS at *
          generalize hd : (⟨#[40, 41, 123, 125, 91, 93, 44, 59, 58, 61, 43, 45, 38, 124, 94, 126, 60, 63, 64, 35, 46]⟩ : ByteArray)[k] = d at *
          cases q : ((d.toNat : Int) == (c.toNat : Int))
          · rw [q] at he
            have hne : d ≠ c := by simpa using he
            have HNE := Lib.hid hne
            clear he hne
            go_upto_region 6 with fail
            go_region
            go_wp2_with fail
            go_roundw
            case rel => exact ⟨k + 1, by go_num, by omega, fun j hj => by
              by_cases h : j < k
              · exact HNO.out j h
              · obtain rfl : j = k := by omega
                rw [HG.out]; intro h2; exact HNE.out (Option.some.inj h2), hbl.drew⟩
            case measure => simp [intOf]; omega
          · rw [q] at he
            have heq : d = c := by simpa using he
            have HEQ := Lib.hid heq
            clear he heq
            go_upto_region 6 with fail
            go_region
            go_wp2_with fail
            go_ret
            refine ⟨ret_num ?_, hbl.drew⟩
            rw [HR.out, if_pos (by rw [← HEQ.out]; exact List.mem_of_getElem? HG.out)]
            rfl
        · go_wp2_with fail
          go_ret
          refine ⟨ret_num ?_, hbl⟩
          rw [HR.out, if_neg (fun hm => by
            obtain ⟨j, hj⟩ := List.getElem?_of_mem hm
            have : j < oneSigns.length := (List.getElem?_eq_some_iff.1 hj).1
            exact HNO.out j (by have h21 : oneSigns.length = 21 := rfl; omega) hj)]
          rfl

end Lx
end Go.Proofs.YtiebhlmjpnhepaaDoor
