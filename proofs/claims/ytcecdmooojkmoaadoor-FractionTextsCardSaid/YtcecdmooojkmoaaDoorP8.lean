/- What the reference's read returns. -/
import Derived.Test.YtcecdmooojkmoaaDoorP7
namespace Go.Proofs.YtcecdmooojkmoaaDoor
open Go.RowKit Go.Shelf Go.Sort
namespace Fr
set_option linter.unusedVariables false

theorem drop_cons (s : ByteArray) (j : Nat) (h : j < s.size) : s.data.toList.drop j = s[j] :: s.data.toList.drop (j + 1) := by
  rw [List.drop_eq_getElem_cons (by simpa using h)]; rfl

theorem read_dig {f m : Nat} {c : UInt8} {r : List UInt8} (hc : 48 ≤ (c.toNat : Int) ∧ (c.toNat : Int) ≤ 57) : rdL (f + 1) m (c :: r) = if 461168601842738790 < m then (0, []) else rdL f (10 * m + (c.toNat - 48)) r := by
  rw [rdL, if_pos (by unfold isDig; simp; omega)]
theorem read_no {f m : Nat} {c : UInt8} {r : List UInt8} (hc : ¬ (48 ≤ (c.toNat : Int) ∧ (c.toNat : Int) ≤ 57)) : rdL f m (c :: r) = (m, c :: r) := by
  cases f with
  | zero => rfl
  | succ f => rw [rdL, if_neg (by unfold isDig; simp; omega)]

theorem ret_two {a b c d : Int} (h : a = b) (h' : c = d) : Ending.returned (.tuple #[.int .i64 a, .int .i64 c]) = .returned (.tuple #[.int .i64 b, .int .i64 d]) := by rw [h, h']

set_option maxHeartbeats 2000000 in
theorem read_any (s : ByteArray) (i : Nat) (w : World) (hi : i ≤ s.size) (hs : s.size ≤ 281474976710656) :
    Calls Tryd.prog 41 #[.string s, .int .i64 i] w fun o w' => o = .returned (.tuple #[.int .i64 ((rdL 19 0 (s.data.toList.drop i)).1 : Int), .int .i64 ((s.size - (rdL 19 0 (s.data.toList.drop i)).2.length : Nat) : Int)]) ∧ w = w' := by
  obtain ⟨R, hR⟩ : ∃ R, rdL 19 0 (s.data.toList.drop i) = R := ⟨_, rfl⟩
  rw [hR]
  have HR := Lib.hid hR
  clear hR
  go_enter Tryd.func41, Tryd.ntmps41
  go_wp2_with fail
  go_loop [1, 6, 7] (fun a n k => ∃ j m c : Nat, a = .int .i64 j ∧ n = .int .i64 m ∧ k = .int .i64 c ∧ j ≤ s.size ∧ c ≤ 19 ∧ m ≤ 4611686018427387909 ∧ rdL (19 - c) m (s.data.toList.drop j) = R) (fun _ _ k => 19 - (intOf k).toNat)
  case atStart => exact ⟨i, 0, 0, rfl, rfl, rfl, hi, by omega, by omega, HR.out⟩
  case round =>
    obtain ⟨j, m, c, rfl, rfl, rfl, hj, hc, hm, hr⟩ := hrel
    have H := Lib.hid hr
    clear hr HR
    have hlen : (s.data.toList.drop j).length = s.size - j := by simp
    by_cases h1 : c < 19
    · by_cases h2 : j < s.size
      · have hd := drop_cons s j h2
        rw [hd] at H
        obtain ⟨b, hb⟩ : ∃ b, s[j] = b := ⟨_, rfl⟩
        rw [hb] at H hd
        have hbl := b.toNat_lt
        by_cases h3 : 48 ≤ (b.toNat : Int)
        · by_cases h4 : (b.toNat : Int) ≤ 57
          · by_cases h5 : 461168601842738790 < m
            · have hres : R = (0, []) := by
                rw [← H.out, show 19 - c = (18 - c) + 1 by omega, read_dig ⟨h3, h4⟩, if_pos h5]
              subst hres
              clear H hd hlen
              go_wp2_with (refine (most_any _).mono ?_; rintro o w' ⟨rfl, rfl⟩)
              go_ret2
              exact ⟨rfl, rfl⟩
            · have H2 : Hid (rdL (19 - (c + 1)) (10 * m + (b.toNat - 48)) (s.data.toList.drop (j + 1)) = R) := by
                apply Lib.hid
                rw [← H.out, show 19 - c = (19 - (c + 1)) + 1 by omega, read_dig ⟨h3, h4⟩, if_neg h5]
              clear H hd hlen
              go_wp2_with (refine (most_any _).mono ?_; rintro o w' ⟨rfl, rfl⟩)
              go_round
              case rel => exact ⟨j + 1, 10 * m + (b.toNat - 48), c + 1, by go_num, by rw [show (10 * (m : Int) + ((b.toNat : Int) - 48)) = ((10 * m + (b.toNat - 48) : Nat) : Int) by omega], by go_num, by omega, by omega, by omega, H2.out⟩
              case measure => simp [intOf]; omega
          · have hres : R = (m, b :: s.data.toList.drop (j + 1)) := by rw [← H.out, read_no (fun h => h4 h.2)]
            have hl : s.size - (b :: s.data.toList.drop (j + 1)).length = j := by rw [← hd, hlen]; omega
            subst hres
            have HL := Lib.hid hl
            clear H hd hlen hl
            go_wp2
            go_ret2
            exact ⟨ret_two rfl (by first | exact congrArg (fun x : Nat => (x : Int)) HL.out.symm | omega), rfl⟩
        · have hres : R = (m, b :: s.data.toList.drop (j + 1)) := by rw [← H.out, read_no (fun h => h3 h.1)]
          have hl : s.size - (b :: s.data.toList.drop (j + 1)).length = j := by rw [← hd, hlen]; omega
          subst hres
          have HL := Lib.hid hl
          clear H hd hlen hl
          go_wp2
          go_ret2
          exact ⟨ret_two rfl (by first | exact congrArg (fun x : Nat => (x : Int)) HL.out.symm | omega), rfl⟩
      · have hres : R = (m, []) := by rw [← H.out, List.drop_eq_nil_of_le (by simp; omega), rd_nil]
        have hl : s.size - ([] : List UInt8).length = j := by simp; omega
        subst hres
        have HL := Lib.hid hl
        clear H hlen hl
        go_wp2
        go_ret2
        exact ⟨ret_two rfl (by first | exact congrArg (fun x : Nat => (x : Int)) HL.out.symm | omega), rfl⟩
    · have hres : R = (m, s.data.toList.drop j) := by rw [← H.out, show 19 - c = 0 by omega]; rfl
      have hl : s.size - (s.data.toList.drop j).length = j := by rw [hlen]; omega
      subst hres
      have HL := Lib.hid hl
      clear H hlen hl
      go_wp2
      go_ret2
      exact ⟨ret_two rfl (by first | exact congrArg (fun x : Nat => (x : Int)) HL.out.symm | omega), rfl⟩
end Fr
end Go.Proofs.YtcecdmooojkmoaaDoor
