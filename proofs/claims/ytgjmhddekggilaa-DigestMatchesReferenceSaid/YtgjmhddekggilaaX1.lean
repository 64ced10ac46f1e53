/- What the reference's digests of numbers and bytes, and its tags, return. -/
import Derived.Test.YtgjmhddekggilaaW3
import Derived.Test.YtgjmhddekggilaaM8
namespace Go.Proofs.Ytgjmhddekggilaa
open Go.RowKit
namespace Dg

set_option maxHeartbeats 400000 in
theorem rwords_any (A : Option Addr) (xs : List Int) (c : Nat) (w : World) (hlen : xs.length ≤ 4611686018427387904) (hA : Arr w A (xs.map (Value.int .i64))) :
    Calls Try.prog 12 #[.slice A xs.length c] w fun e w' => e = .returned (.int .u64 (wordsI xs)) ∧ w = w' := by
  obtain ⟨b, o, hb⟩ : ∃ b o, xs ≠ [] → A = some ⟨b, o, none⟩ ∧ b < w.heap.size ∧ ∀ j, j < xs.length → w.cell? ⟨b, o + j, none⟩ = some (.int .i64 (xs[j]?.getD 0)) := by
    by_cases hx : xs = []
    · exact ⟨0, 0, fun h => absurd hx h⟩
    · obtain ⟨b, o, h⟩ := hA.at_ hx; exact ⟨b, o, fun _ => h⟩
  have HB := Lib.hid hb
  clear hb hA
  go_enter Try.func12, Try.ntmps12
  go_wp2
  go_loop [3, 4] (fun g i => ∃ k : Nat, k ≤ xs.length ∧ i = .int .i64 k ∧ g = .int .u64 (wordsTo xs k)) (fun _ i => xs.length - (intOf i).toNat)
  case atStart => exact ⟨0, Nat.zero_le _, rfl, rfl⟩
  case round =>
    obtain ⟨k, hk, rfl, rfl⟩ := hrel
    by_cases hlt : k < xs.length
    · obtain ⟨rfl, hbs, hc⟩ := HB.out (by intro h; subst h; simp at hlt)
      have hcx := hc k hlt
      have hs := wordsTo_succ xs k hlt
      generalize xs[k]?.getD 0 = x at hcx hs
      have HS := Lib.hid hs
      clear hc hs HB
      go_wp2_with (go_at_call 28; refine (step_any _ _ _).mono ?_; rintro e w' ⟨rfl, rfl⟩)
      go_round
      case rel => exact ⟨k + 1, by omega, by go_num, congrArg (Value.int .u64) HS.out.symm⟩
      case measure => simp [intOf]; omega
    · clear HB
      go_wp2_with (go_at_call 28; refine (step_any _ _ _).mono ?_; rintro e w' ⟨rfl, rfl⟩)
      go_ret
      have : k = xs.length := by omega
      subst this
      exact ⟨ret_int (wordsTo_all xs), rfl⟩

theorem rtag_any (key : Int) (A : Option Addr) (xs : List Int) (c : Nat) (w : World) (hlen : xs.length ≤ 4611686018427387904) (hA : Arr w A (xs.map (Value.int .i64))) :
    Calls Try.prog 18 #[.int .u64 key, .slice A xs.length c] w fun e w' => e = .returned (.int .u64 (tagI key xs)) ∧ w = w' := by
  go_enter Try.func18, Try.ntmps18
  go_wp2_with (first | (go_at_call 12; refine (rwords_any _ _ _ _ hlen hA).mono ?_; rintro e w1 ⟨rfl, rfl⟩) | (go_at_call 28; refine (step_any _ _ _).mono ?_; rintro e w' ⟨rfl, rfl⟩))
  go_ret
  exact ⟨rfl, rfl⟩

/-- The digest of the first k groups. -/
def rbytesTo (xs : List Int) (k : Nat) : Int := foldI 422944466291 ((wordsB xs).take k)
theorem rbytesTo_succ (xs : List Int) (k : Nat) (hk : 8 * k < xs.length) : rbytesTo xs (k + 1) = stepI (rbytesTo xs k) (valL (groupAt xs k)) := by
  have hl : (wordsB xs).length = (xs.length + 7) / 8 := by unfold wordsB; simp
  have := foldI_snoc 422944466291 (wordsB xs) k (by rw [hl]; omega)
  unfold rbytesTo
  rw [this]
  unfold wordsB
  rw [List.getElem?_map, List.getElem?_range (by omega)]
  rfl
theorem rbytesTo_all (xs : List Int) : stepI (rbytesTo xs ((xs.length + 7) / 8)) (xs.length : Int) = bytesI xs := by
  have hl : (wordsB xs).length = (xs.length + 7) / 8 := by unfold wordsB; simp
  unfold rbytesTo bytesI
  rw [List.take_of_length_le (by omega)]

theorem wordTo_next (xs : List Int) (g k : Nat) (hb : B8 xs) (hk : k < 8) (h : 8 * g + k < xs.length) :
    bits .or .u64 (wordTo (groupAt xs g) k) (IntKind.u64.wrap (IntKind.u64.wrap (xs[8 * g + k]?.getD 0) * 2 ^ (8 * k))) = wordTo (groupAt xs g) (k + 1) := by
  have hl := groupAt_length xs g
  have h2 := wordTo_succ (groupAt xs g) k (groupAt_B8 hb g) (by omega) (by omega)
  rw [groupAt_get xs g k hk] at h2
  exact h2
theorem wordTo_group (xs : List Int) (g k : Nat) (hk : k ≤ 8) (h : k = 8 ∨ xs.length ≤ 8 * g + k) : wordTo (groupAt xs g) k = valL (groupAt xs g) := by
  have hl := groupAt_length xs g
  unfold wordTo
  rw [List.take_of_length_le (by omega)]

set_option maxHeartbeats 400000 in
theorem rbytes_any (A : Option Addr) (xs : List Int) (c : Nat) (w : World) (hlen : xs.length ≤ 4611686018427387904) (hB : B8 xs) (hA : Arr w A (xs.map (Value.int .u8))) :
    Calls Try.prog 14 #[.slice A xs.length c] w fun e w' => e = .returned (.int .u64 (bytesI xs)) ∧ w = w' := by
  obtain ⟨b, o, hb⟩ : ∃ b o, xs ≠ [] → A = some ⟨b, o, none⟩ ∧ b < w.heap.size ∧ ∀ j, j < xs.length → w.cell? ⟨b, o + j, none⟩ = some (.int .u8 (xs[j]?.getD 0)) := by
    by_cases hx : xs = []
    · exact ⟨0, 0, fun h => absurd hx h⟩
    · obtain ⟨b, o, h⟩ := hA.at_ hx; exact ⟨b, o, fun _ => h⟩
  have HB := Lib.hid hb
  have H8 := Lib.hid hB
  clear hb hA hB
  go_enter Try.func14, Try.ntmps14
  go_wp2
  go_loop [3, 4] (fun g i => ∃ m k : Nat, m = 8 * k ∧ m ≤ xs.length + 7 ∧ i = .int .i64 m ∧ g = .int .u64 (rbytesTo xs k)) (fun _ i => xs.length + 7 - (intOf i).toNat)
  case atStart => exact ⟨0, 0, rfl, by omega, rfl, rfl⟩
  case round =>
    obtain ⟨m, g, hm, hm7, rfl, rfl⟩ := hrel
    have HM := Lib.hid hm
    clear hm
    by_cases hlt : m < xs.length
    · have hs := rbytesTo_succ xs g (by have := HM.out; omega)
      have HS := Lib.hid hs
      obtain ⟨rfl, hbs, hc⟩ := HB.out (by intro h; subst h; simp at hlt)
      have HC := Lib.hid hc
      clear hs hc HB
      go_wp2
      go_loop [5, 6] (fun v i => ∃ k : Nat, k ≤ 8 ∧ m + k ≤ xs.length ∧ i = .int .i64 k ∧ v = .int .u64 (wordTo (groupAt xs g) k)) (fun _ i => 8 - (intOf i).toNat)
      case atStart => exact ⟨0, by omega, by omega, rfl, rfl⟩
      case round =>
        obtain ⟨k, hk8, hkl, rfl, rfl⟩ := hrel
        by_cases h1 : k < 8 ∧ m + k < xs.length
        · obtain ⟨h1, h2⟩ := h1
          have hcx := HC.out (m + k) h2
          have hn := wordTo_next xs g k H8.out h1 (by have := HM.out; omega)
          rw [← HM.out] at hn
          generalize xs[m + k]?.getD 0 = x at hcx hn
          have HN := Lib.hid hn
          clear hn
          go_wp2
          go_round
          case rel => exact ⟨k + 1, by omega, by omega, by go_num, congrArg (Value.int .u64) HN.out⟩
          case measure => simp [intOf]; omega
        · have HW := Lib.hid (wordTo_group xs g k hk8 (by have := HM.out; omega))
          by_cases h2 : k < 8
          · have h3 : ¬ m + k < xs.length := fun h => h1 ⟨h2, h⟩
            clear h1
            go_wp2_with (go_at_call 28; refine (step_any _ _ _).mono ?_; rintro e w' ⟨rfl, rfl⟩)
            go_round
            case rel => exact ⟨m + 8, g + 1, by have := HM.out; omega, by omega, by go_num, congrArg (Value.int .u64) (by rw [HW.out]; exact HS.out.symm)⟩
            case measure => simp [intOf]; omega
          · clear h1
            go_wp2_with (go_at_call 28; refine (step_any _ _ _).mono ?_; rintro e w' ⟨rfl, rfl⟩)
            go_round
            case rel => exact ⟨m + 8, g + 1, by have := HM.out; omega, by omega, by go_num, congrArg (Value.int .u64) (by rw [HW.out]; exact HS.out.symm)⟩
            case measure => simp [intOf]; omega
    · clear HB
      go_wp2_with (go_at_call 28; refine (step_any _ _ _).mono ?_; rintro e w' ⟨rfl, rfl⟩)
      go_ret
      have h : g = (xs.length + 7) / 8 := by have := HM.out; omega
      subst h
      exact ⟨ret_int (rbytesTo_all xs), rfl⟩

end Dg
end Go.Proofs.Ytgjmhddekggilaa
