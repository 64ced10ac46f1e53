/- What the digests of lists of numbers and their tags are, as package digest computes them. -/
import Derived.Test.YtcdoalfpaldbmaaRows
import Derived.Test.YtcdoalfpaldbmaaM3
import Derived.Test.YtcdoalfpaldbmaaS1
import Derived.WalkKit
import Derived.WalkSpells
import Derived.WalkLawsBesides
import Derived.Lib.Hide
namespace Go.Proofs.Ytcdoalfpaldbmaa
open Go.RowKit Sl
namespace Dg
set_option linter.unusedVariables false

theorem ret_int {k : IntKind} {a b : Int} (h : a = b) : Ending.returned (.int k a) = .returned (.int k b) := by rw [h]
theorem foldI_zero (h : Int) (l : List Int) : foldI h (l.take 0) = h := rfl

theorem foldI_snoc (h : Int) (l : List Int) (k : Nat) (hk : k < l.length) : foldI h (l.take (k + 1)) = stepI (foldI h (l.take k)) (l[k]?.getD 0) := by
  unfold foldI
  rw [List.take_succ_eq_append_getElem hk, List.foldl_append]
  simp [hk]

set_option maxHeartbeats 400000 in
theorem steps_some (h : Int) (xs : List Int) (b o c : Nat) (w : World) (hlen : xs.length ≤ 9223372036854775807)
    (hc : ∀ j, j < xs.length → w.cell? ⟨b, o + j, none⟩ = some (.int .u64 (xs[j]?.getD 0))) :
    Calls Try.prog 32 #[.int .u64 h, .slice (some ⟨b, o, none⟩) xs.length c] w fun e w' => e = .returned (.int .u64 (foldI h xs)) ∧ w = w' := by
  go_enter Try.func32, Try.ntmps32
  go_wp2
  go_loop [0, 11] (fun g i => ∃ k : Nat, k ≤ xs.length ∧ i = .int .i64 k ∧ g = .int .u64 (foldI h (xs.take k))) (fun _ i => xs.length - (intOf i).toNat)
  case atStart => exact ⟨0, Nat.zero_le _, rfl, rfl⟩
  case round =>
    obtain ⟨k, hk, rfl, rfl⟩ := hrel
    by_cases hlt : k < xs.length
    · have hcx := hc k hlt
      have hs := foldI_snoc h xs k hlt
      generalize xs[k]?.getD 0 = x at hcx hs
      have HS := Lib.hid hs
      clear hc hs
      go_wp2
      go_round
      case rel => exact ⟨k + 1, by omega, by go_num, congrArg (Value.int .u64) HS.out.symm⟩
      case measure => simp [intOf]; omega
    · clear hc
      go_wp2
      go_ret
      have : k = xs.length := by omega
      subst this
      exact ⟨ret_int (by rw [List.take_length]), rfl⟩

theorem steps_one (h x : Int) (w : World) : Calls Try.prog 32 #[.int .u64 h, .slice (some ⟨w.heap.size, 0, none⟩) 1 1] (w.alloc (.cells #[.int .u64 x] 32)) fun e w' =>
    e = .returned (.int .u64 (stepI h x)) ∧ w.alloc (.cells #[.int .u64 x] 32) = w' := by
  refine (steps_some h [x] w.heap.size 0 1 _ (by simp) ?_).mono fun e w' hp => hp
  intro j hj
  have : j = 0 := by simpa using hj
  subst this
  exact (World.cell?_alloc_at _ 32 _ 0 rfl).trans rfl

/-- The digest of the first k numbers, before their count. -/
def wordsTo (xs : List Int) (k : Nat) : Int := foldI 512970876019 ((xs.map IntKind.u64.wrap).take k)
theorem wordsTo_succ (xs : List Int) (k : Nat) (hk : k < xs.length) : wordsTo xs (k + 1) = stepI (wordsTo xs k) (IntKind.u64.wrap (xs[k]?.getD 0)) := by
  have := foldI_snoc 512970876019 (xs.map IntKind.u64.wrap) k (by simpa using hk)
  unfold wordsTo
  rw [this]
  simp [hk]
theorem wordsTo_all (xs : List Int) : stepI (wordsTo xs xs.length) (xs.length : Int) = wordsI xs := by
  unfold wordsTo wordsI
  rw [List.take_of_length_le (by simp)]

set_option maxHeartbeats 400000 in
theorem words_any (A : Option Addr) (xs : List Int) (c : Nat) (w : World) (hlen : xs.length ≤ 4611686018427387904) (hA : Arr w A (xs.map (Value.int .i64))) :
    Calls Try.prog 33 #[.slice A xs.length c] w fun e w' => e = .returned (.int .u64 (wordsI xs)) ∧ Below w.heap.size w w' := by
  obtain ⟨b, o, hb⟩ : ∃ b o, xs ≠ [] → A = some ⟨b, o, none⟩ ∧ b < w.heap.size ∧ ∀ j, j < xs.length → w.cell? ⟨b, o + j, none⟩ = some (.int .i64 (xs[j]?.getD 0)) := by
    by_cases hx : xs = []
    · exact ⟨0, 0, fun h => absurd hx h⟩
    · obtain ⟨b, o, h⟩ := hA.at_ hx; exact ⟨b, o, fun _ => h⟩
  have HB := Lib.hid hb
  clear hb hA
  go_enter Try.func33, Try.ntmps33
  go_wp2
  go_loopw [3, 8] (fun g i wr => ∃ k : Nat, k ≤ xs.length ∧ i = .int .i64 k ∧ g = .int .u64 (wordsTo xs k) ∧ Below w.heap.size w wr) (fun _ i _ => xs.length - (intOf i).toNat)
  case atStart => exact ⟨0, Nat.zero_le _, rfl, rfl, Below.refl _ _⟩
  case round =>
    obtain ⟨k, hk, rfl, rfl, hbl⟩ := hrel
    by_cases hlt : k < xs.length
    · obtain ⟨rfl, hbs, hc⟩ := HB.out (by intro h; subst h; simp at hlt)
      have hcx := (hbl.cell (p := ⟨b, o + k, none⟩) hbs).trans (hc k hlt)
      have hs := wordsTo_succ xs k hlt
      generalize xs[k]?.getD 0 = x at hcx hs
      have HS := Lib.hid hs
      clear hc hs HB
      go_wp2_with (go_at_call 32; refine (steps_one _ _ _).mono ?_; rintro e w' ⟨rfl, rfl⟩)
      go_roundw
      case rel => exact ⟨k + 1, by omega, by go_num, congrArg (Value.int .u64) HS.out.symm, hbl.alloc hbl.size _⟩
      case measure => simp [intOf]; omega
    · clear HB
      go_wp2_with (go_at_call 32; refine (steps_one _ _ _).mono ?_; rintro e w' ⟨rfl, rfl⟩)
      go_ret
      have : k = xs.length := by omega
      subst this
      exact ⟨ret_int (wordsTo_all xs), hbl.alloc hbl.size _⟩

theorem tag_any (key : Int) (A : Option Addr) (xs : List Int) (c : Nat) (w : World) (hlen : xs.length ≤ 4611686018427387904) (hA : Arr w A (xs.map (Value.int .i64))) :
    Calls Try.prog 24 #[.int .u64 key, .slice A xs.length c] w fun e w' => e = .returned (.int .u64 (tagI key xs)) ∧ Below w.heap.size w w' := by
  go_enter Try.func24, Try.ntmps24
  go_wp2_with (first | (go_at_call 33; refine (words_any _ _ _ _ hlen hA).mono ?_; rintro e w1 ⟨rfl, hb1⟩) | (go_at_call 32; refine (steps_one _ _ _).mono ?_; rintro e w' ⟨rfl, rfl⟩))
  go_ret
  exact ⟨rfl, hb1.alloc hb1.size _⟩

end Dg
end Go.Proofs.Ytcdoalfpaldbmaa
