/- What the small functions of package digest and of the reference return: steps, joins, digests of numbers, tags. -/
import Derived.Test.YtgjmhddekggilaaRows
import Derived.Test.YtgjmhddekggilaaM1
import Derived.Test.YtgjmhddekggilaaS1
import Derived.WalkKit
import Derived.WalkSpells
import Derived.WalkLawsBesides
import Derived.Lib.Hide
namespace Go.Proofs.Ytgjmhddekggilaa
open Go.RowKit
namespace Dg

theorem ret_int {k : IntKind} {a b : Int} (h : a = b) : Ending.returned (.int k a) = .returned (.int k b) := by rw [h]
theorem foldI_zero (h : Int) (l : List Int) : foldI h (l.take 0) = h := rfl

theorem foldI_snoc (h : Int) (l : List Int) (k : Nat) (hk : k < l.length) : foldI h (l.take (k + 1)) = stepI (foldI h (l.take k)) (l[k]?.getD 0) := by
  unfold foldI
  rw [List.take_succ_eq_append_getElem hk, List.foldl_append]
  simp [hk]

set_option maxHeartbeats 400000 in
theorem steps_some (h : Int) (xs : List Int) (b o c : Nat) (w : World) (hlen : xs.length ≤ 9223372036854775807)
    (hc : ∀ j, j < xs.length → w.cell? ⟨b, o + j, none⟩ = some (.int .u64 (xs[j]?.getD 0))) :
    Calls Try.prog 29 #[.int .u64 h, .slice (some ⟨b, o, none⟩) xs.length c] w fun e w' => e = .returned (.int .u64 (foldI h xs)) ∧ w = w' := by
  go_enter Try.func29, Try.ntmps29
  go_wp2
  go_loop [0, 11] (fun g i => ∃ k : Nat, k ≤ xs.length ∧ i = .int .i64 k ∧ g = .int .u64 (foldI h (xs.take k))) (fun _ i => xs.length - (intOf i).toNat)
  case atStart => exact ⟨0, Nat.zero_le _, rfl, rfl⟩
  case round =>
    obtain ⟨k, hk, rfl, rfl⟩ := hrel
    by_cases hlt : k < xs.length
    · have hcx := hc k hlt
      have hs := foldI_snoc h xs k hlt
      generalize xs[k]?.getD 0 = x at hcx hs
      have HS := Lib.hid hs
      clear hc hs
      go_wp2
      go_round
      case rel => exact ⟨k + 1, by omega, by go_num, congrArg (Value.int .u64) HS.out.symm⟩
      case measure => simp [intOf]; omega
    · clear hc
      go_wp2
      go_ret
      have : k = xs.length := by omega
      subst this
      exact ⟨ret_int (by rw [List.take_length]), rfl⟩

theorem step_any (h x : Int) (w : World) : Calls Try.prog 28 #[.int .u64 h, .int .u64 x] w fun e w' => e = .returned (.int .u64 (stepI h x)) ∧ w = w' := by
  go_enter Try.func28, Try.ntmps28
  go_wp2
  go_ret
  exact ⟨rfl, rfl⟩

theorem rjoin_any (a b : Int) (w : World) : Calls Try.prog 16 #[.int .u64 a, .int .u64 b] w fun e w' => e = .returned (.int .u64 (joinI a b)) ∧ w = w' := by
  go_enter Try.func16, Try.ntmps16
  go_wp2_with (go_at_call 28; refine (step_any _ _ _).mono ?_; rintro e w' ⟨rfl, rfl⟩)
  go_ret
  exact ⟨rfl, rfl⟩

theorem steps_one (h x : Int) (w : World) : Calls Try.prog 29 #[.int .u64 h, .slice (some ⟨w.heap.size, 0, none⟩) 1 1] (w.alloc (.cells #[.int .u64 x] 24)) fun e w' =>
    e = .returned (.int .u64 (stepI h x)) ∧ w.alloc (.cells #[.int .u64 x] 24) = w' := by
  refine (steps_some h [x] w.heap.size 0 1 _ (by simp) ?_).mono fun e w' hp => hp
  intro j hj
  have : j = 0 := by simpa using hj
  subst this
  exact (World.cell?_alloc_at _ 24 _ 0 rfl).trans rfl

theorem steps_two (h x y : Int) (w : World) : Calls Try.prog 29 #[.int .u64 h, .slice (some ⟨w.heap.size, 0, none⟩) 2 2] (w.alloc (.cells #[.int .u64 x, .int .u64 y] 24)) fun e w' =>
    e = .returned (.int .u64 (stepI (stepI h x) y)) ∧ w.alloc (.cells #[.int .u64 x, .int .u64 y] 24) = w' := by
  refine (steps_some h [x, y] w.heap.size 0 2 _ (by simp) ?_).mono fun e w' hp => hp
  intro j hj
  match j, hj with
  | 0, _ => exact (World.cell?_alloc_at _ 24 _ 0 rfl).trans rfl
  | 1, _ => exact (World.cell?_alloc_at _ 24 _ 1 rfl).trans rfl

theorem join_any (a b : Int) (w : World) : Calls Try.prog 15 #[.int .u64 a, .int .u64 b] w fun e w' => e = .returned (.int .u64 (joinI a b)) ∧ Below w.heap.size w w' := by
  go_enter Try.func15, Try.ntmps15
  go_wp2_with (go_at_call 29; refine (steps_two _ _ _ _).mono ?_; rintro e w' ⟨rfl, rfl⟩)
  go_ret
  exact ⟨rfl, (Below.refl _ _).alloc (Nat.le_refl _) _⟩

end Dg
end Go.Proofs.Ytgjmhddekggilaa
