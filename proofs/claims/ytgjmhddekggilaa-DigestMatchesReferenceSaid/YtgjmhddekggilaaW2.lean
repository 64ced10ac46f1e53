/- What the next functions return: digests of lists of numbers, tags, widths, partners, joins beside; that two lists are compared. -/
import Derived.Test.YtgjmhddekggilaaW1
import Derived.Test.YtgjmhddekggilaaM2
namespace Go.Proofs.Ytgjmhddekggilaa
open Go.RowKit
namespace Dg

/-- The digest of the first k numbers, before their count. -/
def wordsTo (xs : List Int) (k : Nat) : Int := foldI 512970876019 ((xs.map IntKind.u64.wrap).take k)
theorem wordsTo_succ (xs : List Int) (k : Nat) (hk : k < xs.length) : wordsTo xs (k + 1) = stepI (wordsTo xs k) (IntKind.u64.wrap (xs[k]?.getD 0)) := by
  have := foldI_snoc 512970876019 (xs.map IntKind.u64.wrap) k (by simpa using hk)
  unfold wordsTo
  rw [this]
  simp [hk]
theorem wordsTo_all (xs : List Int) : stepI (wordsTo xs xs.length) (xs.length : Int) = wordsI xs := by
  unfold wordsTo wordsI
  rw [List.take_of_length_le (by simp)]

set_option maxHeartbeats 400000 in
theorem words_any (A : Option Addr) (xs : List Int) (c : Nat) (w : World) (hlen : xs.length ≤ 4611686018427387904) (hA : Arr w A (xs.map (Value.int .i64))) :
    Calls Try.prog 11 #[.slice A xs.length c] w fun e w' => e = .returned (.int .u64 (wordsI xs)) ∧ Below w.heap.size w w' := by
  obtain ⟨b, o, hb⟩ : ∃ b o, xs ≠ [] → A = some ⟨b, o, none⟩ ∧ b < w.heap.size ∧ ∀ j, j < xs.length → w.cell? ⟨b, o + j, none⟩ = some (.int .i64 (xs[j]?.getD 0)) := by
    by_cases hx : xs = []
    · exact ⟨0, 0, fun h => absurd hx h⟩
    · obtain ⟨b, o, h⟩ := hA.at_ hx; exact ⟨b, o, fun _ => h⟩
  have HB := Lib.hid hb
  clear hb hA
  go_enter Try.func11, Try.ntmps11
  go_wp2
  go_loopw [3, 8] (fun g i wr => ∃ k : Nat, k ≤ xs.length ∧ i = .int .i64 k ∧ g = .int .u64 (wordsTo xs k) ∧ Below w.heap.size w wr) (fun _ i _ => xs.length - (intOf i).toNat)
  case atStart => exact ⟨0, Nat.zero_le _, rfl, rfl, Below.refl _ _⟩
  case round =>
    obtain ⟨k, hk, rfl, rfl, hbl⟩ := hrel
    by_cases hlt : k < xs.length
    · obtain ⟨rfl, hbs, hc⟩ := HB.out (by intro h; subst h; simp at hlt)
      have hcx := (hbl.cell (p := ⟨b, o + k, none⟩) hbs).trans (hc k hlt)
      have hs := wordsTo_succ xs k hlt
      generalize xs[k]?.getD 0 = x at hcx hs
      have HS := Lib.hid hs
      clear hc hs HB
      go_wp2_with (go_at_call 29; refine (steps_one _ _ _).mono ?_; rintro e w' ⟨rfl, rfl⟩)
      go_roundw
      case rel => exact ⟨k + 1, by omega, by go_num, congrArg (Value.int .u64) HS.out.symm, hbl.alloc hbl.size _⟩
      case measure => simp [intOf]; omega
    · clear HB
      go_wp2_with (go_at_call 29; refine (steps_one _ _ _).mono ?_; rintro e w' ⟨rfl, rfl⟩)
      go_ret
      have : k = xs.length := by omega
      subst this
      exact ⟨ret_int (wordsTo_all xs), hbl.alloc hbl.size _⟩

end Dg
end Go.Proofs.Ytgjmhddekggilaa
