/- What quotients and remainders of 128 bits by a word return, and whether a number fits. -/
import Derived.Test.YtajpklacaaegcaaGreatDoorW3
namespace Go.Proofs.YtajpklacaaegcaaGreatDoor
open Go.RowKit Go.Shelf
namespace Fr
set_option linter.unusedVariables false

theorem natAbs_in127 {x : Int} (h : In127 x) : In127 (x.natAbs : Int) := by unfold In127 at *; omega

theorem modulo_any (x : Int) (d : Int) (w : World) (h : In127 x) (hd0 : 0 < d) (hd1 : d < 18446744073709551616) :
    Calls Tryz.prog 57 #[.agg #[.int .u64 (hi x), .int .u64 (lo x)], .int .u64 d] w fun e w' => e = .returned (.int .u64 ((x.natAbs : Int) % d)) ∧ Below w.heap.size w w' := by
  have hi1 := hi_range x.natAbs
  have lo1 := lo_range x.natAbs
  have HM := Lib.hid (mod_split (s := x.natAbs) (d := d) (natAbs_in127 h) (by omega))
  go_enter Tryz.func57, Tryz.ntmps57
  go_wp2_with fail
  refine (wsize_any x _ h).mono ?_
  rintro e w1 ⟨rfl, hb⟩
  obtain ⟨hc, hf⟩ := bcell hb
  go_wp2_with fail
  refine (rem64_any _ _ d _ hi1.1 hi1.2 lo1.1 lo1.2 hd0 hd1).mono ?_
  rintro e w2 ⟨rfl, hb2⟩
  go_wp2
  go_ret
  refine ⟨ret_int HM.out, ?_⟩
  have hz := hb.size
  simp at hz
  exact ((((Below.refl _ w).alloc (Nat.le_refl _) _).trans (hb.mono (by simp))).alloc (by omega) _).trans (hb2.mono (by simp; omega))

/-- Whether a number can be a numerator. -/
def fitB (x : Int) : Bool := decide (x.natAbs ≤ 4611686018427387904)

theorem fits_any (x : Int) (w : World) (h : In127 x) :
    Calls Tryz.prog 72 #[.agg #[.int .u64 (hi x), .int .u64 (lo x)]] w fun e w' => e = .returned (.bool (fitB x)) ∧ Below w.heap.size w w' := by
  have hi1 := hi_range x.natAbs
  have lo1 := lo_range x.natAbs
  have hn := hi_nonneg (natAbs_in127 h) (by omega)
  have hl : lo (x.natAbs : Int) = (x.natAbs : Int) % 18446744073709551616 := rfl
  by_cases h0 : hi (x.natAbs : Int) = 0
  · have hb : (hi (x.natAbs : Int) == 0) = true := by simpa using h0
    have HF : Hid (decide (lo (x.natAbs : Int) ≤ 4611686018427387904) = fitB x) := Lib.hid (by unfold fitB; rw [decide_eq_decide]; omega)
    clear hn hl
    go_enter Tryz.func72, Tryz.ntmps72
    go_wp2_with fail
    refine (wsize_any x _ h).mono ?_
    rintro e w1 ⟨rfl, hb⟩
    go_wp2
    go_ret
    have hz := hb.size
    simp at hz
    exact ⟨ret_bool HF.out, (((Below.refl _ w).alloc (Nat.le_refl _) _).trans (hb.mono (by simp))).alloc (by omega) _⟩
  · have hb : (hi (x.natAbs : Int) == 0) = false := by simpa using h0
    have HF : Hid (false = fitB x) := Lib.hid (by unfold fitB; rw [eq_comm, decide_eq_false_iff_not]; omega)
    clear hn hl
    go_enter Tryz.func72, Tryz.ntmps72
    go_wp2_with fail
    refine (wsize_any x _ h).mono ?_
    rintro e w1 ⟨rfl, hb⟩
    go_wp2
    go_ret
    have hz := hb.size
    simp at hz
    exact ⟨ret_bool HF.out, (((Below.refl _ w).alloc (Nat.le_refl _) _).trans (hb.mono (by simp))).alloc (by omega) _⟩

end Fr
end Go.Proofs.YtajpklacaaegcaaGreatDoor
