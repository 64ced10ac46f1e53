/- What the greatest common divisor of two words returns. What quotients and remainders of 128 bits by a word return, and whether a number fits. -/
import Derived.Test.YtojkaaglmdfcnaaD1
namespace Go.Proofs.Ytojkaaglmdfcnaa
open Go.RowKit Go.Shelf
namespace Fr
set_option linter.unusedVariables false

/-- The divisor behind k numbers. -/
def gAt (x y : Nat) : Nat → Nat
  | 0 => 0
  | 1 => x
  | _ => Nat.gcd x y

theorem gAt_le (x y k : Nat) (hx : x < 18446744073709551616) (hy : y < 18446744073709551616) : gAt x y k < 18446744073709551616 := by
  match k with
  | 0 => simp [gAt]
  | 1 => simpa [gAt] using hx
  | k + 2 =>
    show Nat.gcd x y < _
    rcases Nat.eq_zero_or_pos x with h | h
    · subst h; simpa using hy
    · exact Nat.lt_of_le_of_lt (Nat.gcd_le_left y h) hx

/-- The number that round k reads. -/
def nAt (x y : Nat) : Nat → Nat
  | 0 => x
  | _ => y
theorem gAt_succ (x y k : Nat) (hk : k < 2) : gAt x y (k + 1) = Nat.gcd (gAt x y k) (nAt x y k) := by
  match k, hk with
  | 0, _ => simp [gAt, nAt]
  | 1, _ => rfl

set_option maxHeartbeats 400000 in
theorem gcd_two (b o c x y : Nat) (w : World) (hx : x < 18446744073709551616) (hy : y < 18446744073709551616) (h0 : w.cell? ⟨b, o, none⟩ = some (.int .u64 (x : Int))) (h1 : w.cell? ⟨b, o + 1, none⟩ = some (.int .u64 (y : Int))) :
    Calls Try.prog 73 #[.slice (some ⟨b, o, none⟩) 2 c] w fun e w' => e = .returned (.int .u64 ((max (Nat.gcd x y) 1 : Nat) : Int)) ∧ ∃ n, w' = w.drewN n := by
  have HX := Lib.hid h0
  have HY := Lib.hid h1
  clear h0 h1
  go_enter Try.func73, Try.ntmps73
  go_wp2
  go_loopw [3, 5, 8] (fun g _ i wr => ∃ k n : Nat, k ≤ 2 ∧ i = .int .i64 k ∧ g = .int .u64 (gAt x y k : Int) ∧ wr = w.drewN n) (fun _ _ i _ => 2 - (intOf i).toNat)
  case atStart => exact ⟨0, 0, by omega, rfl, rfl, rfl⟩
  case round =>
    obtain ⟨k, n, hk, rfl, rfl, rfl⟩ := hrel
    by_cases hlt : k < 2
    · have hc : w.cell? ⟨b, o + k, none⟩ = some (.int .u64 (nAt x y k : Int)) := by
        match k, hlt with
        | 0, _ => exact HX.out
        | 1, _ => exact HY.out
      have hn : nAt x y k < 18446744073709551616 := by
        match k, hlt with
        | 0, _ => exact hx
        | 1, _ => exact hy
      have hg := gAt_le x y k hx hy
      have HS := Lib.hid (gAt_succ x y k hlt)
      generalize gAt x y k = g at *
      generalize nAt x y k = m at *
      go_wp2
      go_loopw [3, 5] (fun u v wr => ∃ p q t : Nat, u = .int .u64 (p : Int) ∧ v = .int .u64 (q : Int) ∧ Nat.gcd p q = Nat.gcd g m ∧ p < 18446744073709551616 ∧ q < 18446744073709551616 ∧ wr = w.drewN t) (fun _ v _ => (intOf v).toNat)
      case atStart => exact ⟨g, m, n, rfl, rfl, rfl, hg, hn, rfl⟩
      case round =>
        obtain ⟨p, q, t, rfl, rfl, hpq, hp, hq, rfl⟩ := hrel
        have HG := Lib.hid hpq
        clear hpq
        by_cases hz : q = 0
        · subst hz
          have HE : Hid (p = gAt x y (k + 1)) := Lib.hid (by rw [HS.out, ← HG.out, Nat.gcd_zero_right])
          go_wp2
          go_roundw
          case rel => exact ⟨k + 1, t, by omega, by go_num, by rw [HE.out], rfl⟩
          case measure => simp [intOf]; omega
        · have hb : ((q : Int) == 0) = false := by simp; omega
          have hb' : ((q : Int) != 0) = true := by simp; omega
          have hm : IntKind.u64.wrap ((p : Int).tmod (q : Int)) = ((p % q : Nat) : Int) := by
            rw [IntWalk.rem_in _ _ (by omega), IntKind.wrap_u64, Int.natCast_emod]
            have := Nat.mod_lt p (by omega : 0 < q)
            omega
          have hm' : (p : Int).tmod (q : Int) = ((p % q : Nat) : Int) := by
            rw [IntWalk.rem_in _ _ (by omega), Int.natCast_emod]
          have hml := Nat.mod_lt p (by omega : 0 < q)
          have HM : Hid (Nat.gcd q (p % q) = Nat.gcd g m) := Lib.hid (by rw [← HG.out, Nat.gcd_comm p q, Nat.gcd_rec q p, Nat.gcd_comm])
          go_wp2
          go_quiet (fail)
          go_wp2
          go_roundw
          case rel => exact ⟨q, p % q, _, rfl, rfl, HM.out, hq, by omega, World.drewN_drewN _ _ _⟩
          case measure => simp [intOf]; omega
    · have hk2 : k = 2 := by omega
      subst hk2
      go_wp2
      go_ret
      exact ⟨ret_int (by show max ((Nat.gcd x y : Nat) : Int) 1 = _; omega), n, rfl⟩

end Fr
end Go.Proofs.Ytojkaaglmdfcnaa

namespace Go.Proofs.Ytojkaaglmdfcnaa
open Go.RowKit Go.Shelf
namespace Fr
set_option linter.unusedVariables false

theorem natAbs_in127 {x : Int} (h : In127 x) : In127 (x.natAbs : Int) := by unfold In127 at *; omega

theorem modulo_any (x : Int) (d : Int) (w : World) (h : In127 x) (hd0 : 0 < d) (hd1 : d < 18446744073709551616) :
    Calls Try.prog 78 #[.agg #[.int .u64 (hi x), .int .u64 (lo x)], .int .u64 d] w fun e w' => e = .returned (.int .u64 ((x.natAbs : Int) % d)) ∧ Below w.heap.size w w' := by
  have hi1 := hi_range x.natAbs
  have lo1 := lo_range x.natAbs
  have HM := Lib.hid (mod_split (s := x.natAbs) (d := d) (natAbs_in127 h) (by omega))
  go_enter Try.func78, Try.ntmps78
  go_wp2_with fail
  refine (wsize_any x _ h).mono ?_
  rintro e w1 ⟨rfl, hb⟩
  obtain ⟨hc, hf⟩ := bcell hb
  go_wp2_with fail
  refine (rem64_any _ _ d _ hi1.1 hi1.2 lo1.1 lo1.2 hd0 hd1).mono ?_
  rintro e w2 ⟨rfl, hb2⟩
  go_wp2
  go_ret
  refine ⟨ret_int HM.out, ?_⟩
  have hz := hb.size
  simp at hz
  exact ((((Below.refl _ w).alloc (Nat.le_refl _) _).trans (hb.mono (by simp))).alloc (by omega) _).trans (hb2.mono (by simp; omega))

/-- Whether a number can be a numerator. -/
def fitB (x : Int) : Bool := decide (x.natAbs ≤ 4611686018427387904)

theorem fits_any (x : Int) (w : World) (h : In127 x) :
    Calls Try.prog 98 #[.agg #[.int .u64 (hi x), .int .u64 (lo x)]] w fun e w' => e = .returned (.bool (fitB x)) ∧ Below w.heap.size w w' := by
  have hi1 := hi_range x.natAbs
  have lo1 := lo_range x.natAbs
  have hn := hi_nonneg (natAbs_in127 h) (by omega)
  have hl : lo (x.natAbs : Int) = (x.natAbs : Int) % 18446744073709551616 := rfl
  by_cases h0 : hi (x.natAbs : Int) = 0
  · have hb : (hi (x.natAbs : Int) == 0) = true := by simpa using h0
    have HF : Hid (decide (lo (x.natAbs : Int) ≤ 4611686018427387904) = fitB x) := Lib.hid (by unfold fitB; rw [decide_eq_decide]; omega)
    clear hn hl
    go_enter Try.func98, Try.ntmps98
    go_wp2_with fail
    refine (wsize_any x _ h).mono ?_
    rintro e w1 ⟨rfl, hb⟩
    go_wp2
    go_ret
    have hz := hb.size
    simp at hz
    exact ⟨ret_bool HF.out, (((Below.refl _ w).alloc (Nat.le_refl _) _).trans (hb.mono (by simp))).alloc (by omega) _⟩
  · have hb : (hi (x.natAbs : Int) == 0) = false := by simpa using h0
    have HF : Hid (false = fitB x) := Lib.hid (by unfold fitB; rw [eq_comm, decide_eq_false_iff_not]; omega)
    clear hn hl
    go_enter Try.func98, Try.ntmps98
    go_wp2_with fail
    refine (wsize_any x _ h).mono ?_
    rintro e w1 ⟨rfl, hb⟩
    go_wp2
    go_ret
    have hz := hb.size
    simp at hz
    exact ⟨ret_bool HF.out, (((Below.refl _ w).alloc (Nat.le_refl _) _).trans (hb.mono (by simp))).alloc (by omega) _⟩

end Fr
end Go.Proofs.Ytojkaaglmdfcnaa
