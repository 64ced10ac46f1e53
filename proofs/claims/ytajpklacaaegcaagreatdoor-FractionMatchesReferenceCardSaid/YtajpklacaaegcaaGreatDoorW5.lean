/- What quotients of 128 bits by a word return. -/
import Derived.Test.YtajpklacaaegcaaGreatDoorL0
namespace Go.Proofs.YtajpklacaaegcaaGreatDoor
open Go.RowKit Go.Shelf
namespace Fr
set_option linter.unusedVariables false

/-- The quotient, rounded towards 0. -/
def ov (x d : Int) : Int := x.tdiv d

theorem over_any (x : Int) (d : Int) (w : World) (h : In127 x) (hd0 : 0 < d) (hd1 : d < 18446744073709551616) :
    Calls Tryz.prog 56 #[.agg #[.int .u64 (hi x), .int .u64 (lo x)], .int .u64 d] w fun e w' => e = .returned (.agg #[.int .u64 (hi (ov x d)), .int .u64 (lo (ov x d))]) ∧ Below w.heap.size w w' := by
  have hi1 := hi_range x.natAbs
  have lo1 := lo_range x.natAbs
  have hb1 : (d == 0) = false := by simp; omega
  have hm0 := Int.emod_nonneg (hi (x.natAbs : Int)) (b := d) (by omega)
  have hm1 := Int.emod_lt_of_pos (hi (x.natAbs : Int)) hd0
  have HL := Lib.hid (lo_div (s := x.natAbs) (d := d) (natAbs_in127 h) (by omega) hd0)
  have HH := Lib.hid (hi_div (s := x.natAbs) (d := d) (natAbs_in127 h) (by omega) hd0)
  have e2 : (hi (x.natAbs : Int)).tmod d = hi (x.natAbs : Int) % d := IntWalk.rem_in _ _ hi1.1
  have e3 : IntKind.u64.wrap ((hi (x.natAbs : Int)).tdiv d) = hi (x.natAbs : Int) / d := IntWalk.u64_quo _ _ (by omega)
  have div := fun (W : World) => div64_any (hi (x.natAbs : Int) % d) (lo (x.natAbs : Int)) d W lo1.1 lo1.2 hm0 hm1 hd1
  rw [HL.out] at div
  have HD := Lib.hid div
  clear div
  have HT : Hid (ov x d = if x < 0 then -((x.natAbs : Int) / d) else (x.natAbs : Int) / d) := Lib.hid (by
    unfold ov
    by_cases h0 : x < 0
    · rw [if_pos h0, show x = -(x.natAbs : Int) by omega, Int.neg_tdiv, Int.tdiv_eq_ediv_of_nonneg (by omega)]
      simp
    · rw [if_neg h0, Int.tdiv_eq_ediv_of_nonneg (by omega), show (x.natAbs : Int) = x by omega])
  go_enter Tryz.func56, Tryz.ntmps56
  go_wp2_with fail
  refine (wsize_any x _ h).mono ?_
  rintro e w1 ⟨rfl, hb⟩
  have x0 := ((Box2.new w (.int .u64 (hi x)) (.int .u64 (lo x)) 58).alloc (.cells #[.int .u64 0, .int .u64 0] 58)).keep hb
  have r0 := (Box2.newAt (W := w.alloc (.cells #[.int .u64 (hi x), .int .u64 (lo x)] 58)) (B := w.heap.size + 1) (by simp) (.int .u64 0) (.int .u64 0) 58).keep hb
  have B1 := (((Below.refl _ w).alloc (Nat.le_refl _) (.cells #[.int .u64 (hi x), .int .u64 (lo x)] 58)).alloc (by simp) (.cells #[.int .u64 0, .int .u64 0] 58)).trans (hb.mono (by simp; omega))
  clear hb
  go_wp2_with fail
  have s1 := Box2.new w1 (.int .u64 (hi (x.natAbs : Int))) (.int .u64 (lo (x.natAbs : Int))) 58
  obtain ⟨k0, k1⟩ := s1.later
  have x1 := x0.alloc (.cells #[.int .u64 (hi (x.natAbs : Int)), .int .u64 (lo (x.natAbs : Int))] 58)
  have r1 := r0.alloc (.cells #[.int .u64 (hi (x.natAbs : Int)), .int .u64 (lo (x.natAbs : Int))] 58)
  have B2 := B1.alloc B1.size (.cells #[.int .u64 (hi (x.natAbs : Int)), .int .u64 (lo (x.natAbs : Int))] 58)
  clear x0 r0 s1 B1
  refine wp_region_later (by kernel_rfl) (by kernel_rfl) ?_
  repeat (go_big_quiet_step ((first | (go_at_call 70; exact later_of (HD.out _)))))
  refine wpQuiet_nil ?_
  intro _ hw'
  obtain ⟨q, hw''⟩ := hw'
  subst hw''
  have B3 := B2.trans (q.below.mono B2.size)
  have x2 := (x1.keep q.below).alloc (.cells #[.int .u64 (hi (x.natAbs : Int) / d), .int .u64 (lo ((x.natAbs : Int) / d))] 58)
  have r2 := (r1.keep q.below).alloc (.cells #[.int .u64 (hi (x.natAbs : Int) / d), .int .u64 (lo ((x.natAbs : Int) / d))] 58)
  have q2 := Box2.new q.val (.int .u64 (hi (x.natAbs : Int) / d)) (.int .u64 (lo ((x.natAbs : Int) / d))) 58
  have B4 := B3.alloc B3.size (.cells #[.int .u64 (hi (x.natAbs : Int) / d), .int .u64 (lo ((x.natAbs : Int) / d))] 58)
  have k2 := x2.c0
  have k3 := x2.c1
  clear B2 x1 r1 B3
  go_wp2_with fail
  clear k2 k3 k0 k1
  have hneg := negative_any x (q.val.alloc (.cells #[.int .u64 (hi (x.natAbs : Int) / d), .int .u64 (lo ((x.natAbs : Int) / d))] 58)) h
  by_cases h0 : x < 0
  · rw [decide_eq_true h0] at hneg
    refine hneg.mono ?_
    rintro e w5 ⟨rfl, hb5⟩
    clear hneg
    have r3 := r2.keep hb5
    have q3 := q2.keep hb5
    have B5 := B4.trans (hb5.mono B4.size)
    have c0 := q3.c0
    have c1 := q3.c1
    clear r2 q2 x2 B4 hb5
    go_wp2_with fail
    rw [HH.out]
    refine (negated_any ((x.natAbs : Int) / d) _).mono ?_
    rintro e w6 ⟨rfl, hb6⟩
    have r4 := r3.keep hb6
    have d0 := r4.c0
    have d1 := r4.c1
    have f0 := r4.f0
    have f1 := r4.f1
    have B6 := B5.trans (hb6.mono B5.size)
    clear c0 c1 r3 q3 B5 hb6
    go_wp2
    rw [HT.out, if_pos h0]
    refine bodyPost_ret (v := .agg #[.int .u64 (hi (-((x.natAbs : Int) / d))), .int .u64 (lo (-((x.natAbs : Int) / d)))]) (by simp [results, Tryz.results56, go_sem, d0, d1]) rfl ⟨rfl, below_set2 B6 (by omega) _ _⟩
  · rw [decide_eq_false h0] at hneg
    refine hneg.mono ?_
    rintro e w5 ⟨rfl, hb5⟩
    clear hneg
    have r3 := r2.keep hb5
    have q3 := q2.keep hb5
    have B5 := B4.trans (hb5.mono B4.size)
    have c0 := q3.c0
    have c1 := q3.c1
    have d0 := r3.c0
    have d1 := r3.c1
    have f0 := r3.f0
    have f1 := r3.f1
    clear r2 q2 x2 B4 hb5
    go_wp2
    rw [HT.out, if_neg (by omega), ← HH.out]
    refine bodyPost_ret (v := .agg #[.int .u64 (hi (x.natAbs : Int) / d), .int .u64 (lo ((x.natAbs : Int) / d))]) (by simp [results, Tryz.results56, go_sem, d0, d1]) rfl ⟨rfl, below_set2 B5 (by omega) _ _⟩

end Fr
end Go.Proofs.YtajpklacaaegcaaGreatDoor
