/- What the small functions return that make fractions, intervals, functions and boxes. -/
import Derived.Test.YtojkaaglmdfcnaaN4
import Derived.Test.YtojkaaglmdfcnaaS1
namespace Go.Proofs.Ytojkaaglmdfcnaa
open Go.RowKit Go.Shelf
namespace Fr
set_option linter.unusedVariables false


theorem hull {i j : IQ} {a0 a1 a2 a3 b0 b1 b2 b3 r0 r1 r2 r3 : Int} (hi : IsI i a0 a1 a2 a3) (hj : IsI j b0 b1 b2 b3) (hr : IsI (i.hull j) r0 r1 r2 r3) : Does 32 #[.agg #[.int .i64 a0, .int .i64 a1, .int .i64 a2, .int .i64 a3], .agg #[.int .i64 b0, .int .i64 b1, .int .i64 b2, .int .i64 b3]] (.agg #[.int .i64 r0, .int .i64 r1, .int .i64 r2, .int .i64 r3]) := by
  intro w
  have H1 := fmin hi.lo hj.lo hr.lo
  have H2 := fmax hi.hi hj.hi hr.hi
  clear hi hj hr
  go_enter Try.func32, Try.ntmps32
  go_upto_region 1 with fail
  have hst := start3 w (#[.int .i64 a0, .int .i64 a1, .int .i64 a2, .int .i64 a3]) (#[.int .i64 b0, .int .i64 b1, .int .i64 b2, .int .i64 b3]) (#[.int .i64 0, .int .i64 0, .int .i64 0, .int .i64 0]) 27 27 27
  generalize (((w.alloc (.cells #[.int .i64 a0, .int .i64 a1, .int .i64 a2, .int .i64 a3] 27)).alloc (.cells #[.int .i64 b0, .int .i64 b1, .int .i64 b2, .int .i64 b3] 27)).alloc (.cells #[.int .i64 0, .int .i64 0, .int .i64 0, .int .i64 0] 27)) = W0 at *
  obtain ⟨m0, m1, m2, B0⟩ := hst
  obtain ⟨c0_0, c0_1, c0_2, c0_3⟩ := m0.l4 (Below.refl _ _)
  obtain ⟨c1_0, c1_1, c1_2, c1_3⟩ := m1.l4 (Below.refl _ _)
  refine wp_region_later_tail 11 (by kernel_rfl) (by kernel_rfl) ?_
  simp only [List.take_succ_cons, List.take_zero, List.drop_succ_cons, List.drop_zero]
  repeat (go_big_quiet_step (((first | (go_at_call 67; with_reducible exact later_of (H1.at _)) | (go_at_call 68; with_reducible exact later_of (H2.at _))))))
  refine wpQuiet_nil ?_
  intro _ hw'
  obtain ⟨z, hw''⟩ := hw'
  subst hw''
  have hR0 := m2.keep z.below
  have B1 := B0.trans (z.below.mono B0.size)
  clear c0_0 c0_1 c0_2 c0_3 m0
  clear c1_0 c1_1 c1_2 c1_3 m1
  clear m2 B0
  obtain ⟨rc0, rc1, rc2, rc3⟩ := hR0.c4
  obtain ⟨rf0, rf1, rf2, rf3⟩ := hR0.f4
  go_wp2_with fail
  have hR1 := hR0.s4 (.int .i64 r0) (.int .i64 r1) (.int .i64 r2) (.int .i64 r3)
  obtain ⟨s0, s1, s2, s3⟩ := hR1.c4
  exact bodyPost_ret (v := .agg #[.int .i64 r0, .int .i64 r1, .int .i64 r2, .int .i64 r3]) (by simp [results, Try.results32, go_sem, s0, s1, s2, s3]) rfl ⟨rfl, below_s4 B1 (by omega) _ _ _ _⟩

theorem rhull {i j : IQ} {a0 a1 a2 a3 b0 b1 b2 b3 r0 r1 r2 r3 : Int} (hi : IsI i a0 a1 a2 a3) (hj : IsI j b0 b1 b2 b3) (hr : IsI (i.hull j) r0 r1 r2 r3) : Does 33 #[.agg #[.int .i64 a0, .int .i64 a1, .int .i64 a2, .int .i64 a3], .agg #[.int .i64 b0, .int .i64 b1, .int .i64 b2, .int .i64 b3]] (.agg #[.int .i64 r0, .int .i64 r1, .int .i64 r2, .int .i64 r3]) := by
  intro w
  have H1 := frmin hi.lo hj.lo hr.lo
  have H2 := frmax hi.hi hj.hi hr.hi
  clear hi hj hr
  go_enter Try.func33, Try.ntmps33
  go_upto_region 1 with fail
  have hst := start3 w (#[.int .i64 a0, .int .i64 a1, .int .i64 a2, .int .i64 a3]) (#[.int .i64 b0, .int .i64 b1, .int .i64 b2, .int .i64 b3]) (#[.int .i64 0, .int .i64 0, .int .i64 0, .int .i64 0]) 27 27 27
  generalize (((w.alloc (.cells #[.int .i64 a0, .int .i64 a1, .int .i64 a2, .int .i64 a3] 27)).alloc (.cells #[.int .i64 b0, .int .i64 b1, .int .i64 b2, .int .i64 b3] 27)).alloc (.cells #[.int .i64 0, .int .i64 0, .int .i64 0, .int .i64 0] 27)) = W0 at *
  obtain ⟨m0, m1, m2, B0⟩ := hst
  obtain ⟨c0_0, c0_1, c0_2, c0_3⟩ := m0.l4 (Below.refl _ _)
  obtain ⟨c1_0, c1_1, c1_2, c1_3⟩ := m1.l4 (Below.refl _ _)
  refine wp_region_later_tail 11 (by kernel_rfl) (by kernel_rfl) ?_
  simp only [List.take_succ_cons, List.take_zero, List.drop_succ_cons, List.drop_zero]
  repeat (go_big_quiet_step (((first | (go_at_call 54; with_reducible exact later_of (H1.at _)) | (go_at_call 55; with_reducible exact later_of (H2.at _))))))
  refine wpQuiet_nil ?_
  intro _ hw'
  obtain ⟨z, hw''⟩ := hw'
  subst hw''
  have hR0 := m2.keep z.below
  have B1 := B0.trans (z.below.mono B0.size)
  clear c0_0 c0_1 c0_2 c0_3 m0
  clear c1_0 c1_1 c1_2 c1_3 m1
  clear m2 B0
  obtain ⟨rc0, rc1, rc2, rc3⟩ := hR0.c4
  obtain ⟨rf0, rf1, rf2, rf3⟩ := hR0.f4
  go_wp2_with fail
  have hR1 := hR0.s4 (.int .i64 r0) (.int .i64 r1) (.int .i64 r2) (.int .i64 r3)
  obtain ⟨s0, s1, s2, s3⟩ := hR1.c4
  exact bodyPost_ret (v := .agg #[.int .i64 r0, .int .i64 r1, .int .i64 r2, .int .i64 r3]) (by simp [results, Try.results33, go_sem, s0, s1, s2, s3]) rfl ⟨rfl, below_s4 B1 (by omega) _ _ _ _⟩

theorem uniform_ (n d : Int) : Does 56 #[.agg #[.int .i64 n, .int .i64 d]] (.agg #[.int .i64 n, .int .i64 d, .int .i64 n, .int .i64 d, .int .i64 n, .int .i64 d, .int .i64 n, .int .i64 d]) := by
  intro w
  go_enter Try.func56, Try.ntmps56
  go_upto_region 1 with fail
  have hst := start2 w (#[.int .i64 n, .int .i64 d]) (#[.int .i64 0, .int .i64 0, .int .i64 0, .int .i64 0, .int .i64 0, .int .i64 0, .int .i64 0, .int .i64 0]) 23 25
  generalize ((w.alloc (.cells #[.int .i64 n, .int .i64 d] 23)).alloc (.cells #[.int .i64 0, .int .i64 0, .int .i64 0, .int .i64 0, .int .i64 0, .int .i64 0, .int .i64 0, .int .i64 0] 25)) = W0 at *
  obtain ⟨m0, m1, B0⟩ := hst
  obtain ⟨c0_0, c0_1⟩ := m0.l2 (Below.refl _ _)
  refine wp_region_plain_tail 5 ?_
  simp only [List.take_succ_cons, List.take_zero, List.drop_succ_cons, List.drop_zero]
  repeat (go_big_quiet_step (fail))
  refine wpQuiet_nil ?_
  intro _ hw'
  obtain ⟨z, hw''⟩ := hw'
  subst hw''
  have hR0 := m1.keep z.below
  have B1 := B0.trans (z.below.mono B0.size)
  clear c0_0 c0_1 m0
  clear m1 B0
  obtain ⟨rc0, rc1, rc2, rc3, rc4, rc5, rc6, rc7⟩ := hR0.c8
  obtain ⟨rf0, rf1, rf2, rf3, rf4, rf5, rf6, rf7⟩ := hR0.f8
  go_wp2_with fail
  have hR1 := hR0.s8 (.int .i64 n) (.int .i64 d) (.int .i64 n) (.int .i64 d) (.int .i64 n) (.int .i64 d) (.int .i64 n) (.int .i64 d)
  obtain ⟨s0, s1, s2, s3, s4, s5, s6, s7⟩ := hR1.c8
  exact bodyPost_ret (v := .agg #[.int .i64 n, .int .i64 d, .int .i64 n, .int .i64 d, .int .i64 n, .int .i64 d, .int .i64 n, .int .i64 d]) (by simp [results, Try.results56, go_sem, s0, s1, s2, s3, s4, s5, s6, s7]) rfl ⟨rfl, below_s8 B1 (by omega) _ _ _ _ _ _ _ _⟩

theorem whole_ (n : Int) : Does 44 #[.int .i64 n] (.agg #[.int .i64 n, .int .i64 1]) := by
  intro w
  go_enter Try.func44, Try.ntmps44
  go_wp2_with fail
  exact bodyPost_ret (v := .agg #[.int .i64 n, .int .i64 1]) (by simp [results, Try.results44, go_sem]) rfl ⟨rfl, (Below.refl _ w).alloc (Nat.le_refl _) _⟩

theorem span_ (n m : Int) : Does 48 #[.int .i64 n, .int .i64 m] (.agg #[.int .i64 n, .int .i64 1, .int .i64 m, .int .i64 1]) := by
  intro w
  have H1 := whole_ n
  have H2 := whole_ m
  go_enter Try.func48, Try.ntmps48
  go_upto_region 1 with fail
  have hst := start1 w (#[.int .i64 0, .int .i64 0, .int .i64 0, .int .i64 0]) 27
  generalize (w.alloc (.cells #[.int .i64 0, .int .i64 0, .int .i64 0, .int .i64 0] 27)) = W0 at *
  obtain ⟨m0, B0⟩ := hst
  refine wp_region_plain_tail 5 ?_
  simp only [List.take_succ_cons, List.take_zero, List.drop_succ_cons, List.drop_zero]
  repeat (go_big_quiet_step (((go_at_call 44; first | with_reducible exact later_of (H1.at _) | with_reducible exact later_of (H2.at _)))))
  refine wpQuiet_nil ?_
  intro _ hw'
  obtain ⟨z, hw''⟩ := hw'
  subst hw''
  have hR0 := m0.keep z.below
  have B1 := B0.trans (z.below.mono B0.size)
  clear m0 B0
  obtain ⟨rc0, rc1, rc2, rc3⟩ := hR0.c4
  obtain ⟨rf0, rf1, rf2, rf3⟩ := hR0.f4
  go_wp2_with fail
  have hR1 := hR0.s4 (.int .i64 n) (.int .i64 1) (.int .i64 m) (.int .i64 1)
  obtain ⟨s0, s1, s2, s3⟩ := hR1.c4
  exact bodyPost_ret (v := .agg #[.int .i64 n, .int .i64 1, .int .i64 m, .int .i64 1]) (by simp [results, Try.results48, go_sem, s0, s1, s2, s3]) rfl ⟨rfl, below_s4 B1 (by omega) _ _ _ _⟩

theorem choose_false (x0 x1 x2 x3 : Int) : Does 107 #[.agg #[.int .i64 x0, .int .i64 x1, .int .i64 x2, .int .i64 x3], .bool false] (.agg #[.int .i64 x0, .int .i64 x1]) := by
  intro w
  go_enter Try.func107, Try.ntmps107
  go_upto_region 1 with fail
  have hst := start2 w (#[.int .i64 x0, .int .i64 x1, .int .i64 x2, .int .i64 x3]) (#[.int .i64 0, .int .i64 0]) 135 23
  generalize ((w.alloc (.cells #[.int .i64 x0, .int .i64 x1, .int .i64 x2, .int .i64 x3] 135)).alloc (.cells #[.int .i64 0, .int .i64 0] 23)) = W0 at *
  obtain ⟨m0, m1, B0⟩ := hst
  obtain ⟨c0, c1, c2, c3⟩ := m0.c4
  obtain ⟨rc0, rc1⟩ := m1.c2
  obtain ⟨rf0, rf1⟩ := m1.f2
  go_wp2_with fail
  have hR1 := m1.s2 (.int .i64 x0) (.int .i64 x1)
  obtain ⟨s0, s1⟩ := hR1.c2
  exact bodyPost_ret (v := .agg #[.int .i64 x0, .int .i64 x1]) (by simp [results, Try.results107, go_sem, s0, s1]) rfl ⟨rfl, below_s2 B0 (by omega) _ _⟩

theorem choose_true (x0 x1 x2 x3 : Int) : Does 107 #[.agg #[.int .i64 x0, .int .i64 x1, .int .i64 x2, .int .i64 x3], .bool true] (.agg #[.int .i64 x2, .int .i64 x3]) := by
  intro w
  go_enter Try.func107, Try.ntmps107
  go_upto_region 1 with fail
  have hst := start2 w (#[.int .i64 x0, .int .i64 x1, .int .i64 x2, .int .i64 x3]) (#[.int .i64 0, .int .i64 0]) 135 23
  generalize ((w.alloc (.cells #[.int .i64 x0, .int .i64 x1, .int .i64 x2, .int .i64 x3] 135)).alloc (.cells #[.int .i64 0, .int .i64 0] 23)) = W0 at *
  obtain ⟨m0, m1, B0⟩ := hst
  obtain ⟨c0, c1, c2, c3⟩ := m0.c4
  obtain ⟨rc0, rc1⟩ := m1.c2
  obtain ⟨rf0, rf1⟩ := m1.f2
  go_wp2_with fail
  have hR1 := m1.s2 (.int .i64 x2) (.int .i64 x3)
  obtain ⟨s0, s1⟩ := hR1.c2
  exact bodyPost_ret (v := .agg #[.int .i64 x2, .int .i64 x3]) (by simp [results, Try.results107, go_sem, s0, s1]) rfl ⟨rfl, below_s2 B0 (by omega) _ _⟩

/-- The small fraction of two bytes. -/
def qf (a b : Int) : Rat := Rat.divInt (a % 41 - 20) (1 + b % 6)
theorem gr_qf (a b : Int) : Gr 60 1200 (qf a b) := gr_frac (m := 20) (by omega) (by omega) (by omega)
theorem Gr.isF {D M : Nat} {q : Rat} (h : Gr D M q) (h0 : 0 < D) (h1 : D ≤ 4611686018427387904) (h2 : M ≤ 4611686018427387904) : ∃ n d, IsF q n d := isF_of q (h.fit h0 h1 h2)

theorem frac_ {a b x y : Int} (ha : 0 ≤ a ∧ a ≤ 255) (hb : 0 ≤ b ∧ b ≤ 255) (h : IsF (qf a b) x y) : Does 52 #[.int .i64 a, .int .i64 b] (.agg #[.int .i64 x, .int .i64 y]) := by
  intro w
  have H := fmade (n := a % 41 - 20) (d := 1 + b % 6) (by unfold I64; omega) (by unfold I64; omega) (by omega) h
  obtain ⟨ha0, ha1⟩ := ha
  obtain ⟨hb0, hb1⟩ := hb
  clear h
  go_enter Try.func52, Try.ntmps52
  go_wp2_with fail
  have hR0 := (start1 w #[.int .i64 0, .int .i64 0] 23).1
  have B0 := (start1 w #[.int .i64 0, .int .i64 0] 23).2
  refine (H.at _).mono ?_
  rintro o w1 ⟨rfl, hb⟩
  have hR2 := hR0.keep hb
  have B1 := B0.trans (hb.mono B0.size)
  clear hR0 B0 hb H
  obtain ⟨rc0, rc1⟩ := hR2.c2
  obtain ⟨rf0, rf1⟩ := hR2.f2
  go_wp2_with fail
  have hR1 := hR2.s2 (.int .i64 x) (.int .i64 y)
  obtain ⟨s0, s1⟩ := hR1.c2
  exact bodyPost_ret (v := .agg #[.int .i64 x, .int .i64 y]) (by simp [results, Try.results52, go_sem, s0, s1]) rfl ⟨rfl, below_s2 B1 (by omega) _ _⟩

end Fr
end Go.Proofs.Ytojkaaglmdfcnaa
