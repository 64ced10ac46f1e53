/- The law's own small functions; the reference's makers of functions, intervals and boxes. Points of boxes. -/
import Derived.Test.YtojkaaglmdfcnaaN9
import Derived.Test.YtojkaaglmdfcnaaS1
namespace Go.Proofs.Ytojkaaglmdfcnaa
open Go.RowKit Go.Shelf
namespace Fr
set_option linter.unusedVariables false
set_option linter.unusedSimpArgs false


set_option maxRecDepth 100000 in
set_option maxHeartbeats 2000000 in
theorem lat {l : LQ} {p : PQ} {a0 a1 a2 a3 a4 a5 a6 a7 p0 p1 p2 p3 p4 p5 x y e : Int} (hl : IsL l a0 a1 a2 a3 a4 a5 a6 a7) (hp : IsP p p0 p1 p2 p3 p4 p5) (hr : ResF (l.at p) x y e) : Does 22 #[.agg #[.int .i64 a0, .int .i64 a1, .int .i64 a2, .int .i64 a3, .int .i64 a4, .int .i64 a5, .int .i64 a6, .int .i64 a7], .agg #[.int .i64 p0, .int .i64 p1, .int .i64 p2, .int .i64 p3, .int .i64 p4, .int .i64 p5]] (.agg #[.int .i64 x, .int .i64 y, .int .i64 e]) := by
  intro w
  have H := at_ hl hp hr
  clear hl hp hr
  go_enter Try.func22, Try.ntmps22
  go_upto_region 1 with fail
  have hst := start3 w (#[.int .i64 a0, .int .i64 a1, .int .i64 a2, .int .i64 a3, .int .i64 a4, .int .i64 a5, .int .i64 a6, .int .i64 a7]) (#[.int .i64 p0, .int .i64 p1, .int .i64 p2, .int .i64 p3, .int .i64 p4, .int .i64 p5]) (#[.int .i64 0, .int .i64 0, .int .i64 0]) 25 31 51
  generalize (((w.alloc (.cells #[.int .i64 a0, .int .i64 a1, .int .i64 a2, .int .i64 a3, .int .i64 a4, .int .i64 a5, .int .i64 a6, .int .i64 a7] 25)).alloc (.cells #[.int .i64 p0, .int .i64 p1, .int .i64 p2, .int .i64 p3, .int .i64 p4, .int .i64 p5] 31)).alloc (.cells #[.int .i64 0, .int .i64 0, .int .i64 0] 51)) = W5 at *
  obtain ⟨m1, m2, m3, B4⟩ := hst
  have lt6 := m1.lt
  have lt7 := m2.lt
  have lt8 := m3.lt
  obtain ⟨c_l0, c_l1, c_l2, c_l3, c_l4, c_l5, c_l6, c_l7⟩ := m1.c8
  obtain ⟨c_p0, c_p1, c_p2, c_p3, c_p4, c_p5⟩ := m2.c6
  go_wp2_with fail
  refine (H.at _).mono ?_
  rintro o W9 ⟨rfl, hb10⟩
  clear c_l0 c_l1 c_l2 c_l3 c_l4 c_l5 c_l6 c_l7
  clear c_p0 c_p1 c_p2 c_p3 c_p4 c_p5
  have m11 := m1.keep hb10
  have m12 := m2.keep hb10
  have m13 := m3.keep hb10
  have B14 := B4.trans (hb10.mono B4.size)
  have sz15 := hb10.size
  clear m1 m2 m3 B4 hb10
  go_upto_region 2 with fail
  have m16 := BoxL.new W9 #[.int .i64 x, .int .i64 y] 23
  have hb17 := (Below.refl W9.heap.size W9).alloc (Nat.le_refl _) (.cells #[.int .i64 x, .int .i64 y] 23)
  have lt19 := m11.lt
  have lt20 := m12.lt
  have lt21 := m13.lt
  have m22 := m11.keep hb17
  have m23 := m12.keep hb17
  have m24 := m13.keep hb17
  have B25 := B14.trans (hb17.mono B14.size)
  have sz26 := hb17.size
  clear m11 m12 m13 B14 hb17
  generalize W9.alloc (.cells #[.int .i64 x, .int .i64 y] 23) = W18 at *
  have lt27 := m16.lt
  obtain ⟨c_f0, c_f1⟩ := m16.c2
  obtain ⟨c_r0, c_r1, c_r2⟩ := m24.c3
  obtain ⟨f_r0, f_r1, f_r2⟩ := m24.f3
  go_wp2_with fail
  have hR28 := m24.s3 (.int .i64 x) (.int .i64 y) (.int .i64 e)
  obtain ⟨s0, s1, s2⟩ := hR28.c3
  exact bodyPost_ret (v := .agg #[.int .i64 x, .int .i64 y, .int .i64 e]) (by simp [results, Try.results22, go_sem, s0, s1, s2]) rfl ⟨rfl, below_s3 B25 (by omega) _ _ _⟩

set_option maxRecDepth 100000 in
set_option maxHeartbeats 2000000 in
theorem lranged {l : LQ} {b : BQ} {a0 a1 a2 a3 a4 a5 a6 a7 b0 b1 b2 b3 b4 b5 b6 b7 b8 b9 b10 b11 r0 r1 r2 r3 e : Int} (hl : IsL l a0 a1 a2 a3 a4 a5 a6 a7) (hb : IsBx b b0 b1 b2 b3 b4 b5 b6 b7 b8 b9 b10 b11) (hr : ResI (l.range b) r0 r1 r2 r3 e) : Does 24 #[.agg #[.int .i64 a0, .int .i64 a1, .int .i64 a2, .int .i64 a3, .int .i64 a4, .int .i64 a5, .int .i64 a6, .int .i64 a7], .agg #[.int .i64 b0, .int .i64 b1, .int .i64 b2, .int .i64 b3, .int .i64 b4, .int .i64 b5, .int .i64 b6, .int .i64 b7, .int .i64 b8, .int .i64 b9, .int .i64 b10, .int .i64 b11]] (.agg #[.int .i64 r0, .int .i64 r1, .int .i64 r2, .int .i64 r3, .int .i64 e]) := by
  intro w
  have H := range_ hl hb hr
  clear hl hb hr
  go_enter Try.func24, Try.ntmps24
  go_upto_region 1 with fail
  have hst := start3 w (#[.int .i64 a0, .int .i64 a1, .int .i64 a2, .int .i64 a3, .int .i64 a4, .int .i64 a5, .int .i64 a6, .int .i64 a7]) (#[.int .i64 b0, .int .i64 b1, .int .i64 b2, .int .i64 b3, .int .i64 b4, .int .i64 b5, .int .i64 b6, .int .i64 b7, .int .i64 b8, .int .i64 b9, .int .i64 b10, .int .i64 b11]) (#[.int .i64 0, .int .i64 0, .int .i64 0, .int .i64 0, .int .i64 0]) 25 29 54
  generalize (((w.alloc (.cells #[.int .i64 a0, .int .i64 a1, .int .i64 a2, .int .i64 a3, .int .i64 a4, .int .i64 a5, .int .i64 a6, .int .i64 a7] 25)).alloc (.cells #[.int .i64 b0, .int .i64 b1, .int .i64 b2, .int .i64 b3, .int .i64 b4, .int .i64 b5, .int .i64 b6, .int .i64 b7, .int .i64 b8, .int .i64 b9, .int .i64 b10, .int .i64 b11] 29)).alloc (.cells #[.int .i64 0, .int .i64 0, .int .i64 0, .int .i64 0, .int .i64 0] 54)) = W5 at *
  obtain ⟨m1, m2, m3, B4⟩ := hst
  have lt6 := m1.lt
  have lt7 := m2.lt
  have lt8 := m3.lt
  obtain ⟨c_l0, c_l1, c_l2, c_l3, c_l4, c_l5, c_l6, c_l7⟩ := m1.c8
  obtain ⟨c_b0, c_b1, c_b2, c_b3, c_b4, c_b5, c_b6, c_b7, c_b8, c_b9, c_b10, c_b11⟩ := m2.c12
  go_wp2_with fail
  refine (H.at _).mono ?_
  rintro o W9 ⟨rfl, hb10⟩
  clear c_l0 c_l1 c_l2 c_l3 c_l4 c_l5 c_l6 c_l7
  clear c_b0 c_b1 c_b2 c_b3 c_b4 c_b5 c_b6 c_b7 c_b8 c_b9 c_b10 c_b11
  have m11 := m1.keep hb10
  have m12 := m2.keep hb10
  have m13 := m3.keep hb10
  have B14 := B4.trans (hb10.mono B4.size)
  have sz15 := hb10.size
  clear m1 m2 m3 B4 hb10
  go_upto_region 2 with fail
  have m16 := BoxL.new W9 #[.int .i64 r0, .int .i64 r1, .int .i64 r2, .int .i64 r3] 27
  have hb17 := (Below.refl W9.heap.size W9).alloc (Nat.le_refl _) (.cells #[.int .i64 r0, .int .i64 r1, .int .i64 r2, .int .i64 r3] 27)
  have lt19 := m11.lt
  have lt20 := m12.lt
  have lt21 := m13.lt
  have m22 := m11.keep hb17
  have m23 := m12.keep hb17
  have m24 := m13.keep hb17
  have B25 := B14.trans (hb17.mono B14.size)
  have sz26 := hb17.size
  clear m11 m12 m13 B14 hb17
  generalize W9.alloc (.cells #[.int .i64 r0, .int .i64 r1, .int .i64 r2, .int .i64 r3] 27) = W18 at *
  have lt27 := m16.lt
  obtain ⟨c_i0, c_i1, c_i2, c_i3⟩ := m16.c4
  obtain ⟨c_r0, c_r1, c_r2, c_r3, c_r4⟩ := m24.c5
  obtain ⟨f_r0, f_r1, f_r2, f_r3, f_r4⟩ := m24.f5
  go_wp2_with fail
  have hR28 := m24.s5 (.int .i64 r0) (.int .i64 r1) (.int .i64 r2) (.int .i64 r3) (.int .i64 e)
  obtain ⟨s0, s1, s2, s3, s4⟩ := hR28.c5
  exact bodyPost_ret (v := .agg #[.int .i64 r0, .int .i64 r1, .int .i64 r2, .int .i64 r3, .int .i64 e]) (by simp [results, Try.results24, go_sem, s0, s1, s2, s3, s4]) rfl ⟨rfl, below_s5 B25 (by omega) _ _ _ _ _⟩

set_option maxRecDepth 100000 in
set_option maxHeartbeats 2000000 in
theorem ladded {l m : LQ} {a0 a1 a2 a3 a4 a5 a6 a7 b0 b1 b2 b3 b4 b5 b6 b7 r0 r1 r2 r3 r4 r5 r6 r7 e : Int} (hl : IsL l a0 a1 a2 a3 a4 a5 a6 a7) (hm : IsL m b0 b1 b2 b3 b4 b5 b6 b7) (hr : ResL (l.add m) r0 r1 r2 r3 r4 r5 r6 r7 e) : Does 26 #[.agg #[.int .i64 a0, .int .i64 a1, .int .i64 a2, .int .i64 a3, .int .i64 a4, .int .i64 a5, .int .i64 a6, .int .i64 a7], .agg #[.int .i64 b0, .int .i64 b1, .int .i64 b2, .int .i64 b3, .int .i64 b4, .int .i64 b5, .int .i64 b6, .int .i64 b7]] (.agg #[.int .i64 r0, .int .i64 r1, .int .i64 r2, .int .i64 r3, .int .i64 r4, .int .i64 r5, .int .i64 r6, .int .i64 r7, .int .i64 e]) := by
  intro w
  have H := add_ hl hm hr
  clear hl hm hr
  go_enter Try.func26, Try.ntmps26
  go_upto_region 1 with fail
  have hst := start3 w (#[.int .i64 a0, .int .i64 a1, .int .i64 a2, .int .i64 a3, .int .i64 a4, .int .i64 a5, .int .i64 a6, .int .i64 a7]) (#[.int .i64 b0, .int .i64 b1, .int .i64 b2, .int .i64 b3, .int .i64 b4, .int .i64 b5, .int .i64 b6, .int .i64 b7]) (#[.int .i64 0, .int .i64 0, .int .i64 0, .int .i64 0, .int .i64 0, .int .i64 0, .int .i64 0, .int .i64 0, .int .i64 0]) 25 25 48
  generalize (((w.alloc (.cells #[.int .i64 a0, .int .i64 a1, .int .i64 a2, .int .i64 a3, .int .i64 a4, .int .i64 a5, .int .i64 a6, .int .i64 a7] 25)).alloc (.cells #[.int .i64 b0, .int .i64 b1, .int .i64 b2, .int .i64 b3, .int .i64 b4, .int .i64 b5, .int .i64 b6, .int .i64 b7] 25)).alloc (.cells #[.int .i64 0, .int .i64 0, .int .i64 0, .int .i64 0, .int .i64 0, .int .i64 0, .int .i64 0, .int .i64 0, .int .i64 0] 48)) = W5 at *
  obtain ⟨m1, m2, m3, B4⟩ := hst
  have lt6 := m1.lt
  have lt7 := m2.lt
  have lt8 := m3.lt
  obtain ⟨c_l0, c_l1, c_l2, c_l3, c_l4, c_l5, c_l6, c_l7⟩ := m1.c8
  obtain ⟨c_m0, c_m1, c_m2, c_m3, c_m4, c_m5, c_m6, c_m7⟩ := m2.c8
  go_wp2_with fail
  refine (H.at _).mono ?_
  rintro o W9 ⟨rfl, hb10⟩
  clear c_l0 c_l1 c_l2 c_l3 c_l4 c_l5 c_l6 c_l7
  clear c_m0 c_m1 c_m2 c_m3 c_m4 c_m5 c_m6 c_m7
  have m11 := m1.keep hb10
  have m12 := m2.keep hb10
  have m13 := m3.keep hb10
  have B14 := B4.trans (hb10.mono B4.size)
  have sz15 := hb10.size
  clear m1 m2 m3 B4 hb10
  go_upto_region 2 with fail
  have m16 := BoxL.new W9 #[.int .i64 r0, .int .i64 r1, .int .i64 r2, .int .i64 r3, .int .i64 r4, .int .i64 r5, .int .i64 r6, .int .i64 r7] 25
  have hb17 := (Below.refl W9.heap.size W9).alloc (Nat.le_refl _) (.cells #[.int .i64 r0, .int .i64 r1, .int .i64 r2, .int .i64 r3, .int .i64 r4, .int .i64 r5, .int .i64 r6, .int .i64 r7] 25)
  have lt19 := m11.lt
  have lt20 := m12.lt
  have lt21 := m13.lt
  have m22 := m11.keep hb17
  have m23 := m12.keep hb17
  have m24 := m13.keep hb17
  have B25 := B14.trans (hb17.mono B14.size)
  have sz26 := hb17.size
  clear m11 m12 m13 B14 hb17
  generalize W9.alloc (.cells #[.int .i64 r0, .int .i64 r1, .int .i64 r2, .int .i64 r3, .int .i64 r4, .int .i64 r5, .int .i64 r6, .int .i64 r7] 25) = W18 at *
  have lt27 := m16.lt
  obtain ⟨c_x0, c_x1, c_x2, c_x3, c_x4, c_x5, c_x6, c_x7⟩ := m16.c8
  obtain ⟨c_r0, c_r1, c_r2, c_r3, c_r4, c_r5, c_r6, c_r7, c_r8⟩ := m24.c9
  obtain ⟨f_r0, f_r1, f_r2, f_r3, f_r4, f_r5, f_r6, f_r7, f_r8⟩ := m24.f9
  go_wp2_with fail
  have hR28 := m24.s9 (.int .i64 r0) (.int .i64 r1) (.int .i64 r2) (.int .i64 r3) (.int .i64 r4) (.int .i64 r5) (.int .i64 r6) (.int .i64 r7) (.int .i64 e)
  obtain ⟨s0, s1, s2, s3, s4, s5, s6, s7, s8⟩ := hR28.c9
  exact bodyPost_ret (v := .agg #[.int .i64 r0, .int .i64 r1, .int .i64 r2, .int .i64 r3, .int .i64 r4, .int .i64 r5, .int .i64 r6, .int .i64 r7, .int .i64 e]) (by simp [results, Try.results26, go_sem, s0, s1, s2, s3, s4, s5, s6, s7, s8]) rfl ⟨rfl, below_s9 B25 (by omega) _ _ _ _ _ _ _ _ _⟩

set_option maxRecDepth 100000 in
set_option maxHeartbeats 2000000 in
theorem lscaled {l : LQ} {q : Rat} {a0 a1 a2 a3 a4 a5 a6 a7 q0 q1 r0 r1 r2 r3 r4 r5 r6 r7 e : Int} (hl : IsL l a0 a1 a2 a3 a4 a5 a6 a7) (hq : IsF q q0 q1) (hr : ResL (l.scale q) r0 r1 r2 r3 r4 r5 r6 r7 e) : Does 28 #[.agg #[.int .i64 a0, .int .i64 a1, .int .i64 a2, .int .i64 a3, .int .i64 a4, .int .i64 a5, .int .i64 a6, .int .i64 a7], .agg #[.int .i64 q0, .int .i64 q1]] (.agg #[.int .i64 r0, .int .i64 r1, .int .i64 r2, .int .i64 r3, .int .i64 r4, .int .i64 r5, .int .i64 r6, .int .i64 r7, .int .i64 e]) := by
  intro w
  have H := scale_ hl hq hr
  clear hl hq hr
  go_enter Try.func28, Try.ntmps28
  go_upto_region 1 with fail
  have hst := start3 w (#[.int .i64 a0, .int .i64 a1, .int .i64 a2, .int .i64 a3, .int .i64 a4, .int .i64 a5, .int .i64 a6, .int .i64 a7]) (#[.int .i64 q0, .int .i64 q1]) (#[.int .i64 0, .int .i64 0, .int .i64 0, .int .i64 0, .int .i64 0, .int .i64 0, .int .i64 0, .int .i64 0, .int .i64 0]) 25 23 48
  generalize (((w.alloc (.cells #[.int .i64 a0, .int .i64 a1, .int .i64 a2, .int .i64 a3, .int .i64 a4, .int .i64 a5, .int .i64 a6, .int .i64 a7] 25)).alloc (.cells #[.int .i64 q0, .int .i64 q1] 23)).alloc (.cells #[.int .i64 0, .int .i64 0, .int .i64 0, .int .i64 0, .int .i64 0, .int .i64 0, .int .i64 0, .int .i64 0, .int .i64 0] 48)) = W5 at *
  obtain ⟨m1, m2, m3, B4⟩ := hst
  have lt6 := m1.lt
  have lt7 := m2.lt
  have lt8 := m3.lt
  obtain ⟨c_l0, c_l1, c_l2, c_l3, c_l4, c_l5, c_l6, c_l7⟩ := m1.c8
  obtain ⟨c_f0, c_f1⟩ := m2.c2
  go_wp2_with fail
  refine (H.at _).mono ?_
  rintro o W9 ⟨rfl, hb10⟩
  clear c_l0 c_l1 c_l2 c_l3 c_l4 c_l5 c_l6 c_l7
  clear c_f0 c_f1
  have m11 := m1.keep hb10
  have m12 := m2.keep hb10
  have m13 := m3.keep hb10
  have B14 := B4.trans (hb10.mono B4.size)
  have sz15 := hb10.size
  clear m1 m2 m3 B4 hb10
  go_upto_region 2 with fail
  have m16 := BoxL.new W9 #[.int .i64 r0, .int .i64 r1, .int .i64 r2, .int .i64 r3, .int .i64 r4, .int .i64 r5, .int .i64 r6, .int .i64 r7] 25
  have hb17 := (Below.refl W9.heap.size W9).alloc (Nat.le_refl _) (.cells #[.int .i64 r0, .int .i64 r1, .int .i64 r2, .int .i64 r3, .int .i64 r4, .int .i64 r5, .int .i64 r6, .int .i64 r7] 25)
  have lt19 := m11.lt
  have lt20 := m12.lt
  have lt21 := m13.lt
  have m22 := m11.keep hb17
  have m23 := m12.keep hb17
  have m24 := m13.keep hb17
  have B25 := B14.trans (hb17.mono B14.size)
  have sz26 := hb17.size
  clear m11 m12 m13 B14 hb17
  generalize W9.alloc (.cells #[.int .i64 r0, .int .i64 r1, .int .i64 r2, .int .i64 r3, .int .i64 r4, .int .i64 r5, .int .i64 r6, .int .i64 r7] 25) = W18 at *
  have lt27 := m16.lt
  obtain ⟨c_x0, c_x1, c_x2, c_x3, c_x4, c_x5, c_x6, c_x7⟩ := m16.c8
  obtain ⟨c_r0, c_r1, c_r2, c_r3, c_r4, c_r5, c_r6, c_r7, c_r8⟩ := m24.c9
  obtain ⟨f_r0, f_r1, f_r2, f_r3, f_r4, f_r5, f_r6, f_r7, f_r8⟩ := m24.f9
  go_wp2_with fail
  have hR28 := m24.s9 (.int .i64 r0) (.int .i64 r1) (.int .i64 r2) (.int .i64 r3) (.int .i64 r4) (.int .i64 r5) (.int .i64 r6) (.int .i64 r7) (.int .i64 e)
  obtain ⟨s0, s1, s2, s3, s4, s5, s6, s7, s8⟩ := hR28.c9
  exact bodyPost_ret (v := .agg #[.int .i64 r0, .int .i64 r1, .int .i64 r2, .int .i64 r3, .int .i64 r4, .int .i64 r5, .int .i64 r6, .int .i64 r7, .int .i64 e]) (by simp [results, Try.results28, go_sem, s0, s1, s2, s3, s4, s5, s6, s7, s8]) rfl ⟨rfl, below_s9 B25 (by omega) _ _ _ _ _ _ _ _ _⟩

set_option maxRecDepth 100000 in
set_option maxHeartbeats 2000000 in
theorem lplus {i j : IQ} {a0 a1 a2 a3 b0 b1 b2 b3 r0 r1 r2 r3 e : Int} (hi : IsI i a0 a1 a2 a3) (hj : IsI j b0 b1 b2 b3) (hr : ResI (i.plus j) r0 r1 r2 r3 e) : Does 30 #[.agg #[.int .i64 a0, .int .i64 a1, .int .i64 a2, .int .i64 a3], .agg #[.int .i64 b0, .int .i64 b1, .int .i64 b2, .int .i64 b3]] (.agg #[.int .i64 r0, .int .i64 r1, .int .i64 r2, .int .i64 r3, .int .i64 e]) := by
  intro w
  have H := plus_ hi hj hr
  clear hi hj hr
  go_enter Try.func30, Try.ntmps30
  go_upto_region 1 with fail
  have hst := start3 w (#[.int .i64 a0, .int .i64 a1, .int .i64 a2, .int .i64 a3]) (#[.int .i64 b0, .int .i64 b1, .int .i64 b2, .int .i64 b3]) (#[.int .i64 0, .int .i64 0, .int .i64 0, .int .i64 0, .int .i64 0]) 27 27 54
  generalize (((w.alloc (.cells #[.int .i64 a0, .int .i64 a1, .int .i64 a2, .int .i64 a3] 27)).alloc (.cells #[.int .i64 b0, .int .i64 b1, .int .i64 b2, .int .i64 b3] 27)).alloc (.cells #[.int .i64 0, .int .i64 0, .int .i64 0, .int .i64 0, .int .i64 0] 54)) = W5 at *
  obtain ⟨m1, m2, m3, B4⟩ := hst
  have lt6 := m1.lt
  have lt7 := m2.lt
  have lt8 := m3.lt
  obtain ⟨c_i0, c_i1, c_i2, c_i3⟩ := m1.c4
  obtain ⟨c_j0, c_j1, c_j2, c_j3⟩ := m2.c4
  go_wp2_with fail
  refine (H.at _).mono ?_
  rintro o W9 ⟨rfl, hb10⟩
  clear c_i0 c_i1 c_i2 c_i3
  clear c_j0 c_j1 c_j2 c_j3
  have m11 := m1.keep hb10
  have m12 := m2.keep hb10
  have m13 := m3.keep hb10
  have B14 := B4.trans (hb10.mono B4.size)
  have sz15 := hb10.size
  clear m1 m2 m3 B4 hb10
  go_upto_region 2 with fail
  have m16 := BoxL.new W9 #[.int .i64 r0, .int .i64 r1, .int .i64 r2, .int .i64 r3] 27
  have hb17 := (Below.refl W9.heap.size W9).alloc (Nat.le_refl _) (.cells #[.int .i64 r0, .int .i64 r1, .int .i64 r2, .int .i64 r3] 27)
  have lt19 := m11.lt
  have lt20 := m12.lt
  have lt21 := m13.lt
  have m22 := m11.keep hb17
  have m23 := m12.keep hb17
  have m24 := m13.keep hb17
  have B25 := B14.trans (hb17.mono B14.size)
  have sz26 := hb17.size
  clear m11 m12 m13 B14 hb17
  generalize W9.alloc (.cells #[.int .i64 r0, .int .i64 r1, .int .i64 r2, .int .i64 r3] 27) = W18 at *
  have lt27 := m16.lt
  obtain ⟨c_x0, c_x1, c_x2, c_x3⟩ := m16.c4
  obtain ⟨c_r0, c_r1, c_r2, c_r3, c_r4⟩ := m24.c5
  obtain ⟨f_r0, f_r1, f_r2, f_r3, f_r4⟩ := m24.f5
  go_wp2_with fail
  have hR28 := m24.s5 (.int .i64 r0) (.int .i64 r1) (.int .i64 r2) (.int .i64 r3) (.int .i64 e)
  obtain ⟨s0, s1, s2, s3, s4⟩ := hR28.c5
  exact bodyPost_ret (v := .agg #[.int .i64 r0, .int .i64 r1, .int .i64 r2, .int .i64 r3, .int .i64 e]) (by simp [results, Try.results30, go_sem, s0, s1, s2, s3, s4]) rfl ⟨rfl, below_s5 B25 (by omega) _ _ _ _ _⟩

/-- An element of a list of bytes that is repeated; 0 if it is empty. -/
def at8 (l : List Int) (i : Nat) : Int := if l.length = 0 then 0 else l[i % l.length]?.getD 0
def Bytes (l : List Int) : Prop := ∀ x ∈ l, 0 ≤ x ∧ x ≤ 255
theorem at8_in {l : List Int} (h : Bytes l) (i : Nat) : 0 ≤ at8 l i ∧ at8 l i ≤ 255 := by
  unfold at8
  split
  · omega
  · rename_i h0
    have hi : i % l.length < l.length := Nat.mod_lt _ (by omega)
    rw [List.getElem?_eq_getElem hi]
    exact h _ (List.getElem_mem hi)
theorem at8_ {w : World} {A : Option Addr} {n c : Nat} {l : List Int} (hA : Sl.Arr w A (l.map fun x => .int .u8 x)) (hn : l.length = n) (hl : Bytes l) (hs : n < 9223372036854775808) (i : Nat) (hi : i < 100) :
    DoesIn w 53 #[.slice A n c, .int .i64 (i : Int)] (.int .i64 (at8 l i)) := by
  intro W B
  have hB := hA.keep B
  have hx := at8_in hl i
  clear hA
  unfold at8 at *
  by_cases h0 : n = 0
  · subst h0
    rw [if_pos hn]
    go_enter Try.func53, Try.ntmps53
    go_wp2
    go_ret
    exact ⟨rfl, Below.refl _ _⟩
  · rw [if_neg (by omega)] at *
    have hj : i % l.length < l.length := Nat.mod_lt _ (by omega)
    obtain ⟨b, o, rfl, hlt, hc⟩ := hB.at_ (fun e => h0 (by rw [← hn, e]; rfl))
    have hc' := hc _ hj
    generalize l[i % l.length]?.getD 0 = x at *
    rw [hn] at hc' hj
    have hle : i % n ≤ i := Nat.mod_le _ _
    have e0 : ((n : Int) == 0) = false := by simp; omega
    have e1 : (n == 0) = false := by simp; omega
    have e2 : IntKind.i64.wrap ((i : Int).tmod (n : Int)) = ((i % n : Nat) : Int) := by
      rw [show (i : Int).tmod (n : Int) = ((i % n : Nat) : Int) by rw [Int.tmod_eq_emod_of_nonneg (by omega)]; rfl]
      exact IntWalk.i64_in _ (by omega)
    have e3 : IntKind.i64.wrap x = x := IntWalk.i64_in _ (by omega)
    have e4 : (i : Int).tmod (n : Int) = ((i % n : Nat) : Int) := by rw [Int.tmod_eq_emod_of_nonneg (by omega)]; rfl
    clear hc hB hl hle
    generalize i % n = j at *
    go_enter Try.func53, Try.ntmps53
    go_wp2
    go_ret
    exact ⟨rfl, Below.refl _ _⟩

/-- The small interval, function and box of a list of bytes. -/
def intQ (l : List Int) (k : Nat) : IQ := ⟨rmin (qf (at8 l k) (at8 l (k + 1))) (qf (at8 l (k + 2)) (at8 l (k + 3))), rmax (qf (at8 l k) (at8 l (k + 1))) (qf (at8 l (k + 2)) (at8 l (k + 3)))⟩
def linQ (l : List Int) : LQ := ⟨qf (at8 l 0) (at8 l 1), qf (at8 l 2) (at8 l 3), qf (at8 l 4) (at8 l 5), qf (at8 l 6) (at8 l 7)⟩
def boxQ (l : List Int) : BQ := ⟨intQ l 0, intQ l 4, intQ l 8⟩

set_option maxRecDepth 100000 in
set_option maxHeartbeats 2000000 in
theorem rlinear_ {w : World} {A : Option Addr} {n c : Nat} {l : List Int} {a0 a1 a2 a3 a4 a5 a6 a7 : Int} (hA : Sl.Arr w A (l.map fun x => .int .u8 x)) (hn : l.length = n) (hl : Bytes l) (hs : n < 9223372036854775808) (hr : IsL (linQ l) a0 a1 a2 a3 a4 a5 a6 a7) : DoesIn w 17 #[.slice A n c] (.agg #[.int .i64 a0, .int .i64 a1, .int .i64 a2, .int .i64 a3, .int .i64 a4, .int .i64 a5, .int .i64 a6, .int .i64 a7]) := by
  have T0 := Lib.hid (at8_ (c := c) hA hn hl hs 0 (by omega))
  have T1 := Lib.hid (at8_ (c := c) hA hn hl hs 1 (by omega))
  have T2 := Lib.hid (at8_ (c := c) hA hn hl hs 2 (by omega))
  have T3 := Lib.hid (at8_ (c := c) hA hn hl hs 3 (by omega))
  have T4 := Lib.hid (at8_ (c := c) hA hn hl hs 4 (by omega))
  have T5 := Lib.hid (at8_ (c := c) hA hn hl hs 5 (by omega))
  have T6 := Lib.hid (at8_ (c := c) hA hn hl hs 6 (by omega))
  have T7 := Lib.hid (at8_ (c := c) hA hn hl hs 7 (by omega))
  have F0 := frac_ (at8_in hl 0) (at8_in hl 1) hr.k
  have F1 := frac_ (at8_in hl 2) (at8_in hl 3) hr.t
  have F2 := frac_ (at8_in hl 4) (at8_in hl 5) hr.v
  have F3 := frac_ (at8_in hl 6) (at8_in hl 7) hr.a
  clear hA hn hl hs hr
  generalize at8 l 0 = y0 at *
  generalize at8 l 1 = y1 at *
  generalize at8 l 2 = y2 at *
  generalize at8 l 3 = y3 at *
  generalize at8 l 4 = y4 at *
  generalize at8 l 5 = y5 at *
  generalize at8 l 6 = y6 at *
  generalize at8 l 7 = y7 at *
  intro W0 HB0
  go_enter Try.func17, Try.ntmps17
  go_upto_region 1 with fail
  have hst := start1 W0 #[.int .i64 0, .int .i64 0, .int .i64 0, .int .i64 0, .int .i64 0, .int .i64 0, .int .i64 0, .int .i64 0] 25
  have B2 := HB0.trans (hst.2.mono HB0.size)
  have B1 := hst.2
  have m0 := hst.1
  clear hst
  generalize W0.alloc (.cells #[.int .i64 0, .int .i64 0, .int .i64 0, .int .i64 0, .int .i64 0, .int .i64 0, .int .i64 0, .int .i64 0] 25) = W1 at *
  have G1 := Lib.hid (fun p => DoesIn.later T0.out B2 p)
  have G2 := Lib.hid (fun p => DoesIn.later T1.out B2 p)
  have G3 := Lib.hid (fun p => DoesIn.later T2.out B2 p)
  have G4 := Lib.hid (fun p => DoesIn.later T3.out B2 p)
  have G5 := Lib.hid (fun p => DoesIn.later T4.out B2 p)
  have G6 := Lib.hid (fun p => DoesIn.later T5.out B2 p)
  have G7 := Lib.hid (fun p => DoesIn.later T6.out B2 p)
  have G8 := Lib.hid (fun p => DoesIn.later T7.out B2 p)
  refine wp_region_plain_tail 21 ?_
  simp only [List.take_succ_cons, List.take_zero, List.drop_succ_cons, List.drop_zero]
  repeat (go_big_quiet_step (((first | (go_at_call 53; first | with_reducible exact later_of ((G1.out _)) | with_reducible exact later_of ((G2.out _)) | with_reducible exact later_of ((G3.out _)) | with_reducible exact later_of ((G4.out _)) | with_reducible exact later_of ((G5.out _)) | with_reducible exact later_of ((G6.out _)) | with_reducible exact later_of ((G7.out _)) | with_reducible exact later_of ((G8.out _))) | (go_at_call 52; first | with_reducible exact later_of ((F0.at _)) | with_reducible exact later_of ((F1.at _)) | with_reducible exact later_of ((F2.at _)) | with_reducible exact later_of ((F3.at _)))))))
  refine wpQuiet_nil ?_
  intro _ hw'
  obtain ⟨z9, hw''⟩ := hw'
  subst hw''
  have hb10 := z9.below
  have m11 := m0.keep hb10
  have B12 := B1.trans (hb10.mono B1.size)
  have sz13 := hb10.size
  clear m0 B1 hb10
  clear G1 G2 G3 G4 G5 G6 G7 G8
  obtain ⟨c_r0, c_r1, c_r2, c_r3, c_r4, c_r5, c_r6, c_r7⟩ := m11.c8
  obtain ⟨f_r0, f_r1, f_r2, f_r3, f_r4, f_r5, f_r6, f_r7⟩ := m11.f8
  go_wp2_with fail
  have hR14 := m11.s8 (.int .i64 a0) (.int .i64 a1) (.int .i64 a2) (.int .i64 a3) (.int .i64 a4) (.int .i64 a5) (.int .i64 a6) (.int .i64 a7)
  obtain ⟨s0, s1, s2, s3, s4, s5, s6, s7⟩ := hR14.c8
  exact bodyPost_ret (v := .agg #[.int .i64 a0, .int .i64 a1, .int .i64 a2, .int .i64 a3, .int .i64 a4, .int .i64 a5, .int .i64 a6, .int .i64 a7]) (by simp [results, Try.results17, go_sem, s0, s1, s2, s3, s4, s5, s6, s7]) rfl ⟨rfl, below_s8 B12 (by omega) _ _ _ _ _ _ _ _⟩

set_option maxRecDepth 100000 in
set_option maxHeartbeats 2000000 in
theorem rinterval_0 {w : World} {A : Option Addr} {n c : Nat} {l : List Int} {r0 r1 r2 r3 : Int} (hA : Sl.Arr w A (l.map fun x => .int .u8 x)) (hn : l.length = n) (hl : Bytes l) (hs : n < 9223372036854775808) (hr : IsI (intQ l 0) r0 r1 r2 r3) : DoesIn w 47 #[.slice A n c, .int .i64 0] (.agg #[.int .i64 r0, .int .i64 r1, .int .i64 r2, .int .i64 r3]) := by
  have T0 := Lib.hid (at8_ (c := c) hA hn hl hs 0 (by omega))
  have T1 := Lib.hid (at8_ (c := c) hA hn hl hs 1 (by omega))
  have T2 := Lib.hid (at8_ (c := c) hA hn hl hs 2 (by omega))
  have T3 := Lib.hid (at8_ (c := c) hA hn hl hs 3 (by omega))
  obtain ⟨x0, x1, hx⟩ := isF_of _ ((gr_qf (at8 l 0) (at8 l 1)).fit (by decide) (by decide) (by decide))
  obtain ⟨y0, y1, hy⟩ := isF_of _ ((gr_qf (at8 l 2) (at8 l 3)).fit (by decide) (by decide) (by decide))
  have F0 := frac_ (at8_in hl 0) (at8_in hl 1) hx
  have F1 := frac_ (at8_in hl 2) (at8_in hl 3) hy
  have M0 := Lib.hid (frmin hx hy hr.lo)
  have M1 := Lib.hid (frmax hx hy hr.hi)
  clear hA hn hl hs hr hx hy
  generalize at8 l 0 = z0 at *
  generalize at8 l 1 = z1 at *
  generalize at8 l 2 = z2 at *
  generalize at8 l 3 = z3 at *
  intro W0 HB0
  go_enter Try.func47, Try.ntmps47
  go_upto_region 1 with fail
  have hst := start1 W0 #[.int .i64 0, .int .i64 0, .int .i64 0, .int .i64 0] 27
  have B2 := HB0.trans (hst.2.mono HB0.size)
  have B1 := hst.2
  have m0 := hst.1
  clear hst
  generalize W0.alloc (.cells #[.int .i64 0, .int .i64 0, .int .i64 0, .int .i64 0] 27) = W1 at *
  have lt1 := m0.lt
  have G2 := Lib.hid (fun p => DoesIn.later T0.out B2 p)
  have G3 := Lib.hid (fun p => DoesIn.later T1.out B2 p)
  have G4 := Lib.hid (fun p => DoesIn.later T2.out B2 p)
  have G5 := Lib.hid (fun p => DoesIn.later T3.out B2 p)
  refine wp_region_plain_tail 17 ?_
  simp only [List.take_succ_cons, List.take_zero, List.drop_succ_cons, List.drop_zero]
  repeat (go_big_quiet_step (((first | (go_at_call 53; first | with_reducible exact later_of ((G2.out _)) | with_reducible exact later_of ((G3.out _)) | with_reducible exact later_of ((G4.out _)) | with_reducible exact later_of ((G5.out _))) | (go_at_call 52; first | with_reducible exact later_of ((F0.at _)) | with_reducible exact later_of ((F1.at _)))))))
  refine wpQuiet_nil ?_
  intro _ hw'
  obtain ⟨z6, hw''⟩ := hw'
  subst hw''
  have hb7 := z6.below
  have m8 := m0.keep hb7
  have B9 := B1.trans (hb7.mono B1.size)
  have sz10 := hb7.size
  clear m0 B1 hb7
  clear G2 G3 G4 G5
  go_upto_region 2 with fail
  have lt15 := m8.lt
  obtain ⟨m13, m14, hb12⟩ := start2 z6.val (#[.int .i64 x0, .int .i64 x1]) (#[.int .i64 y0, .int .i64 y1]) 23 23
  have m16 := m8.keep hb12
  have B17 := B9.trans (hb12.mono B9.size)
  have sz18 := hb12.size
  clear m8 B9 hb12
  generalize ((z6.val.alloc (.cells #[.int .i64 x0, .int .i64 x1] 23)).alloc (.cells #[.int .i64 y0, .int .i64 y1] 23)) = W11 at *
  have lt19 := m13.lt
  have lt20 := m14.lt
  obtain ⟨c_a0, c_a1⟩ := m13.l2 (Below.refl _ _)
  obtain ⟨c_b0, c_b1⟩ := m14.l2 (Below.refl _ _)
  refine wp_region_later_tail 7 (by kernel_rfl) (by kernel_rfl) ?_
  simp only [List.take_succ_cons, List.take_zero, List.drop_succ_cons, List.drop_zero]
  repeat (go_big_quiet_step (((first | (go_at_call 54; with_reducible exact later_of ((M0.out.at _))) | (go_at_call 55; with_reducible exact later_of ((M1.out.at _)))))))
  refine wpQuiet_nil ?_
  intro _ hw'
  obtain ⟨z21, hw''⟩ := hw'
  subst hw''
  clear c_a0 c_a1
  clear c_b0 c_b1
  have hb22 := z21.below
  have m23 := m16.keep hb22
  have m24 := m13.keep hb22
  have m25 := m14.keep hb22
  have B26 := B17.trans (hb22.mono B17.size)
  have sz27 := hb22.size
  clear m16 m13 m14 B17 hb22
  obtain ⟨c_r0, c_r1, c_r2, c_r3⟩ := m23.c4
  obtain ⟨f_r0, f_r1, f_r2, f_r3⟩ := m23.f4
  go_wp2_with fail
  have hR28 := m23.s4 (.int .i64 r0) (.int .i64 r1) (.int .i64 r2) (.int .i64 r3)
  obtain ⟨s0, s1, s2, s3⟩ := hR28.c4
  exact bodyPost_ret (v := .agg #[.int .i64 r0, .int .i64 r1, .int .i64 r2, .int .i64 r3]) (by simp [results, Try.results47, go_sem, s0, s1, s2, s3]) rfl ⟨rfl, below_s4 B26 (by omega) _ _ _ _⟩

set_option maxRecDepth 100000 in
set_option maxHeartbeats 2000000 in
theorem rinterval_4 {w : World} {A : Option Addr} {n c : Nat} {l : List Int} {r0 r1 r2 r3 : Int} (hA : Sl.Arr w A (l.map fun x => .int .u8 x)) (hn : l.length = n) (hl : Bytes l) (hs : n < 9223372036854775808) (hr : IsI (intQ l 4) r0 r1 r2 r3) : DoesIn w 47 #[.slice A n c, .int .i64 4] (.agg #[.int .i64 r0, .int .i64 r1, .int .i64 r2, .int .i64 r3]) := by
  have T0 := Lib.hid (at8_ (c := c) hA hn hl hs 4 (by omega))
  have T1 := Lib.hid (at8_ (c := c) hA hn hl hs 5 (by omega))
  have T2 := Lib.hid (at8_ (c := c) hA hn hl hs 6 (by omega))
  have T3 := Lib.hid (at8_ (c := c) hA hn hl hs 7 (by omega))
  obtain ⟨x0, x1, hx⟩ := isF_of _ ((gr_qf (at8 l 4) (at8 l 5)).fit (by decide) (by decide) (by decide))
  obtain ⟨y0, y1, hy⟩ := isF_of _ ((gr_qf (at8 l 6) (at8 l 7)).fit (by decide) (by decide) (by decide))
  have F0 := frac_ (at8_in hl 4) (at8_in hl 5) hx
  have F1 := frac_ (at8_in hl 6) (at8_in hl 7) hy
  have M0 := Lib.hid (frmin hx hy hr.lo)
  have M1 := Lib.hid (frmax hx hy hr.hi)
  clear hA hn hl hs hr hx hy
  generalize at8 l 4 = z0 at *
  generalize at8 l 5 = z1 at *
  generalize at8 l 6 = z2 at *
  generalize at8 l 7 = z3 at *
  intro W0 HB0
  go_enter Try.func47, Try.ntmps47
  go_upto_region 1 with fail
  have hst := start1 W0 #[.int .i64 0, .int .i64 0, .int .i64 0, .int .i64 0] 27
  have B2 := HB0.trans (hst.2.mono HB0.size)
  have B1 := hst.2
  have m0 := hst.1
  clear hst
  generalize W0.alloc (.cells #[.int .i64 0, .int .i64 0, .int .i64 0, .int .i64 0] 27) = W1 at *
  have lt1 := m0.lt
  have G2 := Lib.hid (fun p => DoesIn.later T0.out B2 p)
  have G3 := Lib.hid (fun p => DoesIn.later T1.out B2 p)
  have G4 := Lib.hid (fun p => DoesIn.later T2.out B2 p)
  have G5 := Lib.hid (fun p => DoesIn.later T3.out B2 p)
  refine wp_region_plain_tail 17 ?_
  simp only [List.take_succ_cons, List.take_zero, List.drop_succ_cons, List.drop_zero]
  repeat (go_big_quiet_step (((first | (go_at_call 53; first | with_reducible exact later_of ((G2.out _)) | with_reducible exact later_of ((G3.out _)) | with_reducible exact later_of ((G4.out _)) | with_reducible exact later_of ((G5.out _))) | (go_at_call 52; first | with_reducible exact later_of ((F0.at _)) | with_reducible exact later_of ((F1.at _)))))))
  refine wpQuiet_nil ?_
  intro _ hw'
  obtain ⟨z6, hw''⟩ := hw'
  subst hw''
  have hb7 := z6.below
  have m8 := m0.keep hb7
  have B9 := B1.trans (hb7.mono B1.size)
  have sz10 := hb7.size
  clear m0 B1 hb7
  clear G2 G3 G4 G5
  go_upto_region 2 with fail
  have lt15 := m8.lt
  obtain ⟨m13, m14, hb12⟩ := start2 z6.val (#[.int .i64 x0, .int .i64 x1]) (#[.int .i64 y0, .int .i64 y1]) 23 23
  have m16 := m8.keep hb12
  have B17 := B9.trans (hb12.mono B9.size)
  have sz18 := hb12.size
  clear m8 B9 hb12
  generalize ((z6.val.alloc (.cells #[.int .i64 x0, .int .i64 x1] 23)).alloc (.cells #[.int .i64 y0, .int .i64 y1] 23)) = W11 at *
  have lt19 := m13.lt
  have lt20 := m14.lt
  obtain ⟨c_a0, c_a1⟩ := m13.l2 (Below.refl _ _)
  obtain ⟨c_b0, c_b1⟩ := m14.l2 (Below.refl _ _)
  refine wp_region_later_tail 7 (by kernel_rfl) (by kernel_rfl) ?_
  simp only [List.take_succ_cons, List.take_zero, List.drop_succ_cons, List.drop_zero]
  repeat (go_big_quiet_step (((first | (go_at_call 54; with_reducible exact later_of ((M0.out.at _))) | (go_at_call 55; with_reducible exact later_of ((M1.out.at _)))))))
  refine wpQuiet_nil ?_
  intro _ hw'
  obtain ⟨z21, hw''⟩ := hw'
  subst hw''
  clear c_a0 c_a1
  clear c_b0 c_b1
  have hb22 := z21.below
  have m23 := m16.keep hb22
  have m24 := m13.keep hb22
  have m25 := m14.keep hb22
  have B26 := B17.trans (hb22.mono B17.size)
  have sz27 := hb22.size
  clear m16 m13 m14 B17 hb22
  obtain ⟨c_r0, c_r1, c_r2, c_r3⟩ := m23.c4
  obtain ⟨f_r0, f_r1, f_r2, f_r3⟩ := m23.f4
  go_wp2_with fail
  have hR28 := m23.s4 (.int .i64 r0) (.int .i64 r1) (.int .i64 r2) (.int .i64 r3)
  obtain ⟨s0, s1, s2, s3⟩ := hR28.c4
  exact bodyPost_ret (v := .agg #[.int .i64 r0, .int .i64 r1, .int .i64 r2, .int .i64 r3]) (by simp [results, Try.results47, go_sem, s0, s1, s2, s3]) rfl ⟨rfl, below_s4 B26 (by omega) _ _ _ _⟩

set_option maxRecDepth 100000 in
set_option maxHeartbeats 2000000 in
theorem rinterval_8 {w : World} {A : Option Addr} {n c : Nat} {l : List Int} {r0 r1 r2 r3 : Int} (hA : Sl.Arr w A (l.map fun x => .int .u8 x)) (hn : l.length = n) (hl : Bytes l) (hs : n < 9223372036854775808) (hr : IsI (intQ l 8) r0 r1 r2 r3) : DoesIn w 47 #[.slice A n c, .int .i64 8] (.agg #[.int .i64 r0, .int .i64 r1, .int .i64 r2, .int .i64 r3]) := by
  have T0 := Lib.hid (at8_ (c := c) hA hn hl hs 8 (by omega))
  have T1 := Lib.hid (at8_ (c := c) hA hn hl hs 9 (by omega))
  have T2 := Lib.hid (at8_ (c := c) hA hn hl hs 10 (by omega))
  have T3 := Lib.hid (at8_ (c := c) hA hn hl hs 11 (by omega))
  obtain ⟨x0, x1, hx⟩ := isF_of _ ((gr_qf (at8 l 8) (at8 l 9)).fit (by decide) (by decide) (by decide))
  obtain ⟨y0, y1, hy⟩ := isF_of _ ((gr_qf (at8 l 10) (at8 l 11)).fit (by decide) (by decide) (by decide))
  have F0 := frac_ (at8_in hl 8) (at8_in hl 9) hx
  have F1 := frac_ (at8_in hl 10) (at8_in hl 11) hy
  have M0 := Lib.hid (frmin hx hy hr.lo)
  have M1 := Lib.hid (frmax hx hy hr.hi)
  clear hA hn hl hs hr hx hy
  generalize at8 l 8 = z0 at *
  generalize at8 l 9 = z1 at *
  generalize at8 l 10 = z2 at *
  generalize at8 l 11 = z3 at *
  intro W0 HB0
  go_enter Try.func47, Try.ntmps47
  go_upto_region 1 with fail
  have hst := start1 W0 #[.int .i64 0, .int .i64 0, .int .i64 0, .int .i64 0] 27
  have B2 := HB0.trans (hst.2.mono HB0.size)
  have B1 := hst.2
  have m0 := hst.1
  clear hst
  generalize W0.alloc (.cells #[.int .i64 0, .int .i64 0, .int .i64 0, .int .i64 0] 27) = W1 at *
  have lt1 := m0.lt
  have G2 := Lib.hid (fun p => DoesIn.later T0.out B2 p)
  have G3 := Lib.hid (fun p => DoesIn.later T1.out B2 p)
  have G4 := Lib.hid (fun p => DoesIn.later T2.out B2 p)
  have G5 := Lib.hid (fun p => DoesIn.later T3.out B2 p)
  refine wp_region_plain_tail 17 ?_
  simp only [List.take_succ_cons, List.take_zero, List.drop_succ_cons, List.drop_zero]
  repeat (go_big_quiet_step (((first | (go_at_call 53; first | with_reducible exact later_of ((G2.out _)) | with_reducible exact later_of ((G3.out _)) | with_reducible exact later_of ((G4.out _)) | with_reducible exact later_of ((G5.out _))) | (go_at_call 52; first | with_reducible exact later_of ((F0.at _)) | with_reducible exact later_of ((F1.at _)))))))
  refine wpQuiet_nil ?_
  intro _ hw'
  obtain ⟨z6, hw''⟩ := hw'
  subst hw''
  have hb7 := z6.below
  have m8 := m0.keep hb7
  have B9 := B1.trans (hb7.mono B1.size)
  have sz10 := hb7.size
  clear m0 B1 hb7
  clear G2 G3 G4 G5
  go_upto_region 2 with fail
  have lt15 := m8.lt
  obtain ⟨m13, m14, hb12⟩ := start2 z6.val (#[.int .i64 x0, .int .i64 x1]) (#[.int .i64 y0, .int .i64 y1]) 23 23
  have m16 := m8.keep hb12
  have B17 := B9.trans (hb12.mono B9.size)
  have sz18 := hb12.size
  clear m8 B9 hb12
  generalize ((z6.val.alloc (.cells #[.int .i64 x0, .int .i64 x1] 23)).alloc (.cells #[.int .i64 y0, .int .i64 y1] 23)) = W11 at *
  have lt19 := m13.lt
  have lt20 := m14.lt
  obtain ⟨c_a0, c_a1⟩ := m13.l2 (Below.refl _ _)
  obtain ⟨c_b0, c_b1⟩ := m14.l2 (Below.refl _ _)
  refine wp_region_later_tail 7 (by kernel_rfl) (by kernel_rfl) ?_
  simp only [List.take_succ_cons, List.take_zero, List.drop_succ_cons, List.drop_zero]
  repeat (go_big_quiet_step (((first | (go_at_call 54; with_reducible exact later_of ((M0.out.at _))) | (go_at_call 55; with_reducible exact later_of ((M1.out.at _)))))))
  refine wpQuiet_nil ?_
  intro _ hw'
  obtain ⟨z21, hw''⟩ := hw'
  subst hw''
  clear c_a0 c_a1
  clear c_b0 c_b1
  have hb22 := z21.below
  have m23 := m16.keep hb22
  have m24 := m13.keep hb22
  have m25 := m14.keep hb22
  have B26 := B17.trans (hb22.mono B17.size)
  have sz27 := hb22.size
  clear m16 m13 m14 B17 hb22
  obtain ⟨c_r0, c_r1, c_r2, c_r3⟩ := m23.c4
  obtain ⟨f_r0, f_r1, f_r2, f_r3⟩ := m23.f4
  go_wp2_with fail
  have hR28 := m23.s4 (.int .i64 r0) (.int .i64 r1) (.int .i64 r2) (.int .i64 r3)
  obtain ⟨s0, s1, s2, s3⟩ := hR28.c4
  exact bodyPost_ret (v := .agg #[.int .i64 r0, .int .i64 r1, .int .i64 r2, .int .i64 r3]) (by simp [results, Try.results47, go_sem, s0, s1, s2, s3]) rfl ⟨rfl, below_s4 B26 (by omega) _ _ _ _⟩

set_option maxRecDepth 100000 in
set_option maxHeartbeats 2000000 in
theorem rbox_ {w : World} {A : Option Addr} {n c : Nat} {l : List Int} {b0 b1 b2 b3 b4 b5 b6 b7 b8 b9 b10 b11 : Int} (hA : Sl.Arr w A (l.map fun x => .int .u8 x)) (hn : l.length = n) (hl : Bytes l) (hs : n < 9223372036854775808) (hr : IsBx (boxQ l) b0 b1 b2 b3 b4 b5 b6 b7 b8 b9 b10 b11) : DoesIn w 19 #[.slice A n c] (.agg #[.int .i64 b0, .int .i64 b1, .int .i64 b2, .int .i64 b3, .int .i64 b4, .int .i64 b5, .int .i64 b6, .int .i64 b7, .int .i64 b8, .int .i64 b9, .int .i64 b10, .int .i64 b11]) := by
  have T0 := Lib.hid (rinterval_0 (c := c) hA hn hl hs hr.t)
  have T1 := Lib.hid (rinterval_4 (c := c) hA hn hl hs hr.v)
  have T2 := Lib.hid (rinterval_8 (c := c) hA hn hl hs hr.a)
  clear hA hn hl hs hr
  intro W0 HB0
  go_enter Try.func19, Try.ntmps19
  go_upto_region 1 with fail
  have hst := start1 W0 #[.int .i64 0, .int .i64 0, .int .i64 0, .int .i64 0, .int .i64 0, .int .i64 0, .int .i64 0, .int .i64 0, .int .i64 0, .int .i64 0, .int .i64 0, .int .i64 0] 29
  have B2 := HB0.trans (hst.2.mono HB0.size)
  have B1 := hst.2
  have m0 := hst.1
  clear hst
  generalize W0.alloc (.cells #[.int .i64 0, .int .i64 0, .int .i64 0, .int .i64 0, .int .i64 0, .int .i64 0, .int .i64 0, .int .i64 0, .int .i64 0, .int .i64 0, .int .i64 0, .int .i64 0] 29) = W1 at *
  have G1 := Lib.hid (fun p => DoesIn.later T0.out B2 p)
  have G2 := Lib.hid (fun p => DoesIn.later T1.out B2 p)
  have G3 := Lib.hid (fun p => DoesIn.later T2.out B2 p)
  refine wp_region_plain_tail 7 ?_
  simp only [List.take_succ_cons, List.take_zero, List.drop_succ_cons, List.drop_zero]
  repeat (go_big_quiet_step (((go_at_call 47; first | with_reducible exact later_of ((G1.out _)) | with_reducible exact later_of ((G2.out _)) | with_reducible exact later_of ((G3.out _))))))
  refine wpQuiet_nil ?_
  intro _ hw'
  obtain ⟨z4, hw''⟩ := hw'
  subst hw''
  have hb5 := z4.below
  have m6 := m0.keep hb5
  have B7 := B1.trans (hb5.mono B1.size)
  have sz8 := hb5.size
  clear m0 B1 hb5
  clear G1 G2 G3
  obtain ⟨c_r0, c_r1, c_r2, c_r3, c_r4, c_r5, c_r6, c_r7, c_r8, c_r9, c_r10, c_r11⟩ := m6.c12
  obtain ⟨f_r0, f_r1, f_r2, f_r3, f_r4, f_r5, f_r6, f_r7, f_r8, f_r9, f_r10, f_r11⟩ := m6.f12
  go_wp2_with fail
  have hR9 := m6.s12 (.int .i64 b0) (.int .i64 b1) (.int .i64 b2) (.int .i64 b3) (.int .i64 b4) (.int .i64 b5) (.int .i64 b6) (.int .i64 b7) (.int .i64 b8) (.int .i64 b9) (.int .i64 b10) (.int .i64 b11)
  obtain ⟨s0, s1, s2, s3, s4, s5, s6, s7, s8, s9, s10, s11⟩ := hR9.c12
  exact bodyPost_ret (v := .agg #[.int .i64 b0, .int .i64 b1, .int .i64 b2, .int .i64 b3, .int .i64 b4, .int .i64 b5, .int .i64 b6, .int .i64 b7, .int .i64 b8, .int .i64 b9, .int .i64 b10, .int .i64 b11]) (by simp [results, Try.results19, go_sem, s0, s1, s2, s3, s4, s5, s6, s7, s8, s9, s10, s11]) rfl ⟨rfl, below_s12 B7 (by omega) _ _ _ _ _ _ _ _ _ _ _ _⟩

end Fr
end Go.Proofs.Ytojkaaglmdfcnaa

namespace Go.Proofs.Ytojkaaglmdfcnaa
open Go.RowKit Go.Shelf
namespace Fr
set_option linter.unusedVariables false
set_option linter.unusedSimpArgs false


theorem zrR : Zr Try.prog 51 #[.int .i64 0, .int .i64 0, .int .i64 0] := fun w => by simp [Instr.alloc, go_sem]

set_option maxRecDepth 100000 in
set_option maxHeartbeats 2000000 in
theorem between_ {i : IQ} {a0 a1 a2 a3 x y : Int} (hi : IsI i a0 a1 a2 a3) (k : Nat) (hk : k ≤ 255) (f1 : Fit (i.hi - i.lo)) (f2 : Fit ((i.hi - i.lo) * Rat.divInt ((k % 9 : Nat) : Int) 8)) (hr : IsF (betw i k) x y) : Does 69 #[.agg #[.int .i64 a0, .int .i64 a1, .int .i64 a2, .int .i64 a3], .int .u8 (k : Int)] (.agg #[.int .i64 x, .int .i64 y]) := by
  intro w
  obtain ⟨d0, d1, hd⟩ := isF_of _ f1
  obtain ⟨m0, m1, hm⟩ := isF_of _ f2
  have hk9 : k % 9 < 9 := Nat.mod_lt _ (by decide)
  obtain ⟨u, v, hu⟩ : ∃ u v, IsF (Rat.divInt ((k % 9 : Nat) : Int) 8) u v := isF_of _ (fit_divInt (by decide) (by omega) (by decide))
  have S1 := Lib.hid (frsub hi.hi hi.lo (resF_fit hd))
  have M1 := Lib.hid (fmade (n := ((k % 9 : Nat) : Int)) (d := 8) (by unfold I64; omega) (by unfold I64; omega) (by decide) hu)
  have P1 := Lib.hid (frmul hd hu (resF_fit hm))
  have A1 := Lib.hid (fradd hi.lo hm (resF_fit (show IsF (i.lo + (i.hi - i.lo) * Rat.divInt ((k % 9 : Nat) : Int) 8) x y from hr)))
  have e1 : IntKind.u8.wrap ((k : Int).tmod 9) = ((k % 9 : Nat) : Int) := by rw [Int.tmod_eq_emod_of_nonneg (by omega)]; exact IntWalk.u8_in _ (by omega)
  have e2 : IntKind.i64.wrap ((k % 9 : Nat) : Int) = ((k % 9 : Nat) : Int) := IntWalk.i64_in _ (by omega)
  have e3 : (k : Int).tmod 9 = ((k % 9 : Nat) : Int) := by rw [Int.tmod_eq_emod_of_nonneg (by omega)]; rfl
  have e4 : IntKind.u8.wrap ((k % 9 : Nat) : Int) = ((k % 9 : Nat) : Int) := e3 ▸ e1
  clear hi f1 f2 hr hd hm hu hk hk9
  generalize ((k % 9 : Nat) : Int) = j at *
  go_enter Try.func69, Try.ntmps69
  go_upto_region 1 with fail
  have hst := start2 w (#[.int .i64 a0, .int .i64 a1, .int .i64 a2, .int .i64 a3]) (#[.int .i64 0, .int .i64 0]) 27 23
  generalize ((w.alloc (.cells #[.int .i64 a0, .int .i64 a1, .int .i64 a2, .int .i64 a3] 27)).alloc (.cells #[.int .i64 0, .int .i64 0] 23)) = W4 at *
  obtain ⟨m1, m2, B3⟩ := hst
  have lt5 := m1.lt
  have lt6 := m2.lt
  obtain ⟨c_i0, c_i1, c_i2, c_i3⟩ := m1.c4
  go_wp2_with fail
  refine (S1.out.at _).mono ?_
  rintro o W7 ⟨rfl, hb8⟩
  clear c_i0 c_i1 c_i2 c_i3
  have m9 := m1.keep hb8
  have m10 := m2.keep hb8
  have B11 := B3.trans (hb8.mono B3.size)
  have sz12 := hb8.size
  clear m1 m2 B3 hb8
  go_upto_region 2 with fail
  have m13 := BoxL.new W7 #[.int .i64 d0, .int .i64 d1, .int .i64 0] 51
  have hb14 := (Below.refl W7.heap.size W7).alloc (Nat.le_refl _) (.cells #[.int .i64 d0, .int .i64 d1, .int .i64 0] 51)
  have lt16 := m9.lt
  have lt17 := m10.lt
  have m18 := m9.keep hb14
  have m19 := m10.keep hb14
  have B20 := B11.trans (hb14.mono B11.size)
  have sz21 := hb14.size
  clear m9 m10 B11 hb14
  generalize W7.alloc (.cells #[.int .i64 d0, .int .i64 d1, .int .i64 0] 51) = W15 at *
  have lt22 := m13.lt
  refine wp_region_free1 (agf := ?fr23) 8 7 zrR (by kernel_rfl) [] (by kernel_rfl) (fun d _ _ _ _ h => by cases d <;> exact h) (by rfl) (by rfl) ?fr231 ?fr232
  case fr231 =>
    intro W hW
    obtain ⟨c_d0, c_d1, c_d2⟩ := m13.l3 hW
    simp only [List.take_succ_cons, List.take_zero, ghostL, List.contains_cons, List.contains_nil, Nat.reduceAdd, Nat.reduceBEq, Bool.or_false, Bool.false_eq_true, if_false, if_true, ghostO]
    repeat (go_big_quiet_step (((first | (go_at_call 43; with_reducible exact later_of ((M1.out.at _))) | (go_at_call 60; with_reducible exact later_of ((P1.out.at _)))))))
    refine wpQuiet_nil ?_
    rfl
  case fr232 =>
    intro b26 W24 hb25 m27 g28 
    simp only [List.drop_succ_cons, List.drop_zero, Act.put, List.setIfInBounds_toArray, List.set_cons_succ, List.set_cons_zero]
    have m29 := m18.keep hb25
    have m30 := m19.keep hb25
    have m31 := m13.keep hb25
    have B32 := B20.trans (hb25.mono B20.size)
    have sz33 := hb25.size
    clear m18 m19 m13 B20 hb25
    have lt34 := m27.lt
    obtain ⟨c_m0, c_m1, c_m2⟩ := m27.c3
    obtain ⟨f_m0, f_m1, f_m2⟩ := m27.f3
    go_upto_region 3 with fail
    clear c_m0 c_m1 c_m2 f_m0 f_m1 f_m2
    have m36 := m27.s3 (.int .i64 m0) (.int .i64 m1) (.int .i64 0)
    have m37 := m29.z3 (b := b26) (by omega) (.int .i64 m0) (.int .i64 m1) (.int .i64 0)
    have m38 := m30.z3 (b := b26) (by omega) (.int .i64 m0) (.int .i64 m1) (.int .i64 0)
    have m39 := m31.z3 (b := b26) (by omega) (.int .i64 m0) (.int .i64 m1) (.int .i64 0)
    have B40 := below_s3 (b := b26) B32 (by omega) (.int .i64 m0) (.int .i64 m1) (.int .i64 0)
    have lt41 := m36.lt
    generalize (((W24.setCell ⟨b26, 0, none⟩ (.int .i64 m0)).setCell ⟨b26, 1, none⟩ (.int .i64 m1)).setCell ⟨b26, 2, none⟩ (.int .i64 0)) = W35 at *
    clear m27 m29 m30 m31 B32
    obtain ⟨c_i0, c_i1, c_i2, c_i3⟩ := m37.c4
    obtain ⟨c_m0, c_m1, c_m2⟩ := m36.c3
    go_wp2_with fail
    refine (A1.out.at _).mono ?_
    rintro o W42 ⟨rfl, hb43⟩
    clear c_i0 c_i1 c_i2 c_i3
    clear c_m0 c_m1 c_m2
    have m44 := m37.keep hb43
    have m45 := m38.keep hb43
    have m46 := m39.keep hb43
    have m47 := m36.keep hb43
    have B48 := B40.trans (hb43.mono B40.size)
    have sz49 := hb43.size
    clear m37 m38 m39 m36 B40 hb43
    go_upto_region 4 with fail
    have m50 := BoxL.new W42 #[.int .i64 x, .int .i64 y, .int .i64 0] 51
    have hb51 := (Below.refl W42.heap.size W42).alloc (Nat.le_refl _) (.cells #[.int .i64 x, .int .i64 y, .int .i64 0] 51)
    have lt53 := m44.lt
    have lt54 := m45.lt
    have lt55 := m46.lt
    have lt56 := m47.lt
    have m57 := m44.keep hb51
    have m58 := m45.keep hb51
    have m59 := m46.keep hb51
    have m60 := m47.keep hb51
    have B61 := B48.trans (hb51.mono B48.size)
    have sz62 := hb51.size
    clear m44 m45 m46 m47 B48 hb51
    generalize W42.alloc (.cells #[.int .i64 x, .int .i64 y, .int .i64 0] 51) = W52 at *
    have lt63 := m50.lt
    obtain ⟨c_d0, c_d1, c_d2⟩ := m59.c3
    obtain ⟨c_m0, c_m1, c_m2⟩ := m60.c3
    obtain ⟨c_o0, c_o1, c_o2⟩ := m50.c3
    obtain ⟨c_r0, c_r1⟩ := m58.c2
    obtain ⟨f_r0, f_r1⟩ := m58.f2
    go_wp2_with fail
    have hR64 := m58.s2 (.int .i64 x) (.int .i64 y)
    obtain ⟨s0, s1⟩ := hR64.c2
    exact bodyPost_ret (v := .agg #[.int .i64 x, .int .i64 y]) (by simp [results, Try.results69, go_sem, s0, s1]) rfl ⟨rfl, below_s2 B61 (by omega) _ _⟩

def ptQ (b : BQ) (k0 k1 k2 : Nat) : PQ := ⟨betw b.t k0, betw b.v k1, betw b.a k2⟩
/-- Small boxes: what is needed of the lengths of their sides. -/
def IQ.Short (i : IQ) : Prop := Fit (i.hi - i.lo) ∧ ∀ k : Nat, Fit ((i.hi - i.lo) * Rat.divInt ((k % 9 : Nat) : Int) 8)

set_option maxRecDepth 100000 in
set_option maxHeartbeats 2000000 in
theorem point_ {b : BQ} {b0 b1 b2 b3 b4 b5 b6 b7 b8 b9 b10 b11 p0 p1 p2 p3 p4 p5 : Int} (hb : IsBx b b0 b1 b2 b3 b4 b5 b6 b7 b8 b9 b10 b11) (h0 : b.t.Short) (h1 : b.v.Short) (h2 : b.a.Short) (k0 k1 k2 : Nat) (g0 : k0 ≤ 255) (g1 : k1 ≤ 255) (g2 : k2 ≤ 255) (hr : IsP (ptQ b k0 k1 k2) p0 p1 p2 p3 p4 p5) : Does 40 #[.agg #[.int .i64 b0, .int .i64 b1, .int .i64 b2, .int .i64 b3, .int .i64 b4, .int .i64 b5, .int .i64 b6, .int .i64 b7, .int .i64 b8, .int .i64 b9, .int .i64 b10, .int .i64 b11], .agg #[.int .u8 (k0 : Int), .int .u8 (k1 : Int), .int .u8 (k2 : Int)]] (.agg #[.int .i64 p0, .int .i64 p1, .int .i64 p2, .int .i64 p3, .int .i64 p4, .int .i64 p5]) := by
  intro w
  have T0 := Lib.hid (between_ hb.t k0 g0 h0.1 (h0.2 _) hr.x)
  have T1 := Lib.hid (between_ hb.v k1 g1 h1.1 (h1.2 _) hr.y)
  have T2 := Lib.hid (between_ hb.a k2 g2 h2.1 (h2.2 _) hr.z)
  clear hb h0 h1 h2 g0 g1 g2 hr
  go_enter Try.func40, Try.ntmps40
  go_upto_region 1 with fail
  have hst := start3 w (#[.int .i64 b0, .int .i64 b1, .int .i64 b2, .int .i64 b3, .int .i64 b4, .int .i64 b5, .int .i64 b6, .int .i64 b7, .int .i64 b8, .int .i64 b9, .int .i64 b10, .int .i64 b11]) (#[.int .u8 (k0 : Int), .int .u8 (k1 : Int), .int .u8 (k2 : Int)]) (#[.int .i64 0, .int .i64 0, .int .i64 0, .int .i64 0, .int .i64 0, .int .i64 0]) 29 64 31
  generalize (((w.alloc (.cells #[.int .i64 b0, .int .i64 b1, .int .i64 b2, .int .i64 b3, .int .i64 b4, .int .i64 b5, .int .i64 b6, .int .i64 b7, .int .i64 b8, .int .i64 b9, .int .i64 b10, .int .i64 b11] 29)).alloc (.cells #[.int .u8 (k0 : Int), .int .u8 (k1 : Int), .int .u8 (k2 : Int)] 64)).alloc (.cells #[.int .i64 0, .int .i64 0, .int .i64 0, .int .i64 0, .int .i64 0, .int .i64 0] 31)) = W5 at *
  obtain ⟨m1, m2, m3, B4⟩ := hst
  have lt6 := m1.lt
  have lt7 := m2.lt
  have lt8 := m3.lt
  obtain ⟨c_b0, c_b1, c_b2, c_b3, c_b4, c_b5, c_b6, c_b7, c_b8, c_b9, c_b10, c_b11⟩ := m1.l12 (Below.refl _ _)
  obtain ⟨c_k0, c_k1, c_k2⟩ := m2.l3 (Below.refl _ _)
  refine wp_region_later_tail 16 (by kernel_rfl) (by kernel_rfl) ?_
  simp only [List.take_succ_cons, List.take_zero, List.drop_succ_cons, List.drop_zero]
  repeat (go_big_quiet_step (((go_at_call 69; first | with_reducible exact later_of ((T0.out.at _)) | with_reducible exact later_of ((T1.out.at _)) | with_reducible exact later_of ((T2.out.at _))))))
  refine wpQuiet_nil ?_
  intro _ hw'
  obtain ⟨z9, hw''⟩ := hw'
  subst hw''
  clear c_b0 c_b1 c_b2 c_b3 c_b4 c_b5 c_b6 c_b7 c_b8 c_b9 c_b10 c_b11
  clear c_k0 c_k1 c_k2
  have hb10 := z9.below
  have m11 := m1.keep hb10
  have m12 := m2.keep hb10
  have m13 := m3.keep hb10
  have B14 := B4.trans (hb10.mono B4.size)
  have sz15 := hb10.size
  clear m1 m2 m3 B4 hb10
  obtain ⟨c_r0, c_r1, c_r2, c_r3, c_r4, c_r5⟩ := m13.c6
  obtain ⟨f_r0, f_r1, f_r2, f_r3, f_r4, f_r5⟩ := m13.f6
  go_wp2_with fail
  have hR16 := m13.s6 (.int .i64 p0) (.int .i64 p1) (.int .i64 p2) (.int .i64 p3) (.int .i64 p4) (.int .i64 p5)
  obtain ⟨s0, s1, s2, s3, s4, s5⟩ := hR16.c6
  exact bodyPost_ret (v := .agg #[.int .i64 p0, .int .i64 p1, .int .i64 p2, .int .i64 p3, .int .i64 p4, .int .i64 p5]) (by simp [results, Try.results40, go_sem, s0, s1, s2, s3, s4, s5]) rfl ⟨rfl, below_s6 B14 (by omega) _ _ _ _ _ _⟩

end Fr
end Go.Proofs.Ytojkaaglmdfcnaa
