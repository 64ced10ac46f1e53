/- What the predicates on intervals, boxes and functions return, in the program and in the reference. -/
import Derived.Test.YtojkaaglmdfcnaaN2
namespace Go.Proofs.Ytojkaaglmdfcnaa
open Go.RowKit Go.Shelf
namespace Fr
set_option linter.unusedVariables false


theorem contains {i : IQ} {q : Rat} {a0 a1 a2 a3 n0 n1 : Int} (hi : IsI i a0 a1 a2 a3) (hq : IsF q n0 n1) : Does 34 #[.agg #[.int .i64 a0, .int .i64 a1, .int .i64 a2, .int .i64 a3], .agg #[.int .i64 n0, .int .i64 n1]] (.bool (i.hasB q)) := by
  intro w
  have H1 := fcmp hi.lo hq
  have H2 := fcmp hq hi.hi
  have hx : decide (cmpI i.lo q ≤ 0) = decide (i.lo ≤ q) := by simp [cmpI_le]
  have hy : decide (cmpI q i.hi ≤ 0) = decide (q ≤ i.hi) := by simp [cmpI_le]
  unfold IQ.hasB
  clear hi hq
  generalize cmpI i.lo q = X at *
  generalize cmpI q i.hi = Y at *
  generalize decide (i.lo ≤ q) = u at *
  generalize decide (q ≤ i.hi) = v at *
  have hways : u = false ∨ u = true ∧ v = false ∨ u = true ∧ v = true := by cases u <;> cases v <;> simp
  rcases hways with rfl | ⟨rfl, rfl⟩ | ⟨rfl, rfl⟩
  all_goals
    go_enter Try.func34, Try.ntmps34
    go_upto_region 1 with fail
    have hst := start2 w (#[.int .i64 a0, .int .i64 a1, .int .i64 a2, .int .i64 a3]) (#[.int .i64 n0, .int .i64 n1]) 27 23
    generalize ((w.alloc (.cells #[.int .i64 a0, .int .i64 a1, .int .i64 a2, .int .i64 a3] 27)).alloc (.cells #[.int .i64 n0, .int .i64 n1] 23)) = W0 at *
    obtain ⟨m0, m1, B0⟩ := hst
    obtain ⟨c0_0, c0_1, c0_2, c0_3⟩ := m0.l4 (Below.refl _ _)
    obtain ⟨c1_0, c1_1⟩ := m1.l2 (Below.refl _ _)
    refine wp_region_plain ?_
    repeat (go_big_quiet_step (((go_at_call 50; first | with_reducible exact later_of (H1.at _) | with_reducible exact later_of (H2.at _)))))
    refine wpQuiet_nil ?_
    intro _ hw'
    obtain ⟨z, hw''⟩ := hw'
    subst hw''
    go_wp2_with fail
    go_ret
    exact ⟨rfl, B0.trans (z.below.mono B0.size)⟩

theorem within {i j : IQ} {a0 a1 a2 a3 b0 b1 b2 b3 : Int} (hi : IsI i a0 a1 a2 a3) (hj : IsI j b0 b1 b2 b3) : Does 36 #[.agg #[.int .i64 a0, .int .i64 a1, .int .i64 a2, .int .i64 a3], .agg #[.int .i64 b0, .int .i64 b1, .int .i64 b2, .int .i64 b3]] (.bool (i.inB j)) := by
  intro w
  have H1 := contains hj hi.lo
  have H2 := contains hj hi.hi
  unfold IQ.inB
  clear hi hj
  generalize j.hasB i.lo = u at *
  generalize j.hasB i.hi = v at *
  have hways : u = false ∨ u = true ∧ v = false ∨ u = true ∧ v = true := by cases u <;> cases v <;> simp
  rcases hways with rfl | ⟨rfl, rfl⟩ | ⟨rfl, rfl⟩
  all_goals
    go_enter Try.func36, Try.ntmps36
    go_upto_region 1 with fail
    have hst := start2 w (#[.int .i64 a0, .int .i64 a1, .int .i64 a2, .int .i64 a3]) (#[.int .i64 b0, .int .i64 b1, .int .i64 b2, .int .i64 b3]) 27 27
    generalize ((w.alloc (.cells #[.int .i64 a0, .int .i64 a1, .int .i64 a2, .int .i64 a3] 27)).alloc (.cells #[.int .i64 b0, .int .i64 b1, .int .i64 b2, .int .i64 b3] 27)) = W0 at *
    obtain ⟨m0, m1, B0⟩ := hst
    obtain ⟨c0_0, c0_1, c0_2, c0_3⟩ := m0.l4 (Below.refl _ _)
    obtain ⟨c1_0, c1_1, c1_2, c1_3⟩ := m1.l4 (Below.refl _ _)
    refine wp_region_plain ?_
    repeat (go_big_quiet_step (((go_at_call 34; first | with_reducible exact later_of (H1.at _) | with_reducible exact later_of (H2.at _)))))
    refine wpQuiet_nil ?_
    intro _ hw'
    obtain ⟨z, hw''⟩ := hw'
    subst hw''
    go_wp2_with fail
    go_ret
    exact ⟨rfl, B0.trans (z.below.mono B0.size)⟩

theorem inside {b c : BQ} {a0 a1 a2 a3 a4 a5 a6 a7 a8 a9 a10 a11 b0 b1 b2 b3 b4 b5 b6 b7 b8 b9 b10 b11 : Int} (hb : IsBx b a0 a1 a2 a3 a4 a5 a6 a7 a8 a9 a10 a11) (hc : IsBx c b0 b1 b2 b3 b4 b5 b6 b7 b8 b9 b10 b11) : Does 38 #[.agg #[.int .i64 a0, .int .i64 a1, .int .i64 a2, .int .i64 a3, .int .i64 a4, .int .i64 a5, .int .i64 a6, .int .i64 a7, .int .i64 a8, .int .i64 a9, .int .i64 a10, .int .i64 a11], .agg #[.int .i64 b0, .int .i64 b1, .int .i64 b2, .int .i64 b3, .int .i64 b4, .int .i64 b5, .int .i64 b6, .int .i64 b7, .int .i64 b8, .int .i64 b9, .int .i64 b10, .int .i64 b11]] (.bool (b.inB c)) := by
  intro w
  have H1 := within hb.t hc.t
  have H2 := within hb.v hc.v
  have H3 := within hb.a hc.a
  unfold BQ.inB
  clear hb hc
  generalize b.t.inB c.t = u at *
  generalize b.v.inB c.v = v at *
  generalize b.a.inB c.a = x at *
  have hways : u = false ∨ u = true ∧ v = false ∨ u = true ∧ v = true ∧ x = false ∨ u = true ∧ v = true ∧ x = true := by cases u <;> cases v <;> cases x <;> simp
  rcases hways with rfl | ⟨rfl, rfl⟩ | ⟨rfl, rfl, rfl⟩ | ⟨rfl, rfl, rfl⟩
  all_goals
    go_enter Try.func38, Try.ntmps38
    go_upto_region 1 with fail
    have hst := start2 w (#[.int .i64 a0, .int .i64 a1, .int .i64 a2, .int .i64 a3, .int .i64 a4, .int .i64 a5, .int .i64 a6, .int .i64 a7, .int .i64 a8, .int .i64 a9, .int .i64 a10, .int .i64 a11]) (#[.int .i64 b0, .int .i64 b1, .int .i64 b2, .int .i64 b3, .int .i64 b4, .int .i64 b5, .int .i64 b6, .int .i64 b7, .int .i64 b8, .int .i64 b9, .int .i64 b10, .int .i64 b11]) 29 29
    generalize ((w.alloc (.cells #[.int .i64 a0, .int .i64 a1, .int .i64 a2, .int .i64 a3, .int .i64 a4, .int .i64 a5, .int .i64 a6, .int .i64 a7, .int .i64 a8, .int .i64 a9, .int .i64 a10, .int .i64 a11] 29)).alloc (.cells #[.int .i64 b0, .int .i64 b1, .int .i64 b2, .int .i64 b3, .int .i64 b4, .int .i64 b5, .int .i64 b6, .int .i64 b7, .int .i64 b8, .int .i64 b9, .int .i64 b10, .int .i64 b11] 29)) = W0 at *
    obtain ⟨m0, m1, B0⟩ := hst
    obtain ⟨c0_0, c0_1, c0_2, c0_3, c0_4, c0_5, c0_6, c0_7, c0_8, c0_9, c0_10, c0_11⟩ := m0.l12 (Below.refl _ _)
    obtain ⟨c1_0, c1_1, c1_2, c1_3, c1_4, c1_5, c1_6, c1_7, c1_8, c1_9, c1_10, c1_11⟩ := m1.l12 (Below.refl _ _)
    refine wp_region_plain ?_
    repeat (go_big_quiet_step (((go_at_call 36; first | with_reducible exact later_of (H1.at _) | with_reducible exact later_of (H2.at _) | with_reducible exact later_of (H3.at _)))))
    refine wpQuiet_nil ?_
    intro _ hw'
    obtain ⟨z, hw''⟩ := hw'
    subst hw''
    go_wp2_with fail
    go_ret
    exact ⟨rfl, B0.trans (z.below.mono B0.size)⟩

def okL (a0 a1 a2 a3 a4 a5 a6 a7 : Int) : Bool := validB a0 a1 && validB a2 a3 && validB a4 a5 && validB a6 a7
theorem valid {a0 a1 a2 a3 a4 a5 a6 a7 : Int} (h0 : I64 a0) (h1 : I64 a1) (h2 : I64 a2) (h3 : I64 a3) (h4 : I64 a4) (h5 : I64 a5) (h6 : I64 a6) (h7 : I64 a7) : Does 10 #[.agg #[.int .i64 a0, .int .i64 a1, .int .i64 a2, .int .i64 a3, .int .i64 a4, .int .i64 a5, .int .i64 a6, .int .i64 a7]] (.bool (okL a0 a1 a2 a3 a4 a5 a6 a7)) := by
  intro w
  have H1 := fvalid h0 h1
  have H2 := fvalid h2 h3
  have H3 := fvalid h4 h5
  have H4 := fvalid h6 h7
  clear h0 h1 h2 h3 h4 h5 h6 h7
  unfold okL
  generalize validB a0 a1 = u0 at *
  generalize validB a2 a3 = u1 at *
  generalize validB a4 a5 = u2 at *
  generalize validB a6 a7 = u3 at *
  have hways : u0 = false ∨ u0 = true ∧ u1 = false ∨ u0 = true ∧ u1 = true ∧ u2 = false ∨ u0 = true ∧ u1 = true ∧ u2 = true ∧ u3 = false ∨ u0 = true ∧ u1 = true ∧ u2 = true ∧ u3 = true := by cases u0 <;> cases u1 <;> cases u2 <;> cases u3 <;> simp
  rcases hways with rfl | ⟨rfl, rfl⟩ | ⟨rfl, rfl, rfl⟩ | ⟨rfl, rfl, rfl, rfl⟩ | ⟨rfl, rfl, rfl, rfl⟩
  all_goals
    go_enter Try.func10, Try.ntmps10
    go_upto_region 1 with fail
    have hst := start1 w (#[.int .i64 a0, .int .i64 a1, .int .i64 a2, .int .i64 a3, .int .i64 a4, .int .i64 a5, .int .i64 a6, .int .i64 a7]) 25
    generalize (w.alloc (.cells #[.int .i64 a0, .int .i64 a1, .int .i64 a2, .int .i64 a3, .int .i64 a4, .int .i64 a5, .int .i64 a6, .int .i64 a7] 25)) = W0 at *
    obtain ⟨m0, B0⟩ := hst
    obtain ⟨c0_0, c0_1, c0_2, c0_3, c0_4, c0_5, c0_6, c0_7⟩ := m0.l8 (Below.refl _ _)
    refine wp_region_plain ?_
    repeat (go_big_quiet_step (((go_at_call 49; first | with_reducible exact later_of (H1.at _) | with_reducible exact later_of (H2.at _) | with_reducible exact later_of (H3.at _) | with_reducible exact later_of (H4.at _)))))
    refine wpQuiet_nil ?_
    intro _ hw'
    obtain ⟨z, hw''⟩ := hw'
    subst hw''
    go_wp2_with fail
    go_ret
    exact ⟨rfl, B0.trans (z.below.mono B0.size)⟩

/-- The bounds are valid and in order. -/
def okI (a0 a1 a2 a3 : Int) : Bool := validB a0 a1 && validB a2 a3 && decide (Rat.divInt a0 a1 ≤ Rat.divInt a2 a3)
theorem okI_cmp {a0 a1 a2 a3 : Int} (f : FuncId) (hf : ∀ {q r : Rat} {n d m k : Int}, IsF q n d → IsF r m k → Does f #[.agg #[.int .i64 n, .int .i64 d], .agg #[.int .i64 m, .int .i64 k]] (.int .i64 (cmpI q r))) :
    validB a0 a1 = false ∨ validB a0 a1 = true ∧ validB a2 a3 = false ∨ validB a0 a1 = true ∧ validB a2 a3 = true ∧ ∃ X, Does f #[.agg #[.int .i64 a0, .int .i64 a1], .agg #[.int .i64 a2, .int .i64 a3]] (.int .i64 X) ∧ decide (X ≤ 0) = decide (Rat.divInt a0 a1 ≤ Rat.divInt a2 a3) := by
  cases h1 : validB a0 a1
  · exact .inl rfl
  · cases h2 : validB a2 a3
    · exact .inr (.inl ⟨rfl, rfl⟩)
    · obtain ⟨q, hq⟩ := (validB_iff _ _).1 h1
      obtain ⟨r, hr⟩ := (validB_iff _ _).1 h2
      exact .inr (.inr ⟨rfl, rfl, _, hf hq hr, by simp [hq.eq, hr.eq, cmpI_le]⟩)

theorem validInterval {a0 a1 a2 a3 : Int} (h0 : I64 a0) (h1 : I64 a1) (h2 : I64 a2) (h3 : I64 a3) : Does 14 #[.agg #[.int .i64 a0, .int .i64 a1, .int .i64 a2, .int .i64 a3]] (.bool (okI a0 a1 a2 a3)) := by
  intro w
  have H1 := fvalid h0 h1
  have H2 := fvalid h2 h3
  have hc := okI_cmp (a0 := a0) (a1 := a1) (a2 := a2) (a3 := a3) _ fcmp
  clear h0 h1 h2 h3
  unfold okI
  generalize validB a0 a1 = u0 at *
  generalize validB a2 a3 = u1 at *
  generalize decide (Rat.divInt a0 a1 ≤ Rat.divInt a2 a3) = u2 at *
  have H3 : True := trivial
  rcases hc with rfl | ⟨rfl, rfl⟩ | ⟨rfl, rfl, X, H3, hX⟩
  rotate_left 2
  cases u2
  all_goals
    go_enter Try.func14, Try.ntmps14
    go_upto_region 1 with fail
    have hst := start1 w (#[.int .i64 a0, .int .i64 a1, .int .i64 a2, .int .i64 a3]) 27
    generalize (w.alloc (.cells #[.int .i64 a0, .int .i64 a1, .int .i64 a2, .int .i64 a3] 27)) = W0 at *
    obtain ⟨m0, B0⟩ := hst
    obtain ⟨c0_0, c0_1, c0_2, c0_3⟩ := m0.l4 (Below.refl _ _)
    refine wp_region_plain ?_
    repeat (go_big_quiet_step (((first | (go_at_call 49; first | with_reducible exact later_of (H1.at _) | with_reducible exact later_of (H2.at _)) | (go_at_call 50; with_reducible exact later_of (H3.at _))))))
    refine wpQuiet_nil ?_
    intro _ hw'
    obtain ⟨z, hw''⟩ := hw'
    subst hw''
    go_wp2_with fail
    go_ret
    exact ⟨rfl, B0.trans (z.below.mono B0.size)⟩

def okB (a0 a1 a2 a3 a4 a5 a6 a7 a8 a9 a10 a11 : Int) : Bool := okI a0 a1 a2 a3 && okI a4 a5 a6 a7 && okI a8 a9 a10 a11
theorem validBox {a0 a1 a2 a3 a4 a5 a6 a7 a8 a9 a10 a11 : Int} (h0 : I64 a0) (h1 : I64 a1) (h2 : I64 a2) (h3 : I64 a3) (h4 : I64 a4) (h5 : I64 a5) (h6 : I64 a6) (h7 : I64 a7) (h8 : I64 a8) (h9 : I64 a9) (h10 : I64 a10) (h11 : I64 a11) : Does 12 #[.agg #[.int .i64 a0, .int .i64 a1, .int .i64 a2, .int .i64 a3, .int .i64 a4, .int .i64 a5, .int .i64 a6, .int .i64 a7, .int .i64 a8, .int .i64 a9, .int .i64 a10, .int .i64 a11]] (.bool (okB a0 a1 a2 a3 a4 a5 a6 a7 a8 a9 a10 a11)) := by
  intro w
  have H1 := validInterval h0 h1 h2 h3
  have H2 := validInterval h4 h5 h6 h7
  have H3 := validInterval h8 h9 h10 h11
  clear h0 h1 h2 h3 h4 h5 h6 h7 h8 h9 h10 h11
  unfold okB
  generalize okI a0 a1 a2 a3 = u0 at *
  generalize okI a4 a5 a6 a7 = u1 at *
  generalize okI a8 a9 a10 a11 = u2 at *
  have hways : u0 = false ∨ u0 = true ∧ u1 = false ∨ u0 = true ∧ u1 = true ∧ u2 = false ∨ u0 = true ∧ u1 = true ∧ u2 = true := by cases u0 <;> cases u1 <;> cases u2 <;> simp
  rcases hways with rfl | ⟨rfl, rfl⟩ | ⟨rfl, rfl, rfl⟩ | ⟨rfl, rfl, rfl⟩
  all_goals
    go_enter Try.func12, Try.ntmps12
    go_upto_region 1 with fail
    have hst := start1 w (#[.int .i64 a0, .int .i64 a1, .int .i64 a2, .int .i64 a3, .int .i64 a4, .int .i64 a5, .int .i64 a6, .int .i64 a7, .int .i64 a8, .int .i64 a9, .int .i64 a10, .int .i64 a11]) 29
    generalize (w.alloc (.cells #[.int .i64 a0, .int .i64 a1, .int .i64 a2, .int .i64 a3, .int .i64 a4, .int .i64 a5, .int .i64 a6, .int .i64 a7, .int .i64 a8, .int .i64 a9, .int .i64 a10, .int .i64 a11] 29)) = W0 at *
    obtain ⟨m0, B0⟩ := hst
    obtain ⟨c0_0, c0_1, c0_2, c0_3, c0_4, c0_5, c0_6, c0_7, c0_8, c0_9, c0_10, c0_11⟩ := m0.l12 (Below.refl _ _)
    refine wp_region_plain ?_
    repeat (go_big_quiet_step (((go_at_call 14; first | with_reducible exact later_of (H1.at _) | with_reducible exact later_of (H2.at _) | with_reducible exact later_of (H3.at _)))))
    refine wpQuiet_nil ?_
    intro _ hw'
    obtain ⟨z, hw''⟩ := hw'
    subst hw''
    go_wp2_with fail
    go_ret
    exact ⟨rfl, B0.trans (z.below.mono B0.size)⟩

theorem rcontains {i : IQ} {q : Rat} {a0 a1 a2 a3 n0 n1 : Int} (hi : IsI i a0 a1 a2 a3) (hq : IsF q n0 n1) : Does 35 #[.agg #[.int .i64 a0, .int .i64 a1, .int .i64 a2, .int .i64 a3], .agg #[.int .i64 n0, .int .i64 n1]] (.bool (i.hasB q)) := by
  intro w
  have H1 := frcmp hi.lo hq
  have H2 := frcmp hq hi.hi
  have hx : decide (cmpI i.lo q ≤ 0) = decide (i.lo ≤ q) := by simp [cmpI_le]
  have hy : decide (cmpI q i.hi ≤ 0) = decide (q ≤ i.hi) := by simp [cmpI_le]
  unfold IQ.hasB
  clear hi hq
  generalize cmpI i.lo q = X at *
  generalize cmpI q i.hi = Y at *
  generalize decide (i.lo ≤ q) = u at *
  generalize decide (q ≤ i.hi) = v at *
  have hways : u = false ∨ u = true ∧ v = false ∨ u = true ∧ v = true := by cases u <;> cases v <;> simp
  rcases hways with rfl | ⟨rfl, rfl⟩ | ⟨rfl, rfl⟩
  all_goals
    go_enter Try.func35, Try.ntmps35
    go_upto_region 1 with fail
    have hst := start2 w (#[.int .i64 a0, .int .i64 a1, .int .i64 a2, .int .i64 a3]) (#[.int .i64 n0, .int .i64 n1]) 27 23
    generalize ((w.alloc (.cells #[.int .i64 a0, .int .i64 a1, .int .i64 a2, .int .i64 a3] 27)).alloc (.cells #[.int .i64 n0, .int .i64 n1] 23)) = W0 at *
    obtain ⟨m0, m1, B0⟩ := hst
    obtain ⟨c0_0, c0_1, c0_2, c0_3⟩ := m0.l4 (Below.refl _ _)
    obtain ⟨c1_0, c1_1⟩ := m1.l2 (Below.refl _ _)
    refine wp_region_plain ?_
    repeat (go_big_quiet_step (((go_at_call 51; first | with_reducible exact later_of (H1.at _) | with_reducible exact later_of (H2.at _)))))
    refine wpQuiet_nil ?_
    intro _ hw'
    obtain ⟨z, hw''⟩ := hw'
    subst hw''
    go_wp2_with fail
    go_ret
    exact ⟨rfl, B0.trans (z.below.mono B0.size)⟩

theorem rwithin {i j : IQ} {a0 a1 a2 a3 b0 b1 b2 b3 : Int} (hi : IsI i a0 a1 a2 a3) (hj : IsI j b0 b1 b2 b3) : Does 37 #[.agg #[.int .i64 a0, .int .i64 a1, .int .i64 a2, .int .i64 a3], .agg #[.int .i64 b0, .int .i64 b1, .int .i64 b2, .int .i64 b3]] (.bool (i.inB j)) := by
  intro w
  have H1 := rcontains hj hi.lo
  have H2 := rcontains hj hi.hi
  unfold IQ.inB
  clear hi hj
  generalize j.hasB i.lo = u at *
  generalize j.hasB i.hi = v at *
  have hways : u = false ∨ u = true ∧ v = false ∨ u = true ∧ v = true := by cases u <;> cases v <;> simp
  rcases hways with rfl | ⟨rfl, rfl⟩ | ⟨rfl, rfl⟩
  all_goals
    go_enter Try.func37, Try.ntmps37
    go_upto_region 1 with fail
    have hst := start2 w (#[.int .i64 a0, .int .i64 a1, .int .i64 a2, .int .i64 a3]) (#[.int .i64 b0, .int .i64 b1, .int .i64 b2, .int .i64 b3]) 27 27
    generalize ((w.alloc (.cells #[.int .i64 a0, .int .i64 a1, .int .i64 a2, .int .i64 a3] 27)).alloc (.cells #[.int .i64 b0, .int .i64 b1, .int .i64 b2, .int .i64 b3] 27)) = W0 at *
    obtain ⟨m0, m1, B0⟩ := hst
    obtain ⟨c0_0, c0_1, c0_2, c0_3⟩ := m0.l4 (Below.refl _ _)
    obtain ⟨c1_0, c1_1, c1_2, c1_3⟩ := m1.l4 (Below.refl _ _)
    refine wp_region_plain ?_
    repeat (go_big_quiet_step (((go_at_call 35; first | with_reducible exact later_of (H1.at _) | with_reducible exact later_of (H2.at _)))))
    refine wpQuiet_nil ?_
    intro _ hw'
    obtain ⟨z, hw''⟩ := hw'
    subst hw''
    go_wp2_with fail
    go_ret
    exact ⟨rfl, B0.trans (z.below.mono B0.size)⟩

theorem rinside {b c : BQ} {a0 a1 a2 a3 a4 a5 a6 a7 a8 a9 a10 a11 b0 b1 b2 b3 b4 b5 b6 b7 b8 b9 b10 b11 : Int} (hb : IsBx b a0 a1 a2 a3 a4 a5 a6 a7 a8 a9 a10 a11) (hc : IsBx c b0 b1 b2 b3 b4 b5 b6 b7 b8 b9 b10 b11) : Does 39 #[.agg #[.int .i64 a0, .int .i64 a1, .int .i64 a2, .int .i64 a3, .int .i64 a4, .int .i64 a5, .int .i64 a6, .int .i64 a7, .int .i64 a8, .int .i64 a9, .int .i64 a10, .int .i64 a11], .agg #[.int .i64 b0, .int .i64 b1, .int .i64 b2, .int .i64 b3, .int .i64 b4, .int .i64 b5, .int .i64 b6, .int .i64 b7, .int .i64 b8, .int .i64 b9, .int .i64 b10, .int .i64 b11]] (.bool (b.inB c)) := by
  intro w
  have H1 := rwithin hb.t hc.t
  have H2 := rwithin hb.v hc.v
  have H3 := rwithin hb.a hc.a
  unfold BQ.inB
  clear hb hc
  generalize b.t.inB c.t = u at *
  generalize b.v.inB c.v = v at *
  generalize b.a.inB c.a = x at *
  have hways : u = false ∨ u = true ∧ v = false ∨ u = true ∧ v = true ∧ x = false ∨ u = true ∧ v = true ∧ x = true := by cases u <;> cases v <;> cases x <;> simp
  rcases hways with rfl | ⟨rfl, rfl⟩ | ⟨rfl, rfl, rfl⟩ | ⟨rfl, rfl, rfl⟩
  all_goals
    go_enter Try.func39, Try.ntmps39
    go_upto_region 1 with fail
    have hst := start2 w (#[.int .i64 a0, .int .i64 a1, .int .i64 a2, .int .i64 a3, .int .i64 a4, .int .i64 a5, .int .i64 a6, .int .i64 a7, .int .i64 a8, .int .i64 a9, .int .i64 a10, .int .i64 a11]) (#[.int .i64 b0, .int .i64 b1, .int .i64 b2, .int .i64 b3, .int .i64 b4, .int .i64 b5, .int .i64 b6, .int .i64 b7, .int .i64 b8, .int .i64 b9, .int .i64 b10, .int .i64 b11]) 29 29
    generalize ((w.alloc (.cells #[.int .i64 a0, .int .i64 a1, .int .i64 a2, .int .i64 a3, .int .i64 a4, .int .i64 a5, .int .i64 a6, .int .i64 a7, .int .i64 a8, .int .i64 a9, .int .i64 a10, .int .i64 a11] 29)).alloc (.cells #[.int .i64 b0, .int .i64 b1, .int .i64 b2, .int .i64 b3, .int .i64 b4, .int .i64 b5, .int .i64 b6, .int .i64 b7, .int .i64 b8, .int .i64 b9, .int .i64 b10, .int .i64 b11] 29)) = W0 at *
    obtain ⟨m0, m1, B0⟩ := hst
    obtain ⟨c0_0, c0_1, c0_2, c0_3, c0_4, c0_5, c0_6, c0_7, c0_8, c0_9, c0_10, c0_11⟩ := m0.l12 (Below.refl _ _)
    obtain ⟨c1_0, c1_1, c1_2, c1_3, c1_4, c1_5, c1_6, c1_7, c1_8, c1_9, c1_10, c1_11⟩ := m1.l12 (Below.refl _ _)
    refine wp_region_plain ?_
    repeat (go_big_quiet_step (((go_at_call 37; first | with_reducible exact later_of (H1.at _) | with_reducible exact later_of (H2.at _) | with_reducible exact later_of (H3.at _)))))
    refine wpQuiet_nil ?_
    intro _ hw'
    obtain ⟨z, hw''⟩ := hw'
    subst hw''
    go_wp2_with fail
    go_ret
    exact ⟨rfl, B0.trans (z.below.mono B0.size)⟩

theorem rvalid {a0 a1 a2 a3 a4 a5 a6 a7 : Int} (h0 : I64 a0) (h1 : I64 a1) (h2 : I64 a2) (h3 : I64 a3) (h4 : I64 a4) (h5 : I64 a5) (h6 : I64 a6) (h7 : I64 a7) : Does 11 #[.agg #[.int .i64 a0, .int .i64 a1, .int .i64 a2, .int .i64 a3, .int .i64 a4, .int .i64 a5, .int .i64 a6, .int .i64 a7]] (.bool (okL a0 a1 a2 a3 a4 a5 a6 a7)) := by
  intro w
  have H1 := frvalid h0 h1
  have H2 := frvalid h2 h3
  have H3 := frvalid h4 h5
  have H4 := frvalid h6 h7
  clear h0 h1 h2 h3 h4 h5 h6 h7
  unfold okL
  generalize validB a0 a1 = u0 at *
  generalize validB a2 a3 = u1 at *
  generalize validB a4 a5 = u2 at *
  generalize validB a6 a7 = u3 at *
  have hways : u0 = false ∨ u0 = true ∧ u1 = false ∨ u0 = true ∧ u1 = true ∧ u2 = false ∨ u0 = true ∧ u1 = true ∧ u2 = true ∧ u3 = false ∨ u0 = true ∧ u1 = true ∧ u2 = true ∧ u3 = true := by cases u0 <;> cases u1 <;> cases u2 <;> cases u3 <;> simp
  rcases hways with rfl | ⟨rfl, rfl⟩ | ⟨rfl, rfl, rfl⟩ | ⟨rfl, rfl, rfl, rfl⟩ | ⟨rfl, rfl, rfl, rfl⟩
  all_goals
    go_enter Try.func11, Try.ntmps11
    go_upto_region 1 with fail
    have hst := start1 w (#[.int .i64 a0, .int .i64 a1, .int .i64 a2, .int .i64 a3, .int .i64 a4, .int .i64 a5, .int .i64 a6, .int .i64 a7]) 25
    generalize (w.alloc (.cells #[.int .i64 a0, .int .i64 a1, .int .i64 a2, .int .i64 a3, .int .i64 a4, .int .i64 a5, .int .i64 a6, .int .i64 a7] 25)) = W0 at *
    obtain ⟨m0, B0⟩ := hst
    obtain ⟨c0_0, c0_1, c0_2, c0_3, c0_4, c0_5, c0_6, c0_7⟩ := m0.l8 (Below.refl _ _)
    refine wp_region_plain ?_
    repeat (go_big_quiet_step (((go_at_call 41; first | with_reducible exact later_of (H1.at _) | with_reducible exact later_of (H2.at _) | with_reducible exact later_of (H3.at _) | with_reducible exact later_of (H4.at _)))))
    refine wpQuiet_nil ?_
    intro _ hw'
    obtain ⟨z, hw''⟩ := hw'
    subst hw''
    go_wp2_with fail
    go_ret
    exact ⟨rfl, B0.trans (z.below.mono B0.size)⟩

theorem rvalidInterval {a0 a1 a2 a3 : Int} (h0 : I64 a0) (h1 : I64 a1) (h2 : I64 a2) (h3 : I64 a3) : Does 15 #[.agg #[.int .i64 a0, .int .i64 a1, .int .i64 a2, .int .i64 a3]] (.bool (okI a0 a1 a2 a3)) := by
  intro w
  have H1 := frvalid h0 h1
  have H2 := frvalid h2 h3
  have hc := okI_cmp (a0 := a0) (a1 := a1) (a2 := a2) (a3 := a3) _ frcmp
  clear h0 h1 h2 h3
  unfold okI
  generalize validB a0 a1 = u0 at *
  generalize validB a2 a3 = u1 at *
  generalize decide (Rat.divInt a0 a1 ≤ Rat.divInt a2 a3) = u2 at *
  have H3 : True := trivial
  rcases hc with rfl | ⟨rfl, rfl⟩ | ⟨rfl, rfl, X, H3, hX⟩
  rotate_left 2
  cases u2
  all_goals
    go_enter Try.func15, Try.ntmps15
    go_upto_region 1 with fail
    have hst := start1 w (#[.int .i64 a0, .int .i64 a1, .int .i64 a2, .int .i64 a3]) 27
    generalize (w.alloc (.cells #[.int .i64 a0, .int .i64 a1, .int .i64 a2, .int .i64 a3] 27)) = W0 at *
    obtain ⟨m0, B0⟩ := hst
    obtain ⟨c0_0, c0_1, c0_2, c0_3⟩ := m0.l4 (Below.refl _ _)
    refine wp_region_plain ?_
    repeat (go_big_quiet_step (((first | (go_at_call 41; first | with_reducible exact later_of (H1.at _) | with_reducible exact later_of (H2.at _)) | (go_at_call 51; with_reducible exact later_of (H3.at _))))))
    refine wpQuiet_nil ?_
    intro _ hw'
    obtain ⟨z, hw''⟩ := hw'
    subst hw''
    go_wp2_with fail
    go_ret
    exact ⟨rfl, B0.trans (z.below.mono B0.size)⟩

theorem rvalidBox {a0 a1 a2 a3 a4 a5 a6 a7 a8 a9 a10 a11 : Int} (h0 : I64 a0) (h1 : I64 a1) (h2 : I64 a2) (h3 : I64 a3) (h4 : I64 a4) (h5 : I64 a5) (h6 : I64 a6) (h7 : I64 a7) (h8 : I64 a8) (h9 : I64 a9) (h10 : I64 a10) (h11 : I64 a11) : Does 13 #[.agg #[.int .i64 a0, .int .i64 a1, .int .i64 a2, .int .i64 a3, .int .i64 a4, .int .i64 a5, .int .i64 a6, .int .i64 a7, .int .i64 a8, .int .i64 a9, .int .i64 a10, .int .i64 a11]] (.bool (okB a0 a1 a2 a3 a4 a5 a6 a7 a8 a9 a10 a11)) := by
  intro w
  have H1 := rvalidInterval h0 h1 h2 h3
  have H2 := rvalidInterval h4 h5 h6 h7
  have H3 := rvalidInterval h8 h9 h10 h11
  clear h0 h1 h2 h3 h4 h5 h6 h7 h8 h9 h10 h11
  unfold okB
  generalize okI a0 a1 a2 a3 = u0 at *
  generalize okI a4 a5 a6 a7 = u1 at *
  generalize okI a8 a9 a10 a11 = u2 at *
  have hways : u0 = false ∨ u0 = true ∧ u1 = false ∨ u0 = true ∧ u1 = true ∧ u2 = false ∨ u0 = true ∧ u1 = true ∧ u2 = true := by cases u0 <;> cases u1 <;> cases u2 <;> simp
  rcases hways with rfl | ⟨rfl, rfl⟩ | ⟨rfl, rfl, rfl⟩ | ⟨rfl, rfl, rfl⟩
  all_goals
    go_enter Try.func13, Try.ntmps13
    go_upto_region 1 with fail
    have hst := start1 w (#[.int .i64 a0, .int .i64 a1, .int .i64 a2, .int .i64 a3, .int .i64 a4, .int .i64 a5, .int .i64 a6, .int .i64 a7, .int .i64 a8, .int .i64 a9, .int .i64 a10, .int .i64 a11]) 29
    generalize (w.alloc (.cells #[.int .i64 a0, .int .i64 a1, .int .i64 a2, .int .i64 a3, .int .i64 a4, .int .i64 a5, .int .i64 a6, .int .i64 a7, .int .i64 a8, .int .i64 a9, .int .i64 a10, .int .i64 a11] 29)) = W0 at *
    obtain ⟨m0, B0⟩ := hst
    obtain ⟨c0_0, c0_1, c0_2, c0_3, c0_4, c0_5, c0_6, c0_7, c0_8, c0_9, c0_10, c0_11⟩ := m0.l12 (Below.refl _ _)
    refine wp_region_plain ?_
    repeat (go_big_quiet_step (((go_at_call 15; first | with_reducible exact later_of (H1.at _) | with_reducible exact later_of (H2.at _) | with_reducible exact later_of (H3.at _)))))
    refine wpQuiet_nil ?_
    intro _ hw'
    obtain ⟨z, hw''⟩ := hw'
    subst hw''
    go_wp2_with fail
    go_ret
    exact ⟨rfl, B0.trans (z.below.mono B0.size)⟩

theorem okI_of {q : IQ} {a0 a1 a2 a3 : Int} (h : IsI q a0 a1 a2 a3) : okI a0 a1 a2 a3 = decide (q.lo ≤ q.hi) := by
  unfold okI
  rw [validB_of h.lo, validB_of h.hi, h.lo.eq, h.hi.eq]
  rfl
theorem okL_of {q : LQ} {a0 a1 a2 a3 a4 a5 a6 a7 : Int} (h : IsL q a0 a1 a2 a3 a4 a5 a6 a7) : okL a0 a1 a2 a3 a4 a5 a6 a7 = true := by
  unfold okL
  rw [validB_of h.k, validB_of h.t, validB_of h.v, validB_of h.a]
  rfl

end Fr
end Go.Proofs.Ytojkaaglmdfcnaa
