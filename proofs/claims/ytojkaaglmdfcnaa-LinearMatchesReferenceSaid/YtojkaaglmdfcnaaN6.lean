/- Corners of boxes, in the program and in the reference. -/
import Derived.Test.YtojkaaglmdfcnaaN5
namespace Go.Proofs.Ytojkaaglmdfcnaa
open Go.RowKit Go.Shelf
namespace Fr
set_option linter.unusedVariables false


theorem isF_neg0 {q : Rat} {n d : Int} (h : IsF q n d) : decide (n < 0) = decide (q < 0) := by
  have : n < 0 ↔ q < 0 := by rw [num_neg, h.num]
  simp [this]

theorem bound_true_true (n d a0 a1 a2 a3 : Int) (b : Nat) (w : World) (hn : decide (n < 0) = true) (hg : w.cell? ⟨b, 0, none⟩ = some (.bool true)) (hb : b < w.heap.size) : Calls Try.prog 106 #[.agg #[.int .i64 n, .int .i64 d], .agg #[.int .i64 a0, .int .i64 a1, .int .i64 a2, .int .i64 a3], .pointer (some ⟨b, 0, none⟩)] w fun o w' => o = .returned (.agg #[.int .i64 a0, .int .i64 a1]) ∧ Below w.heap.size w w' := by
  have H := choose_false a0 a1 a2 a3
  go_enter Try.func106, Try.ntmps106
  go_upto_region 1 with fail
  have hst := start3 w (#[.int .i64 n, .int .i64 d]) (#[.int .i64 a0, .int .i64 a1, .int .i64 a2, .int .i64 a3]) (#[.int .i64 0, .int .i64 0]) 23 27 23
  generalize (((w.alloc (.cells #[.int .i64 n, .int .i64 d] 23)).alloc (.cells #[.int .i64 a0, .int .i64 a1, .int .i64 a2, .int .i64 a3] 27)).alloc (.cells #[.int .i64 0, .int .i64 0] 23)) = W0 at *
  obtain ⟨m0, m1, m2, B0⟩ := hst
  have cg : W0.cell? ⟨b, 0, none⟩ = some (.bool true) := (B0.cell (p := ⟨b, 0, none⟩) hb).trans hg
  clear hg
  obtain ⟨c0_0, c0_1⟩ := m0.c2
  obtain ⟨c1_0, c1_1, c1_2, c1_3⟩ := m1.c4
  go_wp2_with fail
  refine (H.at _).mono ?_
  rintro o w1 ⟨rfl, hb1⟩
  have m3 := m2.keep hb1
  have B1 := B0.trans (hb1.mono B0.size)
  clear m0 m1 m2 B0 hb1 H cg c0_0 c0_1 c1_0 c1_1 c1_2 c1_3
  obtain ⟨rc0, rc1⟩ := m3.c2
  obtain ⟨rf0, rf1⟩ := m3.f2
  go_wp2_with fail
  have hR1 := m3.s2 (.int .i64 a0) (.int .i64 a1)
  obtain ⟨s0, s1⟩ := hR1.c2
  exact bodyPost_ret (v := .agg #[.int .i64 a0, .int .i64 a1]) (by simp [results, Try.results106, go_sem, s0, s1]) rfl ⟨rfl, below_s2 B1 (by omega) _ _⟩

theorem bound_true_false (n d a0 a1 a2 a3 : Int) (b : Nat) (w : World) (hn : decide (n < 0) = false) (hg : w.cell? ⟨b, 0, none⟩ = some (.bool true)) (hb : b < w.heap.size) : Calls Try.prog 106 #[.agg #[.int .i64 n, .int .i64 d], .agg #[.int .i64 a0, .int .i64 a1, .int .i64 a2, .int .i64 a3], .pointer (some ⟨b, 0, none⟩)] w fun o w' => o = .returned (.agg #[.int .i64 a2, .int .i64 a3]) ∧ Below w.heap.size w w' := by
  have H := choose_true a0 a1 a2 a3
  go_enter Try.func106, Try.ntmps106
  go_upto_region 1 with fail
  have hst := start3 w (#[.int .i64 n, .int .i64 d]) (#[.int .i64 a0, .int .i64 a1, .int .i64 a2, .int .i64 a3]) (#[.int .i64 0, .int .i64 0]) 23 27 23
  generalize (((w.alloc (.cells #[.int .i64 n, .int .i64 d] 23)).alloc (.cells #[.int .i64 a0, .int .i64 a1, .int .i64 a2, .int .i64 a3] 27)).alloc (.cells #[.int .i64 0, .int .i64 0] 23)) = W0 at *
  obtain ⟨m0, m1, m2, B0⟩ := hst
  have cg : W0.cell? ⟨b, 0, none⟩ = some (.bool true) := (B0.cell (p := ⟨b, 0, none⟩) hb).trans hg
  clear hg
  obtain ⟨c0_0, c0_1⟩ := m0.c2
  obtain ⟨c1_0, c1_1, c1_2, c1_3⟩ := m1.c4
  go_wp2_with fail
  refine (H.at _).mono ?_
  rintro o w1 ⟨rfl, hb1⟩
  have m3 := m2.keep hb1
  have B1 := B0.trans (hb1.mono B0.size)
  clear m0 m1 m2 B0 hb1 H cg c0_0 c0_1 c1_0 c1_1 c1_2 c1_3
  obtain ⟨rc0, rc1⟩ := m3.c2
  obtain ⟨rf0, rf1⟩ := m3.f2
  go_wp2_with fail
  have hR1 := m3.s2 (.int .i64 a2) (.int .i64 a3)
  obtain ⟨s0, s1⟩ := hR1.c2
  exact bodyPost_ret (v := .agg #[.int .i64 a2, .int .i64 a3]) (by simp [results, Try.results106, go_sem, s0, s1]) rfl ⟨rfl, below_s2 B1 (by omega) _ _⟩

theorem bound_false_true (n d a0 a1 a2 a3 : Int) (b : Nat) (w : World) (hn : decide (n < 0) = true) (hg : w.cell? ⟨b, 0, none⟩ = some (.bool false)) (hb : b < w.heap.size) : Calls Try.prog 106 #[.agg #[.int .i64 n, .int .i64 d], .agg #[.int .i64 a0, .int .i64 a1, .int .i64 a2, .int .i64 a3], .pointer (some ⟨b, 0, none⟩)] w fun o w' => o = .returned (.agg #[.int .i64 a2, .int .i64 a3]) ∧ Below w.heap.size w w' := by
  have H := choose_true a0 a1 a2 a3
  go_enter Try.func106, Try.ntmps106
  go_upto_region 1 with fail
  have hst := start3 w (#[.int .i64 n, .int .i64 d]) (#[.int .i64 a0, .int .i64 a1, .int .i64 a2, .int .i64 a3]) (#[.int .i64 0, .int .i64 0]) 23 27 23
  generalize (((w.alloc (.cells #[.int .i64 n, .int .i64 d] 23)).alloc (.cells #[.int .i64 a0, .int .i64 a1, .int .i64 a2, .int .i64 a3] 27)).alloc (.cells #[.int .i64 0, .int .i64 0] 23)) = W0 at *
  obtain ⟨m0, m1, m2, B0⟩ := hst
  have cg : W0.cell? ⟨b, 0, none⟩ = some (.bool false) := (B0.cell (p := ⟨b, 0, none⟩) hb).trans hg
  clear hg
  obtain ⟨c0_0, c0_1⟩ := m0.c2
  obtain ⟨c1_0, c1_1, c1_2, c1_3⟩ := m1.c4
  go_wp2_with fail
  refine (H.at _).mono ?_
  rintro o w1 ⟨rfl, hb1⟩
  have m3 := m2.keep hb1
  have B1 := B0.trans (hb1.mono B0.size)
  clear m0 m1 m2 B0 hb1 H cg c0_0 c0_1 c1_0 c1_1 c1_2 c1_3
  obtain ⟨rc0, rc1⟩ := m3.c2
  obtain ⟨rf0, rf1⟩ := m3.f2
  go_wp2_with fail
  have hR1 := m3.s2 (.int .i64 a2) (.int .i64 a3)
  obtain ⟨s0, s1⟩ := hR1.c2
  exact bodyPost_ret (v := .agg #[.int .i64 a2, .int .i64 a3]) (by simp [results, Try.results106, go_sem, s0, s1]) rfl ⟨rfl, below_s2 B1 (by omega) _ _⟩

theorem bound_false_false (n d a0 a1 a2 a3 : Int) (b : Nat) (w : World) (hn : decide (n < 0) = false) (hg : w.cell? ⟨b, 0, none⟩ = some (.bool false)) (hb : b < w.heap.size) : Calls Try.prog 106 #[.agg #[.int .i64 n, .int .i64 d], .agg #[.int .i64 a0, .int .i64 a1, .int .i64 a2, .int .i64 a3], .pointer (some ⟨b, 0, none⟩)] w fun o w' => o = .returned (.agg #[.int .i64 a0, .int .i64 a1]) ∧ Below w.heap.size w w' := by
  have H := choose_false a0 a1 a2 a3
  go_enter Try.func106, Try.ntmps106
  go_upto_region 1 with fail
  have hst := start3 w (#[.int .i64 n, .int .i64 d]) (#[.int .i64 a0, .int .i64 a1, .int .i64 a2, .int .i64 a3]) (#[.int .i64 0, .int .i64 0]) 23 27 23
  generalize (((w.alloc (.cells #[.int .i64 n, .int .i64 d] 23)).alloc (.cells #[.int .i64 a0, .int .i64 a1, .int .i64 a2, .int .i64 a3] 27)).alloc (.cells #[.int .i64 0, .int .i64 0] 23)) = W0 at *
  obtain ⟨m0, m1, m2, B0⟩ := hst
  have cg : W0.cell? ⟨b, 0, none⟩ = some (.bool false) := (B0.cell (p := ⟨b, 0, none⟩) hb).trans hg
  clear hg
  obtain ⟨c0_0, c0_1⟩ := m0.c2
  obtain ⟨c1_0, c1_1, c1_2, c1_3⟩ := m1.c4
  go_wp2_with fail
  refine (H.at _).mono ?_
  rintro o w1 ⟨rfl, hb1⟩
  have m3 := m2.keep hb1
  have B1 := B0.trans (hb1.mono B0.size)
  clear m0 m1 m2 B0 hb1 H cg c0_0 c0_1 c1_0 c1_1 c1_2 c1_3
  obtain ⟨rc0, rc1⟩ := m3.c2
  obtain ⟨rf0, rf1⟩ := m3.f2
  go_wp2_with fail
  have hR1 := m3.s2 (.int .i64 a0) (.int .i64 a1)
  obtain ⟨s0, s1⟩ := hR1.c2
  exact bodyPost_ret (v := .agg #[.int .i64 a0, .int .i64 a1]) (by simp [results, Try.results106, go_sem, s0, s1]) rfl ⟨rfl, below_s2 B1 (by omega) _ _⟩

theorem bound_ {c : Rat} {i : IQ} {n d a0 a1 a2 a3 x y : Int} (hc : IsF c n d) (hi : IsI i a0 a1 a2 a3) (g : Bool) (hr : IsF (cq c i g) x y) (b : Nat) (w : World) (hg : w.cell? ⟨b, 0, none⟩ = some (.bool g)) (hb : b < w.heap.size) :
    Calls Try.prog 106 #[.agg #[.int .i64 n, .int .i64 d], .agg #[.int .i64 a0, .int .i64 a1, .int .i64 a2, .int .i64 a3], .pointer (some ⟨b, 0, none⟩)] w fun o w' => o = .returned (.agg #[.int .i64 x, .int .i64 y]) ∧ Below w.heap.size w w' := by
  have hn := isF_neg0 hc
  unfold cq at hr
  cases g
  · by_cases h : c < 0
    · simp only [h, decide_true] at hr hn
      obtain ⟨rfl, rfl⟩ := isF_same hr hi.hi
      exact bound_false_true n d a0 a1 _ _ b w hn hg hb
    · simp only [h, decide_false] at hr hn
      obtain ⟨rfl, rfl⟩ := isF_same hr hi.lo
      exact bound_false_false n d _ _ a2 a3 b w hn hg hb
  · by_cases h : c < 0
    · simp only [h, decide_true] at hr hn
      obtain ⟨rfl, rfl⟩ := isF_same hr hi.lo
      exact bound_true_true n d _ _ a2 a3 b w hn hg hb
    · simp only [h, decide_false] at hr hn
      obtain ⟨rfl, rfl⟩ := isF_same hr hi.hi
      exact bound_true_false n d a0 a1 _ _ b w hn hg hb

set_option maxRecDepth 100000 in
theorem corner_ {l : LQ} {b : BQ} {a0 a1 a2 a3 a4 a5 a6 a7 b0 b1 b2 b3 b4 b5 b6 b7 b8 b9 b10 b11 p0 p1 p2 p3 p4 p5 : Int} (hl : IsL l a0 a1 a2 a3 a4 a5 a6 a7) (hb : IsBx b b0 b1 b2 b3 b4 b5 b6 b7 b8 b9 b10 b11) (g : Bool) (hr : IsP (l.corner b g) p0 p1 p2 p3 p4 p5) : Does 91 #[.agg #[.int .i64 a0, .int .i64 a1, .int .i64 a2, .int .i64 a3, .int .i64 a4, .int .i64 a5, .int .i64 a6, .int .i64 a7], .agg #[.int .i64 b0, .int .i64 b1, .int .i64 b2, .int .i64 b3, .int .i64 b4, .int .i64 b5, .int .i64 b6, .int .i64 b7, .int .i64 b8, .int .i64 b9, .int .i64 b10, .int .i64 b11], .bool g] (.agg #[.int .i64 p0, .int .i64 p1, .int .i64 p2, .int .i64 p3, .int .i64 p4, .int .i64 p5]) := by
  intro w
  have H0 : ∀ W : World, ∀ p : Later W, W.cell? ⟨w.heap.size + 1 + 1, 0, none⟩ = some (.bool g) → w.heap.size + 1 + 1 < W.heap.size → Calls Try.prog 106 #[.agg #[.int .i64 a2, .int .i64 a3], .agg #[.int .i64 b0, .int .i64 b1, .int .i64 b2, .int .i64 b3], .pointer (some ⟨w.heap.size + 1 + 1, 0, none⟩)] p.val fun o w' => o = .returned (.agg #[.int .i64 p0, .int .i64 p1]) ∧ Below p.val.heap.size p.val w' := fun W p hc hlt => bound_ hl.t hb.t g hr.x _ p.val (p.cell hc hlt) (Nat.lt_of_lt_of_le hlt p.below.size)
  have J0 := Lib.hid H0
  have H1 : ∀ W : World, ∀ p : Later W, W.cell? ⟨w.heap.size + 1 + 1, 0, none⟩ = some (.bool g) → w.heap.size + 1 + 1 < W.heap.size → Calls Try.prog 106 #[.agg #[.int .i64 a4, .int .i64 a5], .agg #[.int .i64 b4, .int .i64 b5, .int .i64 b6, .int .i64 b7], .pointer (some ⟨w.heap.size + 1 + 1, 0, none⟩)] p.val fun o w' => o = .returned (.agg #[.int .i64 p2, .int .i64 p3]) ∧ Below p.val.heap.size p.val w' := fun W p hc hlt => bound_ hl.v hb.v g hr.y _ p.val (p.cell hc hlt) (Nat.lt_of_lt_of_le hlt p.below.size)
  have J1 := Lib.hid H1
  have H2 : ∀ W : World, ∀ p : Later W, W.cell? ⟨w.heap.size + 1 + 1, 0, none⟩ = some (.bool g) → w.heap.size + 1 + 1 < W.heap.size → Calls Try.prog 106 #[.agg #[.int .i64 a6, .int .i64 a7], .agg #[.int .i64 b8, .int .i64 b9, .int .i64 b10, .int .i64 b11], .pointer (some ⟨w.heap.size + 1 + 1, 0, none⟩)] p.val fun o w' => o = .returned (.agg #[.int .i64 p4, .int .i64 p5]) ∧ Below p.val.heap.size p.val w' := fun W p hc hlt => bound_ hl.a hb.a g hr.z _ p.val (p.cell hc hlt) (Nat.lt_of_lt_of_le hlt p.below.size)
  have J2 := Lib.hid H2
  clear H0 H1 H2 hl hb hr
  go_enter Try.func91, Try.ntmps91
  go_upto_region 2 with fail
  have hst := start4 w (#[.int .i64 a0, .int .i64 a1, .int .i64 a2, .int .i64 a3, .int .i64 a4, .int .i64 a5, .int .i64 a6, .int .i64 a7]) (#[.int .i64 b0, .int .i64 b1, .int .i64 b2, .int .i64 b3, .int .i64 b4, .int .i64 b5, .int .i64 b6, .int .i64 b7, .int .i64 b8, .int .i64 b9, .int .i64 b10, .int .i64 b11]) (#[.bool g]) (#[.int .i64 0, .int .i64 0, .int .i64 0, .int .i64 0, .int .i64 0, .int .i64 0]) 25 29 4 31
  generalize ((((w.alloc (.cells #[.int .i64 a0, .int .i64 a1, .int .i64 a2, .int .i64 a3, .int .i64 a4, .int .i64 a5, .int .i64 a6, .int .i64 a7] 25)).alloc (.cells #[.int .i64 b0, .int .i64 b1, .int .i64 b2, .int .i64 b3, .int .i64 b4, .int .i64 b5, .int .i64 b6, .int .i64 b7, .int .i64 b8, .int .i64 b9, .int .i64 b10, .int .i64 b11] 29)).alloc (.cells #[.bool g] 4)).alloc (.cells #[.int .i64 0, .int .i64 0, .int .i64 0, .int .i64 0, .int .i64 0, .int .i64 0] 31)) = W0 at *
  obtain ⟨m0, m1, m2, m3, B0⟩ := hst
  obtain ⟨c0_0, c0_1, c0_2, c0_3, c0_4, c0_5, c0_6, c0_7⟩ := m0.l8 (Below.refl _ _)
  obtain ⟨c1_0, c1_1, c1_2, c1_3, c1_4, c1_5, c1_6, c1_7, c1_8, c1_9, c1_10, c1_11⟩ := m1.l12 (Below.refl _ _)
  have hcg := m2.c1
  have hlt := m2.lt
  have G0 := Lib.hid (fun p : Later W0 => J0.out W0 p hcg hlt)
  have G1 := Lib.hid (fun p : Later W0 => J1.out W0 p hcg hlt)
  have G2 := Lib.hid (fun p : Later W0 => J2.out W0 p hcg hlt)
  clear J0 J1 J2 hcg hlt
  refine wp_region_later_tail 19 (by kernel_rfl) (by kernel_rfl) ?_
  simp only [List.take_succ_cons, List.take_zero, List.drop_succ_cons, List.drop_zero]
  repeat (go_big_quiet_step ((go_at_call 106; first | with_reducible exact later_of (G0.out _) | with_reducible exact later_of (G1.out _) | with_reducible exact later_of (G2.out _))))
  refine wpQuiet_nil ?_
  intro _ hw'
  obtain ⟨z, hw''⟩ := hw'
  subst hw''
  have hR0 := m3.keep z.below
  have B1 := B0.trans (z.below.mono B0.size)
  clear c0_0 c0_1 c0_2 c0_3 c0_4 c0_5 c0_6 c0_7 c1_0 c1_1 c1_2 c1_3 c1_4 c1_5 c1_6 c1_7 c1_8 c1_9 c1_10 c1_11 m0 m1 m2 m3 B0 G0 G1 G2
  obtain ⟨rc0, rc1, rc2, rc3, rc4, rc5⟩ := hR0.c6
  obtain ⟨rf0, rf1, rf2, rf3, rf4, rf5⟩ := hR0.f6
  go_wp2_with fail
  have hR1 := hR0.s6 (.int .i64 p0) (.int .i64 p1) (.int .i64 p2) (.int .i64 p3) (.int .i64 p4) (.int .i64 p5)
  obtain ⟨s0, s1, s2, s3, s4, s5⟩ := hR1.c6
  exact bodyPost_ret (v := .agg #[.int .i64 p0, .int .i64 p1, .int .i64 p2, .int .i64 p3, .int .i64 p4, .int .i64 p5]) (by simp [results, Try.results91, go_sem, s0, s1, s2, s3, s4, s5]) rfl ⟨rfl, below_s6 B1 (by omega) _ _ _ _ _ _⟩

end Fr
end Go.Proofs.Ytojkaaglmdfcnaa
