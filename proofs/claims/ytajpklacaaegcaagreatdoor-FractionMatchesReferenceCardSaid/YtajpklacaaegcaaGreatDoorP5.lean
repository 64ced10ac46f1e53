/- The fixed calls of the chapter's examples: that they answer as the chapter says. -/
import Derived.Test.YtajpklacaaegcaaGreatDoorP4
namespace Go.Proofs.YtajpklacaaegcaaGreatDoor
open Go.RowKit Go.Shelf Go.Sort
namespace Fr
set_option linter.unusedVariables false

theorem ex_q : IsF (Rat.divInt 3 4) 3 4 := isF_mk (by decide) (by decide) (by decide) (by decide)
theorem ex_r : IsF (Rat.divInt (-9) 2) (-9) 2 := isF_mk (by decide) (by decide) (by decide) (by decide)
theorem ex_third : IsF (Rat.divInt (-1) 3) (-1) 3 := isF_mk (by decide) (by decide) (by decide) (by decide)
theorem ex_least : IsF (Rat.divInt 1 4611686018427387904) 1 4611686018427387904 := isF_mk (by decide) (by decide) (by decide) (by decide)
theorem ex_three : IsF (Rat.divInt (-3) 2) (-3) 2 := isF_mk (by decide) (by decide) (by decide) (by decide)

/-- What the calls return. -/
structure ExC : Prop where
  cr0 : ∀ W : World, Calls Tryz.prog 5 #[.int .i64 6, .int .i64 (-4)] W fun o w' => o = .returned (.agg #[.int .i64 (-3), .int .i64 2, .int .i64 0]) ∧ Below W.heap.size W w'
  cr1 : ∀ W : World, Calls Tryz.prog 5 #[.int .i64 0, .int .i64 5] W fun o w' => o = .returned (.agg #[.int .i64 0, .int .i64 1, .int .i64 0]) ∧ Below W.heap.size W w'
  cr2 : ∀ W : World, Calls Tryz.prog 5 #[.int .i64 1, .int .i64 0] W fun o w' => o = .returned (.agg #[.int .i64 0, .int .i64 0, .int .i64 3]) ∧ Below W.heap.size W w'
  op3 : ∀ W : World, Calls Tryz.prog 10 #[.agg #[.int .i64 1, .int .i64 6], .agg #[.int .i64 1, .int .i64 10]] W fun o w' => o = .returned (.agg #[.int .i64 4, .int .i64 15, .int .i64 0]) ∧ Below W.heap.size W w'
  op4 : ∀ W : World, Calls Tryz.prog 16 #[.agg #[.int .i64 3, .int .i64 4], .agg #[.int .i64 (-9), .int .i64 2]] W fun o w' => o = .returned (.agg #[.int .i64 (-1), .int .i64 6, .int .i64 0]) ∧ Below W.heap.size W w'
  op5 : ∀ W : World, Calls Tryz.prog 10 #[.agg #[.int .i64 4611686018427387904, .int .i64 1], .agg #[.int .i64 1, .int .i64 1]] W fun o w' => o = .returned (.agg #[.int .i64 0, .int .i64 0, .int .i64 2]) ∧ Below W.heap.size W w'
  op6 : ∀ W : World, Calls Tryz.prog 10 #[.agg #[.int .i64 4611686018427387904, .int .i64 1], .agg #[.int .i64 (-1), .int .i64 3]] W fun o w' => o = .returned (.agg #[.int .i64 0, .int .i64 0, .int .i64 2]) ∧ Below W.heap.size W w'
  op7 : ∀ W : World, Calls Tryz.prog 14 #[.agg #[.int .i64 4611686018427387904, .int .i64 1], .agg #[.int .i64 1, .int .i64 4611686018427387904]] W fun o w' => o = .returned (.agg #[.int .i64 1, .int .i64 1, .int .i64 0]) ∧ Below W.heap.size W w'
  dz : ∀ W : World, Calls Tryz.prog 16 #[.agg #[.int .i64 1, .int .i64 6], .agg #[.int .i64 0, .int .i64 1]] W fun o w' => o = .returned (.agg #[.int .i64 0, .int .i64 0, .int .i64 3]) ∧ Below W.heap.size W w'
  cmp : ∀ W : World, Calls Tryz.prog 18 #[.agg #[.int .i64 1, .int .i64 6], .agg #[.int .i64 1, .int .i64 10]] W fun o w' => o = .returned (.int .i64 1) ∧ Below W.heap.size W w'
  val10 : ∀ W : World, Calls Tryz.prog 7 #[.agg #[.int .i64 2, .int .i64 4]] W fun o w' => o = .returned (.bool false) ∧ Below W.heap.size W w'
  val11 : ∀ W : World, Calls Tryz.prog 7 #[.agg #[.int .i64 1, .int .i64 6]] W fun o w' => o = .returned (.bool true) ∧ Below W.heap.size W w'
  fl12 : ∀ W : World, Calls Tryz.prog 20 #[.agg #[.int .i64 (-3), .int .i64 2]] W fun o w' => o = .returned (.int .i64 (-2)) ∧ Below W.heap.size W w'
  fl13 : ∀ W : World, Calls Tryz.prog 20 #[.agg #[.int .i64 1, .int .i64 6]] W fun o w' => o = .returned (.int .i64 0) ∧ Below W.heap.size W w'
  ce14 : ∀ W : World, Calls Tryz.prog 22 #[.agg #[.int .i64 (-3), .int .i64 2]] W fun o w' => o = .returned (.int .i64 (-1)) ∧ Below W.heap.size W w'
  ce15 : ∀ W : World, Calls Tryz.prog 22 #[.agg #[.int .i64 1, .int .i64 6]] W fun o w' => o = .returned (.int .i64 1) ∧ Below W.heap.size W w'
  mn : ∀ W : World, Calls Tryz.prog 26 #[.agg #[.int .i64 1, .int .i64 6], .agg #[.int .i64 1, .int .i64 10]] W fun o w' => o = .returned (.agg #[.int .i64 1, .int .i64 10]) ∧ Below W.heap.size W w'
  mx : ∀ W : World, Calls Tryz.prog 28 #[.agg #[.int .i64 1, .int .i64 6], .agg #[.int .i64 1, .int .i64 10]] W fun o w' => o = .returned (.agg #[.int .i64 1, .int .i64 6]) ∧ Below W.heap.size W w'

theorem exC : ExC where
  cr0 := by
    intro W
    have := created_any 6 (-4) W (by unfold I64; decide) (by unfold I64; decide)
    have e1 : mN 6 (-4) = -3 := by decide +kernel
    have e2 : mD 6 (-4) = 2 := by decide +kernel
    have e3 : mE 6 (-4) = 0 := by decide +kernel
    rwa [e1, e2, e3] at this
  cr1 := by
    intro W
    have := created_any 0 5 W (by unfold I64; decide) (by unfold I64; decide)
    have e1 : mN 0 5 = 0 := by decide +kernel
    have e2 : mD 0 5 = 1 := by decide +kernel
    have e3 : mE 0 5 = 0 := by decide +kernel
    rwa [e1, e2, e3] at this
  cr2 := by
    intro W
    have := created_any 1 0 W (by unfold I64; decide) (by unfold I64; decide)
    have e1 : mN 1 0 = 0 := by decide +kernel
    have e2 : mD 1 0 = 0 := by decide +kernel
    have e3 : mE 1 0 = 3 := by decide +kernel
    rwa [e1, e2, e3] at this
  op3 := by
    intro W
    have := ladd_q ex_a ex_b W
    have e1 : rN (Rat.divInt 1 6 + Rat.divInt 1 10) = 4 := by decide +kernel
    have e2 : rD (Rat.divInt 1 6 + Rat.divInt 1 10) = 15 := by decide +kernel
    have e3 : rE (Rat.divInt 1 6 + Rat.divInt 1 10) = 0 := by decide +kernel
    rwa [e1, e2, e3] at this
  op4 := by
    intro W
    have := ldiv_q ex_q ex_r (by decide) W
    have e1 : rN (Rat.divInt 3 4 / Rat.divInt (-9) 2) = -1 := by decide +kernel
    have e2 : rD (Rat.divInt 3 4 / Rat.divInt (-9) 2) = 6 := by decide +kernel
    have e3 : rE (Rat.divInt 3 4 / Rat.divInt (-9) 2) = 0 := by decide +kernel
    rwa [e1, e2, e3] at this
  op5 := by
    intro W
    have := ladd_q ex_big ex_one W
    have e1 : rN (Rat.divInt 4611686018427387904 1 + Rat.divInt 1 1) = 0 := by decide +kernel
    have e2 : rD (Rat.divInt 4611686018427387904 1 + Rat.divInt 1 1) = 0 := by decide +kernel
    have e3 : rE (Rat.divInt 4611686018427387904 1 + Rat.divInt 1 1) = 2 := by decide +kernel
    rwa [e1, e2, e3] at this
  op6 := by
    intro W
    have := ladd_q ex_big ex_third W
    have e1 : rN (Rat.divInt 4611686018427387904 1 + Rat.divInt (-1) 3) = 0 := by decide +kernel
    have e2 : rD (Rat.divInt 4611686018427387904 1 + Rat.divInt (-1) 3) = 0 := by decide +kernel
    have e3 : rE (Rat.divInt 4611686018427387904 1 + Rat.divInt (-1) 3) = 2 := by decide +kernel
    rwa [e1, e2, e3] at this
  op7 := by
    intro W
    have := lmul_q ex_big ex_least W
    have e1 : rN (Rat.divInt 4611686018427387904 1 * Rat.divInt 1 4611686018427387904) = 1 := by decide +kernel
    have e2 : rD (Rat.divInt 4611686018427387904 1 * Rat.divInt 1 4611686018427387904) = 1 := by decide +kernel
    have e3 : rE (Rat.divInt 4611686018427387904 1 * Rat.divInt 1 4611686018427387904) = 0 := by decide +kernel
    rwa [e1, e2, e3] at this
  dz := fun W => ldiv_zero 1 6 1 W
  cmp := by
    intro W
    have := cmp_q ex_a ex_b W
    have e : cmpI (Rat.divInt 1 6) (Rat.divInt 1 10) = 1 := by decide +kernel
    rwa [e] at this
  val10 := by
    intro W
    have := valid_any 2 4 W (by unfold I64; decide) (by unfold I64; decide)
    have e : validB 2 4 = false := by decide +kernel
    rwa [e] at this
  val11 := by
    intro W
    have := valid_any 1 6 W (by unfold I64; decide) (by unfold I64; decide)
    have e : validB 1 6 = true := by decide +kernel
    rwa [e] at this
  fl12 := by
    intro W
    have := floor_any (-3) 2 W (by unfold I64; decide) (by decide) (by decide) (by decide)
    have e : ((-3) : Int) / 2 = -2 := by decide
    rwa [e] at this
  fl13 := by
    intro W
    have := floor_any 1 6 W (by unfold I64; decide) (by decide) (by decide) (by decide)
    have e : (1 : Int) / 6 = 0 := by decide
    rwa [e] at this
  ce14 := by
    intro W
    have := ceil_any (-3) 2 W (by unfold I62; decide) (by decide) (by decide)
    have e : -((-((-3) : Int)) / 2) = -1 := by decide
    rwa [e] at this
  ce15 := by
    intro W
    have := ceil_any 1 6 W (by unfold I62; decide) (by decide) (by decide)
    have e : -((-(1 : Int)) / 6) = 1 := by decide
    rwa [e] at this
  mn := fun W => min_second ex_a ex_b (by decide +kernel) W
  mx := fun W => max_first ex_a ex_b (by decide +kernel) W

structure ExV : Prop where
  pa0 : ∀ W : World, Vars W → Calls Tryz.prog 32 #[.string ⟨#[52, 47, 50]⟩] W fun o w' => o = .returned (.agg #[.int .i64 0, .int .i64 0, .int .i64 5]) ∧ Below W.heap.size W w'
  pa1 : ∀ W : World, Vars W → Calls Tryz.prog 32 #[.string ⟨#[49, 47, 49]⟩] W fun o w' => o = .returned (.agg #[.int .i64 0, .int .i64 0, .int .i64 5]) ∧ Below W.heap.size W w'
  pa2 : ∀ W : World, Vars W → Calls Tryz.prog 32 #[.string ⟨#[45, 48]⟩] W fun o w' => o = .returned (.agg #[.int .i64 0, .int .i64 0, .int .i64 5]) ∧ Below W.heap.size W w'
  pa3 : ∀ W : World, Vars W → Calls Tryz.prog 32 #[.string ⟨#[43, 49]⟩] W fun o w' => o = .returned (.agg #[.int .i64 0, .int .i64 0, .int .i64 5]) ∧ Below W.heap.size W w'
  pa4 : ∀ W : World, Vars W → Calls Tryz.prog 32 #[.string ⟨#[45, 51, 47, 50]⟩] W fun o w' => o = .returned (.agg #[.int .i64 (-3), .int .i64 2, .int .i64 0]) ∧ Below W.heap.size W w'
  tx5 : ∀ W : World, Vars W → Calls Tryz.prog 24 #[.agg #[.int .i64 (-3), .int .i64 2]] W fun o w' => o = .returned (.string ⟨#[45, 51, 47, 50]⟩) ∧ Below W.heap.size W w'
  tx6 : ∀ W : World, Vars W → Calls Tryz.prog 24 #[.agg #[.int .i64 5, .int .i64 1]] W fun o w' => o = .returned (.string ⟨#[53]⟩) ∧ Below W.heap.size W w'

theorem exV : ExV where
  pa0 := by
    intro W hW
    have := parsed_any [52, 47, 50] W (by decide) hW
    have e1 : pN [52, 47, 50] = 0 := by decide +kernel
    have e2 : pD [52, 47, 50] = 0 := by decide +kernel
    have e3 : pE [52, 47, 50] = 5 := by decide +kernel
    rwa [e1, e2, e3] at this
  pa1 := by
    intro W hW
    have := parsed_any [49, 47, 49] W (by decide) hW
    have e1 : pN [49, 47, 49] = 0 := by decide +kernel
    have e2 : pD [49, 47, 49] = 0 := by decide +kernel
    have e3 : pE [49, 47, 49] = 5 := by decide +kernel
    rwa [e1, e2, e3] at this
  pa2 := by
    intro W hW
    have := parsed_any [45, 48] W (by decide) hW
    have e1 : pN [45, 48] = 0 := by decide +kernel
    have e2 : pD [45, 48] = 0 := by decide +kernel
    have e3 : pE [45, 48] = 5 := by decide +kernel
    rwa [e1, e2, e3] at this
  pa3 := by
    intro W hW
    have := parsed_any [43, 49] W (by decide) hW
    have e1 : pN [43, 49] = 0 := by decide +kernel
    have e2 : pD [43, 49] = 0 := by decide +kernel
    have e3 : pE [43, 49] = 5 := by decide +kernel
    rwa [e1, e2, e3] at this
  pa4 := by
    intro W hW
    have := parsed_any [45, 51, 47, 50] W (by decide) hW
    have e1 : pN [45, 51, 47, 50] = -3 := by decide +kernel
    have e2 : pD [45, 51, 47, 50] = 2 := by decide +kernel
    have e3 : pE [45, 51, 47, 50] = 0 := by decide +kernel
    rwa [e1, e2, e3] at this
  tx5 := by
    intro W hW
    have := text_any (-3) 2 W (by unfold I64; decide) (by unfold I64; decide) hW
    have e : textL (-3) 2 = [45, 51, 47, 50] := by decide +kernel
    rwa [e] at this
  tx6 := by
    intro W hW
    have := text_any 5 1 W (by unfold I64; decide) (by unfold I64; decide) hW
    have e : textL 5 1 = [53] := by decide +kernel
    rwa [e] at this

set_option maxHeartbeats 4000000 in
set_option maxRecDepth 100000 in
theorem examples_any (w : World) (hv : Vars w) : Calls Tryz.prog 4 #[] w fun o w' => o = .returned (.bool true) ∧ Below w.heap.size w w' := by
  have HE := Lib.hid exC
  have HV := Lib.hid exV
  go_enter Tryz.func4, Tryz.ntmps4
  go_upto_region 5 with (go_at_call 30; refine (most_any _).mono ?_; rintro o w' ⟨rfl, rfl⟩)
  have a0 := ((Box2.new w (.int .i64 1) (.int .i64 6) 25).alloc (.cells #[.int .i64 1, .int .i64 10] 25)).alloc (.cells #[.int .i64 4611686018427387904, .int .i64 1] 25)
  have b0 := (Box2.newAt (W := w.alloc (.cells #[.int .i64 1, .int .i64 6] 25)) (B := w.heap.size + 1) (by simp) (.int .i64 1) (.int .i64 10) 25).alloc (.cells #[.int .i64 4611686018427387904, .int .i64 1] 25)
  have c0 := Box2.newAt (W := (w.alloc (.cells #[.int .i64 1, .int .i64 6] 25)).alloc (.cells #[.int .i64 1, .int .i64 10] 25)) (B := w.heap.size + 1 + 1) (by simp) (.int .i64 4611686018427387904) (.int .i64 1) 25
  have B0 := (((Below.refl _ w).alloc (Nat.le_refl _) (.cells #[.int .i64 1, .int .i64 6] 25)).alloc (by simp) (.cells #[.int .i64 1, .int .i64 10] 25)).alloc (by simp; omega) (.cells #[.int .i64 4611686018427387904, .int .i64 1] 25)
  have hV0 := hv.keep B0
  generalize ((w.alloc (.cells #[.int .i64 1, .int .i64 6] 25)).alloc (.cells #[.int .i64 1, .int .i64 10] 25)).alloc (.cells #[.int .i64 4611686018427387904, .int .i64 1] 25) = W0 at *
  clear hv
  have hfe := field_err
  obtain ⟨x0, x1⟩ := a0.later
  obtain ⟨y0, y1⟩ := b0.later
  obtain ⟨z0, z1⟩ := c0.later
  refine wp_region_plain ?_
  repeat (go_big_quiet_step (((first | (go_at_call 5; first | with_reducible exact later_of (HE.out.cr0 _) | with_reducible exact later_of (HE.out.cr1 _) | with_reducible exact later_of (HE.out.cr2 _)) | (go_at_call 31; with_reducible exact later_of (is_any _ _ _)) | (go_at_call 10; first | with_reducible exact later_of (HE.out.op3 _) | with_reducible exact later_of (HE.out.op5 _) | with_reducible exact later_of (HE.out.op6 _)) | (go_at_call 16; first | with_reducible exact later_of (HE.out.op4 _) | with_reducible exact later_of (HE.out.dz _))))))
  refine wpQuiet_nil ?_
  intro _ hw'
  obtain ⟨q, hw''⟩ := hw'
  subst hw''
  have a1 := a0.keep q.below
  have b1 := b0.keep q.below
  have c1 := c0.keep q.below
  have B1 := B0.trans (q.below.mono B0.size)
  have hV1 := hV0.keep q.below
  generalize q.val = W1 at *
  clear x0 x1 y0 y1 z0 z1 a0 b0 c0 B0 hV0 q
  go_upto_region 7 with fail
  obtain ⟨x0, x1⟩ := a1.later
  obtain ⟨y0, y1⟩ := b1.later
  obtain ⟨z0, z1⟩ := c1.later
  refine wp_region_plain ?_
  repeat (go_big_quiet_step (((first | (go_at_call 10; first | with_reducible exact later_of (HE.out.op3 _) | with_reducible exact later_of (HE.out.op5 _) | with_reducible exact later_of (HE.out.op6 _)) | (go_at_call 14; first | with_reducible exact later_of (HE.out.op7 _)) | (go_at_call 31; with_reducible exact later_of (is_any _ _ _)) | (go_at_call 16; first | with_reducible exact later_of (HE.out.op4 _) | with_reducible exact later_of (HE.out.dz _)) | (go_at_call 18; first | with_reducible exact later_of (HE.out.cmp _)) | (go_at_call 7; first | with_reducible exact later_of (HE.out.val10 _) | with_reducible exact later_of (HE.out.val11 _))))))
  refine wpQuiet_nil ?_
  intro _ hw'
  obtain ⟨q, hw''⟩ := hw'
  subst hw''
  have a2 := a1.keep q.below
  have b2 := b1.keep q.below
  have c2 := c1.keep q.below
  have B2 := B1.trans (q.below.mono B1.size)
  have hV2 := hV1.keep q.below
  generalize q.val = W2 at *
  clear x0 x1 y0 y1 z0 z1 a1 b1 c1 B1 hV1 q
  go_upto_region 9 with fail
  obtain ⟨x0, x1⟩ := a2.later
  obtain ⟨y0, y1⟩ := b2.later
  obtain ⟨z0, z1⟩ := c2.later
  refine wp_region_plain ?_
  repeat (go_big_quiet_step (((first | (go_at_call 32; first | with_reducible exact later_of (HV.out.pa0 _ (hV2.keep (Later.below _))) | with_reducible exact later_of (HV.out.pa1 _ (hV2.keep (Later.below _))) | with_reducible exact later_of (HV.out.pa2 _ (hV2.keep (Later.below _))) | with_reducible exact later_of (HV.out.pa3 _ (hV2.keep (Later.below _))) | with_reducible exact later_of (HV.out.pa4 _ (hV2.keep (Later.below _)))) | (go_at_call 31; with_reducible exact later_of (is_any _ _ _))))))
  refine wpQuiet_nil ?_
  intro _ hw'
  obtain ⟨q, hw''⟩ := hw'
  subst hw''
  have a3 := a2.keep q.below
  have b3 := b2.keep q.below
  have c3 := c2.keep q.below
  have B3 := B2.trans (q.below.mono B2.size)
  have hV3 := hV2.keep q.below
  generalize q.val = W3 at *
  clear x0 x1 y0 y1 z0 z1 a2 b2 c2 B2 hV2 q
  go_upto_region 11 with fail
  obtain ⟨x0, x1⟩ := a3.later
  obtain ⟨y0, y1⟩ := b3.later
  obtain ⟨z0, z1⟩ := c3.later
  refine wp_region_later (by kernel_rfl) (by kernel_rfl) ?_
  repeat (go_big_quiet_step (((first | (go_at_call 24; first | with_reducible exact later_of (HV.out.tx5 _ (hV3.keep (Later.below _))) | with_reducible exact later_of (HV.out.tx6 _ (hV3.keep (Later.below _)))) | (go_at_call 20; first | with_reducible exact later_of (HE.out.fl12 _) | with_reducible exact later_of (HE.out.fl13 _)) | (go_at_call 22; first | with_reducible exact later_of (HE.out.ce14 _) | with_reducible exact later_of (HE.out.ce15 _)) | (go_at_call 26; first | with_reducible exact later_of (HE.out.mn _)) | (go_at_call 28; first | with_reducible exact later_of (HE.out.mx _))))))
  refine wpQuiet_nil ?_
  intro _ hw'
  obtain ⟨q, hw''⟩ := hw'
  subst hw''
  have a4 := a3.keep q.below
  have b4 := b3.keep q.below
  have c4 := c3.keep q.below
  have B4 := B3.trans (q.below.mono B3.size)
  have hV4 := hV3.keep q.below
  generalize q.val = W4 at *
  clear x0 x1 y0 y1 z0 z1 a3 b3 c3 B3 hV3 q
  go_wp2_with fail
  go_ret
  exact ⟨rfl, B4⟩

end Fr
end Go.Proofs.YtajpklacaaegcaaGreatDoor
