/- The examples of the document. Small intervals, boxes and functions; LinearIntervals: the walk. -/
import Derived.Test.YtojkaaglmdfcnaaN11
namespace Go.Proofs.Ytojkaaglmdfcnaa
open Go.RowKit Go.Shelf
namespace Fr
set_option linter.unusedVariables false
set_option linter.unusedSimpArgs false


theorem zrG : Zr Try.prog 54 #[.int .i64 0, .int .i64 0, .int .i64 0, .int .i64 0, .int .i64 0] := fun w => by simp [Instr.alloc, go_sem]
theorem field_g (a b c d e : Int) (W : World) : (Instr.field 54 (.agg #[.int .i64 a, .int .i64 b, .int .i64 c, .int .i64 d, .int .i64 e]) 0).run Try.prog W = .ok (.agg #[.int .i64 a, .int .i64 b, .int .i64 c, .int .i64 d]) W := by kernel_rfl
attribute [local go_sem] field_g
theorem isF_int (n : Int) (h : n.natAbs ≤ 4611686018427387904) : IsF (Rat.divInt n 1) n 1 := by
  have hr : Rat.divInt n 1 = (n : Rat) := by
    rw [Rat.divInt_eq_div]
    show (n : Rat) / 1 = n
    grind
  rw [hr]
  exact ⟨by simp, by simp, by unfold Fit; simp; omega⟩
theorem exL : IsL ⟨Rat.divInt 5 1, Rat.divInt 2 1, Rat.divInt (-3) 1, Rat.divInt 0 1⟩ 5 1 2 1 (-3) 1 0 1 := ⟨isF_int 5 (by decide), isF_int 2 (by decide), isF_int (-3) (by decide), isF_int 0 (by decide)⟩
theorem exI (a b : Int) (ha : a.natAbs ≤ 4611686018427387904) (hb : b.natAbs ≤ 4611686018427387904) : IsI ⟨Rat.divInt a 1, Rat.divInt b 1⟩ a 1 b 1 := ⟨isF_int _ ha, isF_int _ hb⟩
theorem exB : IsBx ⟨⟨Rat.divInt 0 1, Rat.divInt 10 1⟩, ⟨Rat.divInt 1 1, Rat.divInt 2 1⟩, ⟨Rat.divInt 0 1, Rat.divInt 0 1⟩⟩ 0 1 10 1 1 1 2 1 0 1 0 1 := ⟨exI 0 10 (by decide) (by decide), exI 1 2 (by decide) (by decide), exI 0 0 (by decide) (by decide)⟩
theorem exHalf : IsF (Rat.divInt 1 2) 1 2 := ⟨by decide +kernel, by decide +kernel, by decide +kernel⟩
theorem exP : IsP ⟨Rat.divInt 1 2, Rat.divInt 1 1, Rat.divInt 0 1⟩ 1 2 1 1 0 1 := ⟨exHalf, isF_int 1 (by decide), isF_int 0 (by decide)⟩
theorem exRange : LQ.range ⟨Rat.divInt 5 1, Rat.divInt 2 1, Rat.divInt (-3) 1, Rat.divInt 0 1⟩ ⟨⟨Rat.divInt 0 1, Rat.divInt 10 1⟩, ⟨Rat.divInt 1 1, Rat.divInt 2 1⟩, ⟨Rat.divInt 0 1, Rat.divInt 0 1⟩⟩ = some ⟨Rat.divInt (-1) 1, Rat.divInt 22 1⟩ := by
  kernel_rfl
theorem exAt : LQ.at ⟨Rat.divInt 5 1, Rat.divInt 2 1, Rat.divInt (-3) 1, Rat.divInt 0 1⟩ ⟨Rat.divInt 1 2, Rat.divInt 1 1, Rat.divInt 0 1⟩ = some (Rat.divInt 3 1) := by
  kernel_rfl
theorem exBig : IQ.plus ⟨Rat.divInt 4611686018427387904 1, Rat.divInt 4611686018427387904 1⟩ ⟨Rat.divInt 1 1, Rat.divInt 1 1⟩ = none := by
  kernel_rfl
theorem exPlus : IQ.plus ⟨Rat.divInt 1 1, Rat.divInt 2 1⟩ ⟨Rat.divInt 3 1, Rat.divInt 5 1⟩ = some ⟨Rat.divInt 4 1, Rat.divInt 7 1⟩ := by
  kernel_rfl

set_option maxRecDepth 100000 in
set_option maxHeartbeats 2000000 in
theorem examples_  : Does 9 #[] (.bool true) := by
  intro w
  have W5 := Lib.hid (whole_ 5)
  have W2 := Lib.hid (whole_ 2)
  have Wm3 := Lib.hid (whole_ (-3))
  have W0 := Lib.hid (whole_ 0)
  have W1 := Lib.hid (whole_ 1)
  have W3 := Lib.hid (whole_ 3)
  have S0_10 := Lib.hid (span_ 0 10)
  have S1_2 := Lib.hid (span_ 1 2)
  have S0_0 := Lib.hid (span_ 0 0)
  have Sm1_22 := Lib.hid (span_ (-1) 22)
  have S2_1 := Lib.hid (span_ 2 1)
  have S4611686018427387904_4611686018427387904 := Lib.hid (span_ 4611686018427387904 4611686018427387904)
  have S1_1 := Lib.hid (span_ 1 1)
  have S3_5 := Lib.hid (span_ 3 5)
  have S4_7 := Lib.hid (span_ 4 7)
  have S4_5 := Lib.hid (span_ 4 5)
  have S1_5 := Lib.hid (span_ 1 5)
  have S0_1 := Lib.hid (span_ 0 1)
  have HR := Lib.hid (lranged exL exB (.inl ⟨_, exRange, exI (-1) 22 (by decide) (by decide), rfl⟩))
  have HA := Lib.hid (lat exL exP (.inl ⟨_, exAt, isF_int 3 (by decide), rfl⟩))
  have V1 := Lib.hid (@valid 5 1 2 1 (-3) 1 0 1 (by unfold I64; decide) (by unfold I64; decide) (by unfold I64; decide) (by unfold I64; decide) (by unfold I64; decide) (by unfold I64; decide) (by unfold I64; decide) (by unfold I64; decide))
  have V2 := Lib.hid (@valid 0 0 0 0 0 0 0 0 (by unfold I64; decide) (by unfold I64; decide) (by unfold I64; decide) (by unfold I64; decide) (by unfold I64; decide) (by unfold I64; decide) (by unfold I64; decide) (by unfold I64; decide))
  have V3 := Lib.hid (@validBox 0 1 10 1 1 1 2 1 0 1 0 1 (by unfold I64; decide) (by unfold I64; decide) (by unfold I64; decide) (by unfold I64; decide) (by unfold I64; decide) (by unfold I64; decide) (by unfold I64; decide) (by unfold I64; decide) (by unfold I64; decide) (by unfold I64; decide) (by unfold I64; decide) (by unfold I64; decide))
  have V4 := Lib.hid (@validInterval 2 1 1 1 (by unfold I64; decide) (by unfold I64; decide) (by unfold I64; decide) (by unfold I64; decide))
  rw [show okL 5 1 2 1 (-3) 1 0 1 = true by kernel_rfl] at V1
  rw [show okL 0 0 0 0 0 0 0 0 = false by kernel_rfl] at V2
  rw [show okB 0 1 10 1 1 1 2 1 0 1 0 1 = true by kernel_rfl] at V3
  rw [show okI 2 1 1 1 = false by kernel_rfl] at V4
  have HB := Lib.hid (lplus (exI 4611686018427387904 4611686018427387904 (by decide) (by decide)) (exI 1 1 (by decide) (by decide)) (.inr ⟨exBig, rfl, rfl, rfl, rfl, rfl⟩))
  have HP := Lib.hid (lplus (exI 1 2 (by decide) (by decide)) (exI 3 5 (by decide) (by decide)) (.inl ⟨_, exPlus, exI 4 7 (by decide) (by decide), rfl⟩))
  have HH := Lib.hid (hull (exI 1 2 (by decide) (by decide)) (exI 4 5 (by decide) (by decide)) (show IsI (IQ.hull ⟨Rat.divInt 1 1, Rat.divInt 2 1⟩ ⟨Rat.divInt 4 1, Rat.divInt 5 1⟩) 1 1 5 1 from (show IQ.hull ⟨Rat.divInt 1 1, Rat.divInt 2 1⟩ ⟨Rat.divInt 4 1, Rat.divInt 5 1⟩ = ⟨Rat.divInt 1 1, Rat.divInt 5 1⟩ by kernel_rfl) ▸ exI 1 5 (by decide) (by decide)))
  have HC := Lib.hid ((contains (exI 1 2 (by decide) (by decide)) (isF_int 2 (by decide))).eq (congrArg Value.bool (show IQ.hasB ⟨Rat.divInt 1 1, Rat.divInt 2 1⟩ (Rat.divInt 2 1) = true by kernel_rfl)))
  have HI := Lib.hid ((within (exI 0 1 (by decide) (by decide)) (exI 1 2 (by decide) (by decide))).eq (congrArg Value.bool (show IQ.inB ⟨Rat.divInt 0 1, Rat.divInt 1 1⟩ ⟨Rat.divInt 1 1, Rat.divInt 2 1⟩ = false by kernel_rfl)))
  have HN := Lib.hid ((inside exB exB).eq (congrArg Value.bool (show BQ.inB ⟨⟨Rat.divInt 0 1, Rat.divInt 10 1⟩, ⟨Rat.divInt 1 1, Rat.divInt 2 1⟩, ⟨Rat.divInt 0 1, Rat.divInt 0 1⟩⟩ ⟨⟨Rat.divInt 0 1, Rat.divInt 10 1⟩, ⟨Rat.divInt 1 1, Rat.divInt 2 1⟩, ⟨Rat.divInt 0 1, Rat.divInt 0 1⟩⟩ = true by kernel_rfl)))
  go_enter Try.func9, Try.ntmps9
  go_upto_region 1 with fail
  have B0 := Below.refl w.heap.size w
  refine wp_region_plain_tail 5 ?_
  simp only [List.take_succ_cons, List.take_zero, List.drop_succ_cons, List.drop_zero]
  repeat (go_big_quiet_step (((go_at_call 44; first | with_reducible exact later_of ((W5.out.at _)) | with_reducible exact later_of ((W2.out.at _)) | with_reducible exact later_of ((Wm3.out.at _)) | with_reducible exact later_of ((W0.out.at _))))))
  refine wpQuiet_nil ?_
  intro _ hw'
  obtain ⟨z1, hw''⟩ := hw'
  subst hw''
  have hb2 := z1.below
  have B3 := B0.trans (hb2.mono B0.size)
  have sz4 := hb2.size
  clear B0 hb2
  go_upto_region 2 with fail
  have m5 := BoxL.new z1.val #[.int .i64 5, .int .i64 1, .int .i64 2, .int .i64 1, .int .i64 (-3), .int .i64 1, .int .i64 0, .int .i64 1] 25
  have hb6 := (Below.refl z1.val.heap.size z1.val).alloc (Nat.le_refl _) (.cells #[.int .i64 5, .int .i64 1, .int .i64 2, .int .i64 1, .int .i64 (-3), .int .i64 1, .int .i64 0, .int .i64 1] 25)
  have B8 := B3.trans (hb6.mono B3.size)
  have sz9 := hb6.size
  clear B3 hb6
  generalize z1.val.alloc (.cells #[.int .i64 5, .int .i64 1, .int .i64 2, .int .i64 1, .int .i64 (-3), .int .i64 1, .int .i64 0, .int .i64 1] 25) = W7 at *
  have lt10 := m5.lt
  refine wp_region_plain_tail 4 ?_
  simp only [List.take_succ_cons, List.take_zero, List.drop_succ_cons, List.drop_zero]
  repeat (go_big_quiet_step (((go_at_call 48; first | with_reducible exact later_of ((S0_10.out.at _)) | with_reducible exact later_of ((S1_2.out.at _)) | with_reducible exact later_of ((S0_0.out.at _))))))
  refine wpQuiet_nil ?_
  intro _ hw'
  obtain ⟨z11, hw''⟩ := hw'
  subst hw''
  have hb12 := z11.below
  have m13 := m5.keep hb12
  have B14 := B8.trans (hb12.mono B8.size)
  have sz15 := hb12.size
  clear m5 B8 hb12
  go_upto_region 3 with fail
  have m16 := BoxL.new z11.val #[.int .i64 0, .int .i64 1, .int .i64 10, .int .i64 1, .int .i64 1, .int .i64 1, .int .i64 2, .int .i64 1, .int .i64 0, .int .i64 1, .int .i64 0, .int .i64 1] 29
  have hb17 := (Below.refl z11.val.heap.size z11.val).alloc (Nat.le_refl _) (.cells #[.int .i64 0, .int .i64 1, .int .i64 10, .int .i64 1, .int .i64 1, .int .i64 1, .int .i64 2, .int .i64 1, .int .i64 0, .int .i64 1, .int .i64 0, .int .i64 1] 29)
  have lt19 := m13.lt
  have m20 := m13.keep hb17
  have B21 := B14.trans (hb17.mono B14.size)
  have sz22 := hb17.size
  clear m13 B14 hb17
  generalize z11.val.alloc (.cells #[.int .i64 0, .int .i64 1, .int .i64 10, .int .i64 1, .int .i64 1, .int .i64 1, .int .i64 2, .int .i64 1, .int .i64 0, .int .i64 1, .int .i64 0, .int .i64 1] 29) = W18 at *
  have lt23 := m16.lt
  refine wp_region_free2 (agf := ?fr24) 11 9 10 zrG zrR (by kernel_rfl) [] (by kernel_rfl) (fun d _ _ _ _ h => by cases d <;> exact h) (by decide) (by rfl) (by rfl) (by rfl) (by rfl) ?fr241 ?fr242
  case fr241 =>
    intro W hW
    obtain ⟨c_l0, c_l1, c_l2, c_l3, c_l4, c_l5, c_l6, c_l7⟩ := m20.l8 hW
    obtain ⟨c_b0, c_b1, c_b2, c_b3, c_b4, c_b5, c_b6, c_b7, c_b8, c_b9, c_b10, c_b11⟩ := m16.l12 hW
    simp only [List.take_succ_cons, List.take_zero, ghostL, List.contains_cons, List.contains_nil, Nat.reduceAdd, Nat.reduceBEq, Bool.or_false, Bool.or_true, Bool.true_or, Bool.false_or, Bool.false_eq_true, if_false, if_true, ghostO]
    repeat (go_big_quiet_step (((first | (go_at_call 44; first | with_reducible exact later_of ((W1.out.at _)) | with_reducible exact later_of ((W0.out.at _))) | (go_at_call 24; with_reducible exact later_of ((HR.out.at _))) | (go_at_call 22; with_reducible exact later_of ((HA.out.at _)))))))
    refine wpQuiet_nil ?_
    rfl
  case fr242 =>
    intro b27 b28 W25 hb26 m29 m30 g31 g32 ne33
    simp only [List.drop_succ_cons, List.drop_zero, Act.put, List.setIfInBounds_toArray, List.set_cons_succ, List.set_cons_zero]
    have m34 := m20.keep hb26
    have m35 := m16.keep hb26
    have B36 := B21.trans (hb26.mono B21.size)
    have sz37 := hb26.size
    clear m20 m16 B21 hb26
    have lt38 := m29.lt
    have lt39 := m30.lt
    obtain ⟨c_r0, c_r1, c_r2, c_r3, c_r4⟩ := m29.c5
    obtain ⟨f_r0, f_r1, f_r2, f_r3, f_r4⟩ := m29.f5
    obtain ⟨c_f0, c_f1, c_f2⟩ := m30.c3
    obtain ⟨f_f0, f_f1, f_f2⟩ := m30.f3
    go_upto_region 4 with fail
    clear c_r0 c_r1 c_r2 c_r3 c_r4 f_r0 f_r1 f_r2 f_r3 f_r4
    clear c_f0 c_f1 c_f2 f_f0 f_f1 f_f2
    have m41 := m29.s5 (.int .i64 (-1)) (.int .i64 1) (.int .i64 22) (.int .i64 1) (.int .i64 0)
    have m42 := m34.z5 (b := b27) (by omega) (.int .i64 (-1)) (.int .i64 1) (.int .i64 22) (.int .i64 1) (.int .i64 0)
    have m43 := m35.z5 (b := b27) (by omega) (.int .i64 (-1)) (.int .i64 1) (.int .i64 22) (.int .i64 1) (.int .i64 0)
    have m44 := m30.z5 (b := b27) (by omega) (.int .i64 (-1)) (.int .i64 1) (.int .i64 22) (.int .i64 1) (.int .i64 0)
    have B45 := below_s5 (b := b27) B36 (by omega) (.int .i64 (-1)) (.int .i64 1) (.int .i64 22) (.int .i64 1) (.int .i64 0)
    have lt46 := m41.lt
    generalize (((((W25.setCell ⟨b27, 0, none⟩ (.int .i64 (-1))).setCell ⟨b27, 1, none⟩ (.int .i64 1)).setCell ⟨b27, 2, none⟩ (.int .i64 22)).setCell ⟨b27, 3, none⟩ (.int .i64 1)).setCell ⟨b27, 4, none⟩ (.int .i64 0)) = W40 at *
    clear m29 m34 m35 m30 B36
    have m48 := m44.s3 (.int .i64 3) (.int .i64 1) (.int .i64 0)
    have m49 := m42.z3 (b := b28) (by omega) (.int .i64 3) (.int .i64 1) (.int .i64 0)
    have m50 := m43.z3 (b := b28) (by omega) (.int .i64 3) (.int .i64 1) (.int .i64 0)
    have m51 := m41.z3 (b := b28) (by omega) (.int .i64 3) (.int .i64 1) (.int .i64 0)
    have B52 := below_s3 (b := b28) B45 (by omega) (.int .i64 3) (.int .i64 1) (.int .i64 0)
    have lt53 := m48.lt
    generalize (((W40.setCell ⟨b28, 0, none⟩ (.int .i64 3)).setCell ⟨b28, 1, none⟩ (.int .i64 1)).setCell ⟨b28, 2, none⟩ (.int .i64 0)) = W47 at *
    clear m44 m42 m43 m41 B45
    obtain ⟨c_r0, c_r1, c_r2, c_r3, c_r4⟩ := m51.l5 (Below.refl _ _)
    obtain ⟨c_f0, c_f1, c_f2⟩ := m48.l3 (Below.refl _ _)
    obtain ⟨c_l0, c_l1, c_l2, c_l3, c_l4, c_l5, c_l6, c_l7⟩ := m49.l8 (Below.refl _ _)
    obtain ⟨c_b0, c_b1, c_b2, c_b3, c_b4, c_b5, c_b6, c_b7, c_b8, c_b9, c_b10, c_b11⟩ := m50.l12 (Below.refl _ _)
    refine wp_region_later (by kernel_rfl) (by kernel_rfl) ?_
    repeat (go_big_quiet_step (((first | (go_at_call 48; first | with_reducible exact later_of ((Sm1_22.out.at _)) | with_reducible exact later_of ((S2_1.out.at _))) | (go_at_call 44; with_reducible exact later_of ((W3.out.at _))) | (go_at_call 10; first | with_reducible exact later_of ((V1.out.at _)) | with_reducible exact later_of ((V2.out.at _))) | (go_at_call 12; with_reducible exact later_of ((V3.out.at _))) | (go_at_call 14; with_reducible exact later_of ((V4.out.at _)))))))
    refine wpQuiet_nil ?_
    intro _ hw'
    obtain ⟨z54, hw''⟩ := hw'
    subst hw''
    clear c_r0 c_r1 c_r2 c_r3 c_r4
    clear c_f0 c_f1 c_f2
    clear c_l0 c_l1 c_l2 c_l3 c_l4 c_l5 c_l6 c_l7
    clear c_b0 c_b1 c_b2 c_b3 c_b4 c_b5 c_b6 c_b7 c_b8 c_b9 c_b10 c_b11
    have hb55 := z54.below
    have m56 := m49.keep hb55
    have m57 := m50.keep hb55
    have m58 := m51.keep hb55
    have m59 := m48.keep hb55
    have B60 := B52.trans (hb55.mono B52.size)
    have sz61 := hb55.size
    clear m49 m50 m51 m48 B52 hb55
    go_upto_region 6 with fail
    refine wp_region_plain_tail 3 ?_
    simp only [List.take_succ_cons, List.take_zero, List.drop_succ_cons, List.drop_zero]
    repeat (go_big_quiet_step (((first | (go_at_call 48; first | with_reducible exact later_of ((S4611686018427387904_4611686018427387904.out.at _)) | with_reducible exact later_of ((S1_1.out.at _))) | (go_at_call 30; with_reducible exact later_of ((HB.out.at _)))))))
    refine wpQuiet_nil ?_
    intro _ hw'
    obtain ⟨z62, hw''⟩ := hw'
    subst hw''
    have hb63 := z62.below
    have m64 := m56.keep hb63
    have m65 := m57.keep hb63
    have m66 := m58.keep hb63
    have m67 := m59.keep hb63
    have B68 := B60.trans (hb63.mono B60.size)
    have sz69 := hb63.size
    clear m56 m57 m58 m59 B60 hb63
    go_upto_region 7 with fail
    have m70 := BoxL.new z62.val #[.int .i64 0, .int .i64 0, .int .i64 0, .int .i64 0, .int .i64 2] 54
    have hb71 := (Below.refl z62.val.heap.size z62.val).alloc (Nat.le_refl _) (.cells #[.int .i64 0, .int .i64 0, .int .i64 0, .int .i64 0, .int .i64 2] 54)
    have lt73 := m64.lt
    have lt74 := m65.lt
    have lt75 := m66.lt
    have lt76 := m67.lt
    have m77 := m64.keep hb71
    have m78 := m65.keep hb71
    have m79 := m66.keep hb71
    have m80 := m67.keep hb71
    have B81 := B68.trans (hb71.mono B68.size)
    have sz82 := hb71.size
    clear m64 m65 m66 m67 B68 hb71
    generalize z62.val.alloc (.cells #[.int .i64 0, .int .i64 0, .int .i64 0, .int .i64 0, .int .i64 2] 54) = W72 at *
    have lt83 := m70.lt
    obtain ⟨c_g0, c_g1, c_g2, c_g3, c_g4⟩ := m70.l5 (Below.refl _ _)
    obtain ⟨c_b0, c_b1, c_b2, c_b3, c_b4, c_b5, c_b6, c_b7, c_b8, c_b9, c_b10, c_b11⟩ := m78.l12 (Below.refl _ _)
    refine wp_region_plain ?_
    repeat (go_big_quiet_step (((first | (go_at_call 48; first | with_reducible exact later_of ((S1_2.out.at _)) | with_reducible exact later_of ((S3_5.out.at _)) | with_reducible exact later_of ((S4_7.out.at _)) | with_reducible exact later_of ((S4_5.out.at _)) | with_reducible exact later_of ((S1_5.out.at _)) | with_reducible exact later_of ((S0_1.out.at _))) | (go_at_call 44; with_reducible exact later_of ((W2.out.at _))) | (go_at_call 30; with_reducible exact later_of ((HP.out.at _))) | (go_at_call 32; with_reducible exact later_of ((HH.out.at _))) | (go_at_call 34; with_reducible exact later_of ((HC.out.at _))) | (go_at_call 36; with_reducible exact later_of ((HI.out.at _))) | (go_at_call 38; with_reducible exact later_of ((HN.out.at _)))))))
    refine wpQuiet_nil ?_
    intro _ hw'
    obtain ⟨z84, hw''⟩ := hw'
    subst hw''
    clear c_g0 c_g1 c_g2 c_g3 c_g4
    clear c_b0 c_b1 c_b2 c_b3 c_b4 c_b5 c_b6 c_b7 c_b8 c_b9 c_b10 c_b11
    have hb85 := z84.below
    have m86 := m77.keep hb85
    have m87 := m78.keep hb85
    have m88 := m79.keep hb85
    have m89 := m80.keep hb85
    have m90 := m70.keep hb85
    have B91 := B81.trans (hb85.mono B81.size)
    have sz92 := hb85.size
    clear m77 m78 m79 m80 m70 B81 hb85
    go_wp2_with fail
    go_ret
    exact ⟨rfl, B91⟩

end Fr
end Go.Proofs.Ytojkaaglmdfcnaa

namespace Go.Proofs.Ytojkaaglmdfcnaa
open Go.RowKit Go.Shelf
namespace Fr
set_option linter.unusedVariables false
set_option linter.unusedSimpArgs false


theorem intQ_gr (l : List Int) (k : Nat) : (intQ l k).Gr 60 1200 := ⟨gr_min (gr_qf _ _) (gr_qf _ _), gr_max (gr_qf _ _) (gr_qf _ _)⟩
theorem intQ_le (l : List Int) (k : Nat) : (intQ l k).lo ≤ (intQ l k).hi := rmin_max _ _
theorem linQ_gr (l : List Int) : (linQ l).Gr 60 1200 := ⟨gr_qf _ _, gr_qf _ _, gr_qf _ _, gr_qf _ _⟩
theorem boxQ_gr (l : List Int) : (boxQ l).Gr 60 1200 := ⟨intQ_gr _ _, intQ_gr _ _, intQ_gr _ _⟩
theorem boxQ_ok (l : List Int) : (boxQ l).Ok := ⟨intQ_le _ _, intQ_le _ _, intQ_le _ _⟩
theorem isI_of {D M : Nat} {i : IQ} (h : i.Gr D M) (h0 : 0 < D) (h1 : D ≤ 4611686018427387904) (h2 : M ≤ 4611686018427387904) : ∃ a0 a1 a2 a3, IsI i a0 a1 a2 a3 := by
  obtain ⟨a0, a1, x⟩ := h.1.isF h0 h1 h2
  obtain ⟨a2, a3, y⟩ := h.2.isF h0 h1 h2
  exact ⟨a0, a1, a2, a3, x, y⟩
theorem isL_of {D M : Nat} {l : LQ} (h : l.Gr D M) (h0 : 0 < D) (h1 : D ≤ 4611686018427387904) (h2 : M ≤ 4611686018427387904) : ∃ a0 a1 a2 a3 a4 a5 a6 a7, IsL l a0 a1 a2 a3 a4 a5 a6 a7 := by
  obtain ⟨a0, a1, x⟩ := h.1.isF h0 h1 h2
  obtain ⟨a2, a3, y⟩ := h.2.1.isF h0 h1 h2
  obtain ⟨a4, a5, z⟩ := h.2.2.1.isF h0 h1 h2
  obtain ⟨a6, a7, u⟩ := h.2.2.2.isF h0 h1 h2
  exact ⟨a0, a1, a2, a3, a4, a5, a6, a7, x, y, z, u⟩
theorem isBx_of {D M : Nat} {b : BQ} (h : b.Gr D M) (h0 : 0 < D) (h1 : D ≤ 4611686018427387904) (h2 : M ≤ 4611686018427387904) : ∃ a0 a1 a2 a3 a4 a5 a6 a7 a8 a9 a10 a11, IsBx b a0 a1 a2 a3 a4 a5 a6 a7 a8 a9 a10 a11 := by
  obtain ⟨a0, a1, a2, a3, x⟩ := isI_of h.1 h0 h1 h2
  obtain ⟨a4, a5, a6, a7, y⟩ := isI_of h.2.1 h0 h1 h2
  obtain ⟨a8, a9, a10, a11, z⟩ := isI_of h.2.2 h0 h1 h2
  exact ⟨a0, a1, a2, a3, a4, a5, a6, a7, a8, a9, a10, a11, x, y, z⟩
theorem isP_of {D M : Nat} {p : PQ} (h : p.Gr D M) (h0 : 0 < D) (h1 : D ≤ 4611686018427387904) (h2 : M ≤ 4611686018427387904) : ∃ a0 a1 a2 a3 a4 a5, IsP p a0 a1 a2 a3 a4 a5 := by
  obtain ⟨a0, a1, x⟩ := h.1.isF h0 h1 h2
  obtain ⟨a2, a3, y⟩ := h.2.1.isF h0 h1 h2
  obtain ⟨a4, a5, z⟩ := h.2.2.isF h0 h1 h2
  exact ⟨a0, a1, a2, a3, a4, a5, x, y, z⟩
theorem gr_sub {D M N : Nat} {q r : Rat} (h : Gr D M q) (h' : Gr D N r) : Gr D (M + N) (q - r) := by
  have := h.add h'.neg
  rwa [show q + -r = q - r by grind] at this
theorem gr_eighth (k : Nat) : Gr 8 8 (Rat.divInt ((k % 9 : Nat) : Int) 8) := by
  refine ⟨((k % 9 : Nat) : Int), ?_, by omega⟩
  have := eighth k
  have e : ((8 : Nat) : Rat) = 8 := rfl
  rw [e, this]
  rfl
theorem short_of {i : IQ} (h : i.Gr 60 1200) : i.Short :=
  ⟨(gr_sub h.2 h.1).fit (by decide) (by decide) (by decide), fun k => ((gr_sub h.2 h.1).mul (gr_eighth k)).fit (by decide) (by decide) (by decide)⟩
theorem ptQ_gr {b : BQ} (h : b.Gr 60 1200) (k0 k1 k2 : Nat) : (ptQ b k0 k1 k2).Gr 480 9600 := ⟨gr_betw h.1 _, gr_betw h.2.1 _, gr_betw h.2.2 _⟩
theorem ptQ_in {b : BQ} (h : b.Ok) (k0 k1 k2 : Nat) : b.Has (ptQ b k0 k1 k2) := ⟨betw_in h.1 _, betw_in h.2.1 _, betw_in h.2.2 _⟩
theorem hasB_true {i : IQ} {q : Rat} (h : i.lo ≤ q) (h' : q ≤ i.hi) : i.hasB q = true := by simp [IQ.hasB, h, h']
theorem inB_iff (i j : IQ) (h : i.lo ≤ i.hi) : i.inB j = true ↔ j.lo ≤ i.lo ∧ i.hi ≤ j.hi := by
  simp only [IQ.inB, IQ.hasB, Bool.and_eq_true, decide_eq_true_eq]
  constructor
  · rintro ⟨⟨a, b⟩, c, d⟩; exact ⟨a, d⟩
  · rintro ⟨a, d⟩; exact ⟨⟨a, by grind⟩, by grind, d⟩
theorem hull_gr {D M : Nat} {i j : IQ} (h : i.Gr D M) (h' : j.Gr D M) : (i.hull j).Gr D M := ⟨gr_min h.1 h'.1, gr_max h.2 h'.2⟩
theorem hull_le {i j : IQ} (h : i.lo ≤ i.hi) : (i.hull j).lo ≤ (i.hull j).hi := by
  have := rmin_le i.lo j.lo; have := le_rmax i.hi j.hi; simp only [IQ.hull]; grind
theorem hull_has {i j : IQ} (h : i.lo ≤ i.hi) (h' : j.lo ≤ j.hi) : i.inB (i.hull j) = true ∧ j.inB (i.hull j) = true := by
  have h1 := rmin_le i.lo j.lo; have h2 := le_rmax i.hi j.hi
  exact ⟨(inB_iff _ _ h).2 ⟨h1.1, h2.1⟩, (inB_iff _ _ h').2 ⟨h1.2, h2.2⟩⟩
theorem hull_in {i j c : IQ} (h : i.lo ≤ i.hi) (h' : j.lo ≤ j.hi) : (i.inB c && j.inB c) = (i.hull j).inB c := by
  rw [Bool.eq_iff_iff, Bool.and_eq_true, inB_iff _ _ h, inB_iff _ _ h', inB_iff _ _ (hull_le h)]
  simp only [IQ.hull]
  unfold rmin rmax
  constructor
  · rintro ⟨⟨a, b⟩, d, e⟩; constructor <;> split <;> assumption
  · rintro ⟨a, b⟩
    split at a <;> split at b <;> refine ⟨⟨?_, ?_⟩, ?_, ?_⟩ <;> grind
theorem plus_small {i j : IQ} (h : i.Gr 60 1200) (h' : j.Gr 60 1200) : i.plus j = some ⟨i.lo + j.lo, i.hi + j.hi⟩ := by
  unfold IQ.plus
  rw [if_pos ⟨(h.1.add h'.1).fit (by decide) (by decide) (by decide), (h.2.add h'.2).fit (by decide) (by decide) (by decide)⟩]
theorem okB_le {i : IQ} {a0 a1 a2 a3 : Int} (h : IsI i a0 a1 a2 a3) (hl : i.lo ≤ i.hi) : okI a0 a1 a2 a3 = true := by rw [okI_of h]; simpa using hl
theorem i64_f {q : Rat} {n d : Int} (h : IsF q n d) : I64 n ∧ I64 d := by have h1 := h.n62; have h2 := h.d62; unfold I62 at *; unfold I64; omega

set_option maxRecDepth 100000 in
set_option maxHeartbeats 2000000 in
theorem intervals_walk {w : World} {A : Option Addr} {n c : Nat} {l : List Int} (hA : Sl.Arr w A (l.map fun x => .int .u8 x)) (hn : l.length = n) (hl : Bytes l) (hs : n < 9223372036854775808) (k0 k1 : Nat) (g0 : k0 ≤ 255) (g1 : k1 ≤ 255) : DoesIn w 8 #[.slice A n c, .agg #[.int .u8 (k0 : Int), .int .u8 (k1 : Int)]] (.bool true) := by
  obtain ⟨a0, a1, a2, a3, hi⟩ := isI_of (intQ_gr l 0) (by decide) (by decide) (by decide)
  have Ti := Lib.hid (rinterval_0 (c := c) hA hn hl hs hi)
  obtain ⟨b0, b1, b2, b3, hj⟩ := isI_of (intQ_gr l 4) (by decide) (by decide) (by decide)
  have Tj := Lib.hid (rinterval_4 (c := c) hA hn hl hs hj)
  obtain ⟨d0, d1, d2, d3, hc⟩ := isI_of (intQ_gr l 8) (by decide) (by decide) (by decide)
  have Tc := Lib.hid (rinterval_8 (c := c) hA hn hl hs hc)
  obtain ⟨i, ei⟩ : ∃ i, intQ l 0 = i := ⟨_, rfl⟩
  obtain ⟨j, ej⟩ : ∃ i, intQ l 4 = i := ⟨_, rfl⟩
  obtain ⟨ic, ec⟩ : ∃ i, intQ l 8 = i := ⟨_, rfl⟩
  have gi : i.Gr 60 1200 := ei ▸ intQ_gr l 0
  have gj : j.Gr 60 1200 := ej ▸ intQ_gr l 4
  have gc : ic.Gr 60 1200 := ec ▸ intQ_gr l 8
  have li : i.lo ≤ i.hi := ei ▸ intQ_le l 0
  have lj : j.lo ≤ j.hi := ej ▸ intQ_le l 4
  have lc : ic.lo ≤ ic.hi := ec ▸ intQ_le l 8
  rw [ei] at hi
  rw [ej] at hj
  rw [ec] at hc
  clear ei ej ec hA hn hl hs
  have gp := ptQ_gr (b := ⟨i, j, ic⟩) ⟨gi, gj, gc⟩ k0 k1 0
  have bp := ptQ_in (b := ⟨i, j, ic⟩) ⟨li, lj, lc⟩ k0 k1 0
  obtain ⟨p0, p1, p2, p3, p4, p5, hp⟩ := isP_of gp (by decide) (by decide) (by decide)
  have TP := Lib.hid (point_ (b := ⟨i, j, ic⟩) ⟨hi, hj, hc⟩ (short_of gi) (short_of gj) (short_of gc) k0 k1 0 g0 g1 (by decide) hp)
  have es := plus_small gi gj
  have gs : IQ.Gr 60 2400 ⟨i.lo + j.lo, i.hi + j.hi⟩ := ⟨gi.1.add gj.1, gi.2.add gj.2⟩
  obtain ⟨s0, s1, s2, s3, hs⟩ := isI_of gs (by decide) (by decide) (by decide)
  have TS := Lib.hid (lplus hi hj (.inl ⟨_, es, hs, rfl⟩))
  have gu := gp.1.add gp.2.1
  obtain ⟨u0, u1, hu⟩ := gu.isF (by decide) (by decide) (by decide)
  have TU := Lib.hid (fadd hp.x hp.y (resF_fit hu))
  have gh := hull_gr gi gj
  obtain ⟨h0, h1, h2, h3, hh⟩ := isI_of gh (by decide) (by decide) (by decide)
  have TH := Lib.hid (hull hi hj hh)
  have ls : i.lo + j.lo ≤ i.hi + j.hi := by grind
  have lh := hull_le (i := i) (j := j) li
  have VS := Lib.hid ((rvalidInterval (i64_f hs.lo).1 (i64_f hs.lo).2 (i64_f hs.hi).1 (i64_f hs.hi).2).eq (congrArg Value.bool (okB_le hs ls)))
  have VH := Lib.hid ((rvalidInterval (i64_f hh.lo).1 (i64_f hh.lo).2 (i64_f hh.hi).1 (i64_f hh.hi).2).eq (congrArg Value.bool (okB_le hh lh)))
  have PH := Lib.hid ((validInterval (i64_f hh.lo).1 (i64_f hh.lo).2 (i64_f hh.hi).1 (i64_f hh.hi).2).eq (congrArg Value.bool (okB_le hh lh)))
  have CS := Lib.hid ((contains hs hu).eq (congrArg Value.bool (hasB_true (by have := bp.1.1; have := bp.2.1.1; simp only at *; grind) (by have := bp.1.2; have := bp.2.1.2; simp only at *; grind))))
  have CI := Lib.hid ((contains hi hp.x).eq (congrArg Value.bool (hasB_true bp.1.1 bp.1.2)))
  have WI := Lib.hid ((within hi hh).eq (congrArg Value.bool (hull_has li lj).1))
  have WJ := Lib.hid ((within hj hh).eq (congrArg Value.bool (hull_has li lj).2))
  have eq := hull_in (c := ic) li lj
  have W1 := within hi hc
  have W2 := within hj hc
  have W3 := within hh hc
  generalize i.inB ic = u at *
  generalize j.inB ic = v at *
  generalize (i.hull j).inB ic = x at *
  subst eq
  have W1 := Lib.hid W1
  have W2 := Lib.hid W2
  have W3 := Lib.hid W3
  have EX := Lib.hid examples_
  clear g0 g1 gi gj gc li lj lc hi hj hc gp bp hp es gs hs gu hu gh hh ls lh
  intro W0 HB0
  have Ti := Lib.hid (Ti.out.mono HB0)
  have Tj := Lib.hid (Tj.out.mono HB0)
  have Tc := Lib.hid (Tc.out.mono HB0)
  clear HB0
  go_enter Try.func8, Try.ntmps8
  go_upto_region 1 with fail
  have hst := start1 W0 (#[.int .u8 (k0 : Int), .int .u8 (k1 : Int)]) 72
  generalize (W0.alloc (.cells #[.int .u8 (k0 : Int), .int .u8 (k1 : Int)] 72)) = W3 at *
  obtain ⟨m1, B2⟩ := hst
  have lt4 := m1.lt
  go_wp2_with fail
  refine (EX.out.at _).mono ?_
  rintro o W5 ⟨rfl, hb6⟩
  have m7 := m1.keep hb6
  have B8 := B2.trans (hb6.mono B2.size)
  have sz9 := hb6.size
  clear m1 B2 hb6
  go_upto_region 4 with fail
  refine wp_region_plain_tail 6 ?_
  simp only [List.take_succ_cons, List.take_zero, List.drop_succ_cons, List.drop_zero]
  have G11 := Lib.hid (fun p => DoesIn.later Ti.out B8 p)
  have G12 := Lib.hid (fun p => DoesIn.later Tj.out B8 p)
  have G13 := Lib.hid (fun p => DoesIn.later Tc.out B8 p)
  repeat (go_big_quiet_step (((go_at_call 47; first | with_reducible exact later_of ((G11.out _)) | with_reducible exact later_of ((G12.out _)) | with_reducible exact later_of ((G13.out _))))))
  refine wpQuiet_nil ?_
  intro _ hw'
  obtain ⟨z10, hw''⟩ := hw'
  subst hw''
  clear G11 G12 G13
  have hb14 := z10.below
  have m15 := m7.keep hb14
  have B16 := B8.trans (hb14.mono B8.size)
  have sz17 := hb14.size
  clear m7 B8 hb14
  go_upto_region 5 with fail
  have lt23 := m15.lt
  obtain ⟨m20, m21, m22, hb19⟩ := start3 z10.val (#[.int .i64 a0, .int .i64 a1, .int .i64 a2, .int .i64 a3]) (#[.int .i64 b0, .int .i64 b1, .int .i64 b2, .int .i64 b3]) (#[.int .i64 d0, .int .i64 d1, .int .i64 d2, .int .i64 d3]) 27 27 27
  have m24 := m15.keep hb19
  have B25 := B16.trans (hb19.mono B16.size)
  have sz26 := hb19.size
  clear m15 B16 hb19
  generalize (((z10.val.alloc (.cells #[.int .i64 a0, .int .i64 a1, .int .i64 a2, .int .i64 a3] 27)).alloc (.cells #[.int .i64 b0, .int .i64 b1, .int .i64 b2, .int .i64 b3] 27)).alloc (.cells #[.int .i64 d0, .int .i64 d1, .int .i64 d2, .int .i64 d3] 27)) = W18 at *
  have lt27 := m20.lt
  have lt28 := m21.lt
  have lt29 := m22.lt
  obtain ⟨c_i0, c_i1, c_i2, c_i3⟩ := m20.l4 (Below.refl _ _)
  obtain ⟨c_j0, c_j1, c_j2, c_j3⟩ := m21.l4 (Below.refl _ _)
  obtain ⟨c_c0, c_c1, c_c2, c_c3⟩ := m22.l4 (Below.refl _ _)
  obtain ⟨c_k0, c_k1⟩ := m24.l2 (Below.refl _ _)
  refine wp_region_plain_tail 10 ?_
  simp only [List.take_succ_cons, List.take_zero, List.drop_succ_cons, List.drop_zero]
  repeat (go_big_quiet_step (((go_at_call 40; with_reducible exact later_of ((TP.out.at _))))))
  refine wpQuiet_nil ?_
  intro _ hw'
  obtain ⟨z30, hw''⟩ := hw'
  subst hw''
  clear c_i0 c_i1 c_i2 c_i3
  clear c_j0 c_j1 c_j2 c_j3
  clear c_c0 c_c1 c_c2 c_c3
  clear c_k0 c_k1
  have hb31 := z30.below
  have m32 := m24.keep hb31
  have m33 := m20.keep hb31
  have m34 := m21.keep hb31
  have m35 := m22.keep hb31
  have B36 := B25.trans (hb31.mono B25.size)
  have sz37 := hb31.size
  clear m24 m20 m21 m22 B25 hb31
  go_upto_region 6 with fail
  have m38 := BoxL.new z30.val #[.int .i64 p0, .int .i64 p1, .int .i64 p2, .int .i64 p3, .int .i64 p4, .int .i64 p5] 31
  have hb39 := (Below.refl z30.val.heap.size z30.val).alloc (Nat.le_refl _) (.cells #[.int .i64 p0, .int .i64 p1, .int .i64 p2, .int .i64 p3, .int .i64 p4, .int .i64 p5] 31)
  have lt41 := m32.lt
  have lt42 := m33.lt
  have lt43 := m34.lt
  have lt44 := m35.lt
  have m45 := m32.keep hb39
  have m46 := m33.keep hb39
  have m47 := m34.keep hb39
  have m48 := m35.keep hb39
  have B49 := B36.trans (hb39.mono B36.size)
  have sz50 := hb39.size
  clear m32 m33 m34 m35 B36 hb39
  generalize z30.val.alloc (.cells #[.int .i64 p0, .int .i64 p1, .int .i64 p2, .int .i64 p3, .int .i64 p4, .int .i64 p5] 31) = W40 at *
  have lt51 := m38.lt
  obtain ⟨c_i0, c_i1, c_i2, c_i3⟩ := m46.l4 (Below.refl _ _)
  obtain ⟨c_j0, c_j1, c_j2, c_j3⟩ := m47.l4 (Below.refl _ _)
  refine wp_region_plain_tail 3 ?_
  simp only [List.take_succ_cons, List.take_zero, List.drop_succ_cons, List.drop_zero]
  repeat (go_big_quiet_step (((go_at_call 30; with_reducible exact later_of ((TS.out.at _))))))
  refine wpQuiet_nil ?_
  intro _ hw'
  obtain ⟨z52, hw''⟩ := hw'
  subst hw''
  clear c_i0 c_i1 c_i2 c_i3
  clear c_j0 c_j1 c_j2 c_j3
  have hb53 := z52.below
  have m54 := m45.keep hb53
  have m55 := m46.keep hb53
  have m56 := m47.keep hb53
  have m57 := m48.keep hb53
  have m58 := m38.keep hb53
  have B59 := B49.trans (hb53.mono B49.size)
  have sz60 := hb53.size
  clear m45 m46 m47 m48 m38 B49 hb53
  go_upto_region 7 with fail
  have m61 := BoxL.new z52.val #[.int .i64 s0, .int .i64 s1, .int .i64 s2, .int .i64 s3, .int .i64 0] 54
  have hb62 := (Below.refl z52.val.heap.size z52.val).alloc (Nat.le_refl _) (.cells #[.int .i64 s0, .int .i64 s1, .int .i64 s2, .int .i64 s3, .int .i64 0] 54)
  have lt64 := m54.lt
  have lt65 := m55.lt
  have lt66 := m56.lt
  have lt67 := m57.lt
  have lt68 := m58.lt
  have m69 := m54.keep hb62
  have m70 := m55.keep hb62
  have m71 := m56.keep hb62
  have m72 := m57.keep hb62
  have m73 := m58.keep hb62
  have B74 := B59.trans (hb62.mono B59.size)
  have sz75 := hb62.size
  clear m54 m55 m56 m57 m58 B59 hb62
  generalize z52.val.alloc (.cells #[.int .i64 s0, .int .i64 s1, .int .i64 s2, .int .i64 s3, .int .i64 0] 54) = W63 at *
  have lt76 := m61.lt
  obtain ⟨c_p0, c_p1, c_p2, c_p3, c_p4, c_p5⟩ := m73.l6 (Below.refl _ _)
  refine wp_region_plain_tail 8 ?_
  simp only [List.take_succ_cons, List.take_zero, List.drop_succ_cons, List.drop_zero]
  repeat (go_big_quiet_step (((go_at_call 42; with_reducible exact later_of ((TU.out.at _))))))
  refine wpQuiet_nil ?_
  intro _ hw'
  obtain ⟨z77, hw''⟩ := hw'
  subst hw''
  clear c_p0 c_p1 c_p2 c_p3 c_p4 c_p5
  have hb78 := z77.below
  have m79 := m69.keep hb78
  have m80 := m70.keep hb78
  have m81 := m71.keep hb78
  have m82 := m72.keep hb78
  have m83 := m73.keep hb78
  have m84 := m61.keep hb78
  have B85 := B74.trans (hb78.mono B74.size)
  have sz86 := hb78.size
  clear m69 m70 m71 m72 m73 m61 B74 hb78
  go_upto_region 8 with fail
  have m87 := BoxL.new z77.val #[.int .i64 u0, .int .i64 u1] 23
  have hb88 := (Below.refl z77.val.heap.size z77.val).alloc (Nat.le_refl _) (.cells #[.int .i64 u0, .int .i64 u1] 23)
  have lt90 := m79.lt
  have lt91 := m80.lt
  have lt92 := m81.lt
  have lt93 := m82.lt
  have lt94 := m83.lt
  have lt95 := m84.lt
  have m96 := m79.keep hb88
  have m97 := m80.keep hb88
  have m98 := m81.keep hb88
  have m99 := m82.keep hb88
  have m100 := m83.keep hb88
  have m101 := m84.keep hb88
  have B102 := B85.trans (hb88.mono B85.size)
  have sz103 := hb88.size
  clear m79 m80 m81 m82 m83 m84 B85 hb88
  generalize z77.val.alloc (.cells #[.int .i64 u0, .int .i64 u1] 23) = W89 at *
  have lt104 := m87.lt
  obtain ⟨c_i0, c_i1, c_i2, c_i3⟩ := m97.l4 (Below.refl _ _)
  obtain ⟨c_j0, c_j1, c_j2, c_j3⟩ := m98.l4 (Below.refl _ _)
  refine wp_region_plain_tail 3 ?_
  simp only [List.take_succ_cons, List.take_zero, List.drop_succ_cons, List.drop_zero]
  repeat (go_big_quiet_step (((go_at_call 32; with_reducible exact later_of ((TH.out.at _))))))
  refine wpQuiet_nil ?_
  intro _ hw'
  obtain ⟨z105, hw''⟩ := hw'
  subst hw''
  clear c_i0 c_i1 c_i2 c_i3
  clear c_j0 c_j1 c_j2 c_j3
  have hb106 := z105.below
  have m107 := m96.keep hb106
  have m108 := m97.keep hb106
  have m109 := m98.keep hb106
  have m110 := m99.keep hb106
  have m111 := m100.keep hb106
  have m112 := m101.keep hb106
  have m113 := m87.keep hb106
  have B114 := B102.trans (hb106.mono B102.size)
  have sz115 := hb106.size
  clear m96 m97 m98 m99 m100 m101 m87 B102 hb106
  go_upto_region 9 with fail
  have m116 := BoxL.new z105.val #[.int .i64 h0, .int .i64 h1, .int .i64 h2, .int .i64 h3] 27
  have hb117 := (Below.refl z105.val.heap.size z105.val).alloc (Nat.le_refl _) (.cells #[.int .i64 h0, .int .i64 h1, .int .i64 h2, .int .i64 h3] 27)
  have lt119 := m107.lt
  have lt120 := m108.lt
  have lt121 := m109.lt
  have lt122 := m110.lt
  have lt123 := m111.lt
  have lt124 := m112.lt
  have lt125 := m113.lt
  have m126 := m107.keep hb117
  have m127 := m108.keep hb117
  have m128 := m109.keep hb117
  have m129 := m110.keep hb117
  have m130 := m111.keep hb117
  have m131 := m112.keep hb117
  have m132 := m113.keep hb117
  have B133 := B114.trans (hb117.mono B114.size)
  have sz134 := hb117.size
  clear m107 m108 m109 m110 m111 m112 m113 B114 hb117
  generalize z105.val.alloc (.cells #[.int .i64 h0, .int .i64 h1, .int .i64 h2, .int .i64 h3] 27) = W118 at *
  have lt135 := m116.lt
  obtain ⟨c_s0, c_s1, c_s2, c_s3, c_s4⟩ := m131.l5 (Below.refl _ _)
  obtain ⟨c_h0, c_h1, c_h2, c_h3⟩ := m116.l4 (Below.refl _ _)
  obtain ⟨c_u0, c_u1⟩ := m132.l2 (Below.refl _ _)
  obtain ⟨c_i0, c_i1, c_i2, c_i3⟩ := m127.l4 (Below.refl _ _)
  obtain ⟨c_p0, c_p1, c_p2, c_p3, c_p4, c_p5⟩ := m130.l6 (Below.refl _ _)
  refine wp_region_plain ?_
  repeat (go_big_quiet_step (((first | (go_at_call 15; first | with_reducible exact later_of ((VS.out.at _)) | with_reducible exact later_of ((VH.out.at _))) | (go_at_call 34; first | with_reducible exact later_of ((CS.out.at _)) | with_reducible exact later_of ((CI.out.at _)))))))
  refine wpQuiet_nil ?_
  intro _ hw'
  obtain ⟨z136, hw''⟩ := hw'
  subst hw''
  clear c_s0 c_s1 c_s2 c_s3 c_s4
  clear c_h0 c_h1 c_h2 c_h3
  clear c_u0 c_u1
  clear c_i0 c_i1 c_i2 c_i3
  clear c_p0 c_p1 c_p2 c_p3 c_p4 c_p5
  have hb137 := z136.below
  have m138 := m126.keep hb137
  have m139 := m127.keep hb137
  have m140 := m128.keep hb137
  have m141 := m129.keep hb137
  have m142 := m130.keep hb137
  have m143 := m131.keep hb137
  have m144 := m132.keep hb137
  have m145 := m116.keep hb137
  have B146 := B133.trans (hb137.mono B133.size)
  have sz147 := hb137.size
  clear m126 m127 m128 m129 m130 m131 m132 m116 B133 hb137
  go_upto_region 11 with fail
  cases u <;> cases v
  all_goals
    obtain ⟨c_h0, c_h1, c_h2, c_h3⟩ := m145.l4 (Below.refl _ _)
    obtain ⟨c_i0, c_i1, c_i2, c_i3⟩ := m139.l4 (Below.refl _ _)
    obtain ⟨c_j0, c_j1, c_j2, c_j3⟩ := m140.l4 (Below.refl _ _)
    obtain ⟨c_c0, c_c1, c_c2, c_c3⟩ := m141.l4 (Below.refl _ _)
    refine wp_region_later (by kernel_rfl) (by kernel_rfl) ?_
    repeat (go_big_quiet_step (((first | (go_at_call 14; with_reducible exact later_of ((PH.out.at _))) | (go_at_call 36; first | with_reducible exact later_of ((WI.out.at _)) | with_reducible exact later_of ((WJ.out.at _)) | with_reducible exact later_of ((W1.out.at _)) | with_reducible exact later_of ((W2.out.at _)) | with_reducible exact later_of ((W3.out.at _)))))))
    refine wpQuiet_nil ?_
    intro _ hw'
    obtain ⟨z148, hw''⟩ := hw'
    subst hw''
    clear c_h0 c_h1 c_h2 c_h3
    clear c_i0 c_i1 c_i2 c_i3
    clear c_j0 c_j1 c_j2 c_j3
    clear c_c0 c_c1 c_c2 c_c3
    have hb149 := z148.below
    have m150 := m138.keep hb149
    have m151 := m139.keep hb149
    have m152 := m140.keep hb149
    have m153 := m141.keep hb149
    have m154 := m142.keep hb149
    have m155 := m143.keep hb149
    have m156 := m144.keep hb149
    have m157 := m145.keep hb149
    have B158 := B146.trans (hb149.mono B146.size)
    have sz159 := hb149.size
    clear m138 m139 m140 m141 m142 m143 m144 m145 B146 hb149
    go_wp2_with fail
    go_ret
    exact ⟨rfl, B158⟩

theorem intervals_row {w : World} {A : Option Addr} {n c : Nat} {l : List Int} (hA : Sl.Arr w A (l.map fun x => .int .u8 x)) (hn : l.length = n) (hl : Bytes l) (hs : n < 9223372036854775808) {x y : Int} (hx : 0 ≤ x ∧ x ≤ 255) (hy : 0 ≤ y ∧ y ≤ 255) : DoesIn w 8 #[.slice A n c, .agg #[.int .u8 x, .int .u8 y]] (.bool true) := by
  obtain ⟨k0, rfl⟩ : ∃ k : Nat, x = k := ⟨x.toNat, by omega⟩
  obtain ⟨k1, rfl⟩ : ∃ k : Nat, y = k := ⟨y.toNat, by omega⟩
  exact intervals_walk hA hn hl hs k0 k1 (by omega) (by omega)

end Fr
end Go.Proofs.Ytojkaaglmdfcnaa
