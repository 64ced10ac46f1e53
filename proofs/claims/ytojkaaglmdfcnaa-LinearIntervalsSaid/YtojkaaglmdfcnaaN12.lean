/- The examples of the document. -/
import Derived.Test.YtojkaaglmdfcnaaN11
namespace Go.Proofs.Ytojkaaglmdfcnaa
open Go.RowKit Go.Shelf
namespace Fr
set_option linter.unusedVariables false
set_option linter.unusedSimpArgs false


theorem zrG : Zr Try.prog 54 #[.int .i64 0, .int .i64 0, .int .i64 0, .int .i64 0, .int .i64 0] := fun w => by simp [Instr.alloc, go_sem]
theorem field_g (a b c d e : Int) (W : World) : (Instr.field 54 (.agg #[.int .i64 a, .int .i64 b, .int .i64 c, .int .i64 d, .int .i64 e]) 0).run Try.prog W = .ok (.agg #[.int .i64 a, .int .i64 b, .int .i64 c, .int .i64 d]) W := by kernel_rfl
attribute [local go_sem] field_g
theorem isF_int (n : Int) (h : n.natAbs ≤ 4611686018427387904) : IsF (Rat.divInt n 1) n 1 := by
  have hr : Rat.divInt n 1 = (n : Rat) := by
    rw [Rat.divInt_eq_div]
    show (n : Rat) / 1 = n
    grind
  rw [hr]
  exact ⟨by simp, by simp, by unfold Fit; simp; omega⟩
theorem exL : IsL ⟨Rat.divInt 5 1, Rat.divInt 2 1, Rat.divInt (-3) 1, Rat.divInt 0 1⟩ 5 1 2 1 (-3) 1 0 1 := ⟨isF_int 5 (by decide), isF_int 2 (by decide), isF_int (-3) (by decide), isF_int 0 (by decide)⟩
theorem exI (a b : Int) (ha : a.natAbs ≤ 4611686018427387904) (hb : b.natAbs ≤ 4611686018427387904) : IsI ⟨Rat.divInt a 1, Rat.divInt b 1⟩ a 1 b 1 := ⟨isF_int _ ha, isF_int _ hb⟩
theorem exB : IsBx ⟨⟨Rat.divInt 0 1, Rat.divInt 10 1⟩, ⟨Rat.divInt 1 1, Rat.divInt 2 1⟩, ⟨Rat.divInt 0 1, Rat.divInt 0 1⟩⟩ 0 1 10 1 1 1 2 1 0 1 0 1 := ⟨exI 0 10 (by decide) (by decide), exI 1 2 (by decide) (by decide), exI 0 0 (by decide) (by decide)⟩
theorem exHalf : IsF (Rat.divInt 1 2) 1 2 := ⟨by decide +kernel, by decide +kernel, by decide +kernel⟩
theorem exP : IsP ⟨Rat.divInt 1 2, Rat.divInt 1 1, Rat.divInt 0 1⟩ 1 2 1 1 0 1 := ⟨exHalf, isF_int 1 (by decide), isF_int 0 (by decide)⟩
theorem exRange : LQ.range ⟨Rat.divInt 5 1, Rat.divInt 2 1, Rat.divInt (-3) 1, Rat.divInt 0 1⟩ ⟨⟨Rat.divInt 0 1, Rat.divInt 10 1⟩, ⟨Rat.divInt 1 1, Rat.divInt 2 1⟩, ⟨Rat.divInt 0 1, Rat.divInt 0 1⟩⟩ = some ⟨Rat.divInt (-1) 1, Rat.divInt 22 1⟩ := by
  kernel_rfl
theorem exAt : LQ.at ⟨Rat.divInt 5 1, Rat.divInt 2 1, Rat.divInt (-3) 1, Rat.divInt 0 1⟩ ⟨Rat.divInt 1 2, Rat.divInt 1 1, Rat.divInt 0 1⟩ = some (Rat.divInt 3 1) := by
  kernel_rfl
theorem exBig : IQ.plus ⟨Rat.divInt 4611686018427387904 1, Rat.divInt 4611686018427387904 1⟩ ⟨Rat.divInt 1 1, Rat.divInt 1 1⟩ = none := by
  kernel_rfl
theorem exPlus : IQ.plus ⟨Rat.divInt 1 1, Rat.divInt 2 1⟩ ⟨Rat.divInt 3 1, Rat.divInt 5 1⟩ = some ⟨Rat.divInt 4 1, Rat.divInt 7 1⟩ := by
  kernel_rfl

set_option maxRecDepth 100000 in
set_option maxHeartbeats 2000000 in
theorem examples_  : Does 9 #[] (.bool true) := by
  intro w
  have W5 := Lib.hid (whole_ 5)
  have W2 := Lib.hid (whole_ 2)
  have Wm3 := Lib.hid (whole_ (-3))
  have W0 := Lib.hid (whole_ 0)
  have W1 := Lib.hid (whole_ 1)
  have W3 := Lib.hid (whole_ 3)
  have S0_10 := Lib.hid (span_ 0 10)
  have S1_2 := Lib.hid (span_ 1 2)
  have S0_0 := Lib.hid (span_ 0 0)
  have Sm1_22 := Lib.hid (span_ (-1) 22)
  have S2_1 := Lib.hid (span_ 2 1)
  have S4611686018427387904_4611686018427387904 := Lib.hid (span_ 4611686018427387904 4611686018427387904)
  have S1_1 := Lib.hid (span_ 1 1)
  have S3_5 := Lib.hid (span_ 3 5)
  have S4_7 := Lib.hid (span_ 4 7)
  have S4_5 := Lib.hid (span_ 4 5)
  have S1_5 := Lib.hid (span_ 1 5)
  have S0_1 := Lib.hid (span_ 0 1)
  have HR := Lib.hid (lranged exL exB (.inl ⟨_, exRange, exI (-1) 22 (by decide) (by decide), rfl⟩))
  have HA := Lib.hid (lat exL exP (.inl ⟨_, exAt, isF_int 3 (by decide), rfl⟩))
  have V1 := Lib.hid (@valid 5 1 2 1 (-3) 1 0 1 (by unfold I64; decide) (by unfold I64; decide) (by unfold I64; decide) (by unfold I64; decide) (by unfold I64; decide) (by unfold I64; decide) (by unfold I64; decide) (by unfold I64; decide))
  have V2 := Lib.hid (@valid 0 0 0 0 0 0 0 0 (by unfold I64; decide) (by unfold I64; decide) (by unfold I64; decide) (by unfold I64; decide) (by unfold I64; decide) (by unfold I64; decide) (by unfold I64; decide) (by unfold I64; decide))
  have V3 := Lib.hid (@validBox 0 1 10 1 1 1 2 1 0 1 0 1 (by unfold I64; decide) (by unfold I64; decide) (by unfold I64; decide) (by unfold I64; decide) (by unfold I64; decide) (by unfold I64; decide) (by unfold I64; decide) (by unfold I64; decide) (by unfold I64; decide) (by unfold I64; decide) (by unfold I64; decide) (by unfold I64; decide))
  have V4 := Lib.hid (@validInterval 2 1 1 1 (by unfold I64; decide) (by unfold I64; decide) (by unfold I64; decide) (by unfold I64; decide))
  rw [show okL 5 1 2 1 (-3) 1 0 1 = true by kernel_rfl] at V1
  rw [show okL 0 0 0 0 0 0 0 0 = false by kernel_rfl] at V2
  rw [show okB 0 1 10 1 1 1 2 1 0 1 0 1 = true by kernel_rfl] at V3
  rw [show okI 2 1 1 1 = false by kernel_rfl] at V4
  have HB := Lib.hid (lplus (exI 4611686018427387904 4611686018427387904 (by decide) (by decide)) (exI 1 1 (by decide) (by decide)) (.inr ⟨exBig, rfl, rfl, rfl, rfl, rfl⟩))
  have HP := Lib.hid (lplus (exI 1 2 (by decide) (by decide)) (exI 3 5 (by decide) (by decide)) (.inl ⟨_, exPlus, exI 4 7 (by decide) (by decide), rfl⟩))
  have HH := Lib.hid (hull (exI 1 2 (by decide) (by decide)) (exI 4 5 (by decide) (by decide)) (show IsI (IQ.hull ⟨Rat.divInt 1 1, Rat.divInt 2 1⟩ ⟨Rat.divInt 4 1, Rat.divInt 5 1⟩) 1 1 5 1 from (show IQ.hull ⟨Rat.divInt 1 1, Rat.divInt 2 1⟩ ⟨Rat.divInt 4 1, Rat.divInt 5 1⟩ = ⟨Rat.divInt 1 1, Rat.divInt 5 1⟩ by kernel_rfl) ▸ exI 1 5 (by decide) (by decide)))
  have HC := Lib.hid ((contains (exI 1 2 (by decide) (by decide)) (isF_int 2 (by decide))).eq (congrArg Value.bool (show IQ.hasB ⟨Rat.divInt 1 1, Rat.divInt 2 1⟩ (Rat.divInt 2 1) = true by kernel_rfl)))
  have HI := Lib.hid ((within (exI 0 1 (by decide) (by decide)) (exI 1 2 (by decide) (by decide))).eq (congrArg Value.bool (show IQ.inB ⟨Rat.divInt 0 1, Rat.divInt 1 1⟩ ⟨Rat.divInt 1 1, Rat.divInt 2 1⟩ = false by kernel_rfl)))
  have HN := Lib.hid ((inside exB exB).eq (congrArg Value.bool (show BQ.inB ⟨⟨Rat.divInt 0 1, Rat.divInt 10 1⟩, ⟨Rat.divInt 1 1, Rat.divInt 2 1⟩, ⟨Rat.divInt 0 1, Rat.divInt 0 1⟩⟩ ⟨⟨Rat.divInt 0 1, Rat.divInt 10 1⟩, ⟨Rat.divInt 1 1, Rat.divInt 2 1⟩, ⟨Rat.divInt 0 1, Rat.divInt 0 1⟩⟩ = true by kernel_rfl)))
  go_enter Try.func9, Try.ntmps9
  go_upto_region 1 with fail
  have B0 := Below.refl w.heap.size w
  refine wp_region_plain_tail 5 ?_
  simp only [List.take_succ_cons, List.take_zero, List.drop_succ_cons, List.drop_zero]
  repeat (go_big_quiet_step (((go_at_call 44; first | with_reducible exact later_of ((W5.out.at _)) | with_reducible exact later_of ((W2.out.at _)) | with_reducible exact later_of ((Wm3.out.at _)) | with_reducible exact later_of ((W0.out.at _))))))
  refine wpQuiet_nil ?_
  intro _ hw'
  obtain ⟨z1, hw''⟩ := hw'
  subst hw''
  have hb2 := z1.below
  have B3 := B0.trans (hb2.mono B0.size)
  have sz4 := hb2.size
  clear B0 hb2
  go_upto_region 2 with fail
  have m5 := BoxL.new z1.val #[.int .i64 5, .int .i64 1, .int .i64 2, .int .i64 1, .int .i64 (-3), .int .i64 1, .int .i64 0, .int .i64 1] 25
  have hb6 := (Below.refl z1.val.heap.size z1.val).alloc (Nat.le_refl _) (.cells #[.int .i64 5, .int .i64 1, .int .i64 2, .int .i64 1, .int .i64 (-3), .int .i64 1, .int .i64 0, .int .i64 1] 25)
  have B8 := B3.trans (hb6.mono B3.size)
  have sz9 := hb6.size
  clear B3 hb6
  generalize z1.val.alloc (.cells #[.int .i64 5, .int .i64 1, .int .i64 2, .int .i64 1, .int .i64 (-3), .int .i64 1, .int .i64 0, .int .i64 1] 25) = W7 at *
  have lt10 := m5.lt
  refine wp_region_plain_tail 4 ?_
  simp only [List.take_succ_cons, List.take_zero, List.drop_succ_cons, List.drop_zero]
  repeat (go_big_quiet_step (((go_at_call 48; first | with_reducible exact later_of ((S0_10.out.at _)) | with_reducible exact later_of ((S1_2.out.at _)) | with_reducible exact later_of ((S0_0.out.at _))))))
  refine wpQuiet_nil ?_
  intro _ hw'
  obtain ⟨z11, hw''⟩ := hw'
  subst hw''
  have hb12 := z11.below
  have m13 := m5.keep hb12
  have B14 := B8.trans (hb12.mono B8.size)
  have sz15 := hb12.size
  clear m5 B8 hb12
  go_upto_region 3 with fail
  have m16 := BoxL.new z11.val #[.int .i64 0, .int .i64 1, .int .i64 10, .int .i64 1, .int .i64 1, .int .i64 1, .int .i64 2, .int .i64 1, .int .i64 0, .int .i64 1, .int .i64 0, .int .i64 1] 29
  have hb17 := (Below.refl z11.val.heap.size z11.val).alloc (Nat.le_refl _) (.cells #[.int .i64 0, .int .i64 1, .int .i64 10, .int .i64 1, .int .i64 1, .int .i64 1, .int .i64 2, .int .i64 1, .int .i64 0, .int .i64 1, .int .i64 0, .int .i64 1] 29)
  have lt19 := m13.lt
  have m20 := m13.keep hb17
  have B21 := B14.trans (hb17.mono B14.size)
  have sz22 := hb17.size
  clear m13 B14 hb17
  generalize z11.val.alloc (.cells #[.int .i64 0, .int .i64 1, .int .i64 10, .int .i64 1, .int .i64 1, .int .i64 1, .int .i64 2, .int .i64 1, .int .i64 0, .int .i64 1, .int .i64 0, .int .i64 1] 29) = W18 at *
  have lt23 := m16.lt
  refine wp_region_free2 (agf := ?fr24) 11 9 10 zrG zrR (by kernel_rfl) [] (by kernel_rfl) (fun d _ _ _ _ h => by cases d <;> exact h) (by decide) (by rfl) (by rfl) (by rfl) (by rfl) ?fr241 ?fr242
  case fr241 =>
    intro W hW
    obtain ⟨c_l0, c_l1, c_l2, c_l3, c_l4, c_l5, c_l6, c_l7⟩ := m20.l8 hW
    obtain ⟨c_b0, c_b1, c_b2, c_b3, c_b4, c_b5, c_b6, c_b7, c_b8, c_b9, c_b10, c_b11⟩ := m16.l12 hW
    simp only [List.take_succ_cons, List.take_zero, ghostL, List.contains_cons, List.contains_nil, Nat.reduceAdd, Nat.reduceBEq, Bool.or_false, Bool.or_true, Bool.true_or, Bool.false_or, Bool.false_eq_true, if_false, if_true, ghostO]
    repeat (go_big_quiet_step (((first | (go_at_call 44; first | with_reducible exact later_of ((W1.out.at _)) | with_reducible exact later_of ((W0.out.at _))) | (go_at_call 24; with_reducible exact later_of ((HR.out.at _))) | (go_at_call 22; with_reducible exact later_of ((HA.out.at _)))))))
    refine wpQuiet_nil ?_
    rfl
  case fr242 =>
    intro b27 b28 W25 hb26 m29 m30 g31 g32 ne33
    simp only [List.drop_succ_cons, List.drop_zero, Act.put, List.setIfInBounds_toArray, List.set_cons_succ, List.set_cons_zero]
    have m34 := m20.keep hb26
    have m35 := m16.keep hb26
    have B36 := B21.trans (hb26.mono B21.size)
    have sz37 := hb26.size
    clear m20 m16 B21 hb26
    have lt38 := m29.lt
    have lt39 := m30.lt
    obtain ⟨c_r0, c_r1, c_r2, c_r3, c_r4⟩ := m29.c5
    obtain ⟨f_r0, f_r1, f_r2, f_r3, f_r4⟩ := m29.f5
    obtain ⟨c_f0, c_f1, c_f2⟩ := m30.c3
    obtain ⟨f_f0, f_f1, f_f2⟩ := m30.f3
    go_upto_region 4 with fail
    clear c_r0 c_r1 c_r2 c_r3 c_r4 f_r0 f_r1 f_r2 f_r3 f_r4
    clear c_f0 c_f1 c_f2 f_f0 f_f1 f_f2
    have m41 := m29.s5 (.int .i64 (-1)) (.int .i64 1) (.int .i64 22) (.int .i64 1) (.int .i64 0)
    have m42 := m34.z5 (b := b27) (by omega) (.int .i64 (-1)) (.int .i64 1) (.int .i64 22) (.int .i64 1) (.int .i64 0)
    have m43 := m35.z5 (b := b27) (by omega) (.int .i64 (-1)) (.int .i64 1) (.int .i64 22) (.int .i64 1) (.int .i64 0)
    have m44 := m30.z5 (b := b27) (by omega) (.int .i64 (-1)) (.int .i64 1) (.int .i64 22) (.int .i64 1) (.int .i64 0)
    have B45 := below_s5 (b := b27) B36 (by omega) (.int .i64 (-1)) (.int .i64 1) (.int .i64 22) (.int .i64 1) (.int .i64 0)
    have lt46 := m41.lt
    generalize (((((W25.setCell ⟨b27, 0, none⟩ (.int .i64 (-1))).setCell ⟨b27, 1, none⟩ (.int .i64 1)).setCell ⟨b27, 2, none⟩ (.int .i64 22)).setCell ⟨b27, 3, none⟩ (.int .i64 1)).setCell ⟨b27, 4, none⟩ (.int .i64 0)) = W40 at *
    clear m29 m34 m35 m30 B36
    have m48 := m44.s3 (.int .i64 3) (.int .i64 1) (.int .i64 0)
    have m49 := m42.z3 (b := b28) (by omega) (.int .i64 3) (.int .i64 1) (.int .i64 0)
    have m50 := m43.z3 (b := b28) (by omega) (.int .i64 3) (.int .i64 1) (.int .i64 0)
    have m51 := m41.z3 (b := b28) (by omega) (.int .i64 3) (.int .i64 1) (.int .i64 0)
    have B52 := below_s3 (b := b28) B45 (by omega) (.int .i64 3) (.int .i64 1) (.int .i64 0)
    have lt53 := m48.lt
    generalize (((W40.setCell ⟨b28, 0, none⟩ (.int .i64 3)).setCell ⟨b28, 1, none⟩ (.int .i64 1)).setCell ⟨b28, 2, none⟩ (.int .i64 0)) = W47 at *
    clear m44 m42 m43 m41 B45
    obtain ⟨c_r0, c_r1, c_r2, c_r3, c_r4⟩ := m51.l5 (Below.refl _ _)
    obtain ⟨c_f0, c_f1, c_f2⟩ := m48.l3 (Below.refl _ _)
    obtain ⟨c_l0, c_l1, c_l2, c_l3, c_l4, c_l5, c_l6, c_l7⟩ := m49.l8 (Below.refl _ _)
    obtain ⟨c_b0, c_b1, c_b2, c_b3, c_b4, c_b5, c_b6, c_b7, c_b8, c_b9, c_b10, c_b11⟩ := m50.l12 (Below.refl _ _)
    refine wp_region_later (by kernel_rfl) (by kernel_rfl) ?_
    repeat (go_big_quiet_step (((first | (go_at_call 48; first | with_reducible exact later_of ((Sm1_22.out.at _)) | with_reducible exact later_of ((S2_1.out.at _))) | (go_at_call 44; with_reducible exact later_of ((W3.out.at _))) | (go_at_call 10; first | with_reducible exact later_of ((V1.out.at _)) | with_reducible exact later_of ((V2.out.at _))) | (go_at_call 12; with_reducible exact later_of ((V3.out.at _))) | (go_at_call 14; with_reducible exact later_of ((V4.out.at _)))))))
    refine wpQuiet_nil ?_
    intro _ hw'
    obtain ⟨z54, hw''⟩ := hw'
    subst hw''
    clear c_r0 c_r1 c_r2 c_r3 c_r4
    clear c_f0 c_f1 c_f2
    clear c_l0 c_l1 c_l2 c_l3 c_l4 c_l5 c_l6 c_l7
    clear c_b0 c_b1 c_b2 c_b3 c_b4 c_b5 c_b6 c_b7 c_b8 c_b9 c_b10 c_b11
    have hb55 := z54.below
    have m56 := m49.keep hb55
    have m57 := m50.keep hb55
    have m58 := m51.keep hb55
    have m59 := m48.keep hb55
    have B60 := B52.trans (hb55.mono B52.size)
    have sz61 := hb55.size
    clear m49 m50 m51 m48 B52 hb55
    go_upto_region 6 with fail
    refine wp_region_plain_tail 3 ?_
    simp only [List.take_succ_cons, List.take_zero, List.drop_succ_cons, List.drop_zero]
    repeat (go_big_quiet_step (((first | (go_at_call 48; first | with_reducible exact later_of ((S4611686018427387904_4611686018427387904.out.at _)) | with_reducible exact later_of ((S1_1.out.at _))) | (go_at_call 30; with_reducible exact later_of ((HB.out.at _)))))))
    refine wpQuiet_nil ?_
    intro _ hw'
    obtain ⟨z62, hw''⟩ := hw'
    subst hw''
    have hb63 := z62.below
    have m64 := m56.keep hb63
    have m65 := m57.keep hb63
    have m66 := m58.keep hb63
    have m67 := m59.keep hb63
    have B68 := B60.trans (hb63.mono B60.size)
    have sz69 := hb63.size
    clear m56 m57 m58 m59 B60 hb63
    go_upto_region 7 with fail
    have m70 := BoxL.new z62.val #[.int .i64 0, .int .i64 0, .int .i64 0, .int .i64 0, .int .i64 2] 54
    have hb71 := (Below.refl z62.val.heap.size z62.val).alloc (Nat.le_refl _) (.cells #[.int .i64 0, .int .i64 0, .int .i64 0, .int .i64 0, .int .i64 2] 54)
    have lt73 := m64.lt
    have lt74 := m65.lt
    have lt75 := m66.lt
    have lt76 := m67.lt
    have m77 := m64.keep hb71
    have m78 := m65.keep hb71
    have m79 := m66.keep hb71
    have m80 := m67.keep hb71
    have B81 := B68.trans (hb71.mono B68.size)
    have sz82 := hb71.size
    clear m64 m65 m66 m67 B68 hb71
    generalize z62.val.alloc (.cells #[.int .i64 0, .int .i64 0, .int .i64 0, .int .i64 0, .int .i64 2] 54) = W72 at *
    have lt83 := m70.lt
    obtain ⟨c_g0, c_g1, c_g2, c_g3, c_g4⟩ := m70.l5 (Below.refl _ _)
    obtain ⟨c_b0, c_b1, c_b2, c_b3, c_b4, c_b5, c_b6, c_b7, c_b8, c_b9, c_b10, c_b11⟩ := m78.l12 (Below.refl _ _)
    refine wp_region_plain ?_
    repeat (go_big_quiet_step (((first | (go_at_call 48; first | with_reducible exact later_of ((S1_2.out.at _)) | with_reducible exact later_of ((S3_5.out.at _)) | with_reducible exact later_of ((S4_7.out.at _)) | with_reducible exact later_of ((S4_5.out.at _)) | with_reducible exact later_of ((S1_5.out.at _)) | with_reducible exact later_of ((S0_1.out.at _))) | (go_at_call 44; with_reducible exact later_of ((W2.out.at _))) | (go_at_call 30; with_reducible exact later_of ((HP.out.at _))) | (go_at_call 32; with_reducible exact later_of ((HH.out.at _))) | (go_at_call 34; with_reducible exact later_of ((HC.out.at _))) | (go_at_call 36; with_reducible exact later_of ((HI.out.at _))) | (go_at_call 38; with_reducible exact later_of ((HN.out.at _)))))))
    refine wpQuiet_nil ?_
    intro _ hw'
    obtain ⟨z84, hw''⟩ := hw'
    subst hw''
    clear c_g0 c_g1 c_g2 c_g3 c_g4
    clear c_b0 c_b1 c_b2 c_b3 c_b4 c_b5 c_b6 c_b7 c_b8 c_b9 c_b10 c_b11
    have hb85 := z84.below
    have m86 := m77.keep hb85
    have m87 := m78.keep hb85
    have m88 := m79.keep hb85
    have m89 := m80.keep hb85
    have m90 := m70.keep hb85
    have B91 := B81.trans (hb85.mono B81.size)
    have sz92 := hb85.size
    clear m77 m78 m79 m80 m70 B81 hb85
    go_wp2_with fail
    go_ret
    exact ⟨rfl, B91⟩

end Fr
end Go.Proofs.Ytojkaaglmdfcnaa
