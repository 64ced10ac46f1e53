/- Statement FractionCanonical: the walk. -/
import Derived.Test.YtcecdmooojkmoaaDoorF13
import Derived.Deep.DeepCutAuto
namespace Go.Proofs.YtcecdmooojkmoaaDoor
open Go.RowKit Go.Shelf Go.Sort
namespace Fr
set_option linter.unusedVariables false

set_option maxRecDepth 100000 in
set_option maxHeartbeats 4000000 in
theorem canonical_walk (x0 x1 y0 y1 k : Int) (w : World) (hx0 : I64 x0) (hx1 : I64 x1) (hy0 : I64 y0) (hy1 : I64 y1) (hk : -2147483648 ≤ k ∧ k ≤ 2147483647) (hv : Vars w) :
    Calls Tryd.prog 5 #[.agg #[.int .i64 x0, .int .i64 x1], .agg #[.int .i64 y0, .int .i64 y1], .int .i32 k] w fun o w' => o = .returned (.bool true) ∧ Below w.heap.size w w' := by
  have HX := Lib.hid (fun W : World => made_any x0 x1 W hx0 hx1)
  have HY := Lib.hid (fun W : World => made_any y0 y1 W hy0 hy1)
  have HM := Lib.hid (fun W : World => created_any x0 y0 W hx0 hy0)
  have HK := Lib.hid hk
  clear hx0 hx1 hy0 hy1 hk
  go_enter Tryd.func5, Tryd.ntmps5
  go_wp2_with fail
  have X0 := (Box2.new w (.int .i64 x0) (.int .i64 x1) 22).alloc (.cells #[.int .i64 y0, .int .i64 y1] 22)
  have Y0 := Box2.newAt (W := w.alloc (.cells #[.int .i64 x0, .int .i64 x1] 22)) (B := w.heap.size + 1) (by simp) (.int .i64 y0) (.int .i64 y1) 22
  have B0 := ((Below.refl w.heap.size w).alloc (Nat.le_refl _) (.cells #[.int .i64 x0, .int .i64 x1] 22)).alloc (by simp) (.cells #[.int .i64 y0, .int .i64 y1] 22)
  generalize (w.alloc (.cells #[.int .i64 x0, .int .i64 x1] 22)).alloc (.cells #[.int .i64 y0, .int .i64 y1] 22) = W0 at *
  refine (examples_any _ (hv.keep B0)).mono ?_
  rintro o w1 ⟨rfl, hb⟩
  have X1 := X0.keep hb
  have Y1 := Y0.keep hb
  have B1 := B0.trans (hb.mono B0.size)
  clear X0 Y0 B0 hb hv
  have c0 := X1.c0
  have c1 := X1.c1
  go_wp2_with fail
  refine (HX.out _).mono ?_
  rintro o w2 ⟨A, an, ad, HA0, rfl, hb⟩
  have HA := Lib.hid HA0
  clear HA0
  have A2 := Box2.new w2 (.int .i64 an) (.int .i64 ad) 25
  have X2 := (X1.keep hb).alloc (.cells #[.int .i64 an, .int .i64 ad] 25)
  have Y2 := (Y1.keep hb).alloc (.cells #[.int .i64 an, .int .i64 ad] 25)
  have B2 := (B1.trans (hb.mono B1.size)).alloc (B1.trans (hb.mono B1.size)).size (.cells #[.int .i64 an, .int .i64 ad] 25)
  clear X1 Y1 B1 hb c0 c1 HX
  have d0 := Y2.c0
  have d1 := Y2.c1
  go_wp2_with fail
  refine (HY.out _).mono ?_
  rintro o w3 ⟨B, bn, bd, HB0, rfl, hb⟩
  have HB := Lib.hid HB0
  clear HB0
  have A3 := (A2.keep hb).alloc (.cells #[.int .i64 bn, .int .i64 bd] 25)
  have X3 := (X2.keep hb).alloc (.cells #[.int .i64 bn, .int .i64 bd] 25)
  have Y3 := (Y2.keep hb).alloc (.cells #[.int .i64 bn, .int .i64 bd] 25)
  have D3 := Box2.new w3 (.int .i64 bn) (.int .i64 bd) 25
  have B3 := (B2.trans (hb.mono B2.size)).alloc (B2.trans (hb.mono B2.size)).size (.cells #[.int .i64 bn, .int .i64 bd] 25)
  clear A2 X2 Y2 B2 hb d0 d1 HY
  go_upto_region 6 with fail
  generalize w3.alloc (.cells #[.int .i64 bn, .int .i64 bd] 25) = W1 at *
  obtain ⟨sN, sD, sE, hs1, hs2⟩ := can_add HA.out HB.out
  obtain ⟨tN, tD, tE, ht1, ht2⟩ := can_sub HA.out HB.out
  obtain ⟨pN, pD, pE, hp1, hp2⟩ := can_mul HA.out HB.out
  obtain ⟨qN, qD, qE, hq1, hq2⟩ := can_div HA.out HB.out
  obtain ⟨rN', rD', rE', hr1, hr2⟩ : ∃ N D E : Int, (∀ W : World, Calls Tryd.prog 19 #[.int .i64 x0, .int .i64 y0] W fun o w' => o = .returned (.agg #[.int .i64 N, .int .i64 D, .int .i64 E]) ∧ Below W.heap.size W w') ∧ CanF N D E := ⟨_, _, _, HM.out, can_m x0 y0⟩
  have S1 := Lib.hid hs1
  have S2 := Lib.hid hs2
  clear hs1 hs2
  have T1 := Lib.hid ht1
  have T2 := Lib.hid ht2
  clear ht1 ht2
  have P1 := Lib.hid hp1
  have P2 := Lib.hid hp2
  clear hp1 hp2
  have Q1 := Lib.hid hq1
  have Q2 := Lib.hid hq2
  clear hq1 hq2
  have R1 := Lib.hid hr1
  have R2 := Lib.hid hr2
  clear hr1 hr2
  clear HM HA HB
  obtain ⟨a0, a1⟩ := A3.later
  obtain ⟨b0, b1⟩ := D3.later
  obtain ⟨c0, c1⟩ := X3.later
  obtain ⟨d0, d1⟩ := Y3.later
  refine wp_region_later_tail 17 (by kernel_rfl) (by kernel_rfl) ?_
  simp only [List.take_succ_cons, List.take_zero, List.drop_succ_cons, List.drop_zero]
  repeat (go_big_quiet_step (((first | (go_at_call 11; with_reducible exact later_of (S1.out _)) | (go_at_call 14; with_reducible exact later_of (T1.out _)) | (go_at_call 12; with_reducible exact later_of (P1.out _)) | (go_at_call 15; with_reducible exact later_of (Q1.out _)) | (go_at_call 19; with_reducible exact later_of (R1.out _))))))
  refine wpQuiet_nil ?_
  intro _ hw'
  obtain ⟨z, hw''⟩ := hw'
  subst hw''
  have X4 := X3.keep z.below
  have B4 := B3.trans (z.below.mono B3.size)
  generalize z.val = W2 at *
  clear a0 a1 b0 b1 c0 c1 d0 d1 A3 X3 Y3 D3 B3 z S1 T1 P1 Q1 R1
  go_wp2_with fail
  have X5 := X4.alloc (.cells #[.int .i64 sN, .int .i64 sD, .int .i64 sE, .int .i64 tN, .int .i64 tD, .int .i64 tE, .int .i64 pN, .int .i64 pD, .int .i64 pE, .int .i64 qN, .int .i64 qD, .int .i64 qE, .int .i64 rN', .int .i64 rD', .int .i64 rE'] 29)
  have B5 := B4.alloc B4.size (.cells #[.int .i64 sN, .int .i64 sD, .int .i64 sE, .int .i64 tN, .int .i64 tD, .int .i64 tE, .int .i64 pN, .int .i64 pD, .int .i64 pE, .int .i64 qN, .int .i64 qD, .int .i64 qE, .int .i64 rN', .int .i64 rD', .int .i64 rE'] 29)
  have e0 := row_cell (W := W2) (vs := #[.int .i64 sN, .int .i64 sD, .int .i64 sE, .int .i64 tN, .int .i64 tD, .int .i64 tE, .int .i64 pN, .int .i64 pD, .int .i64 pE, .int .i64 qN, .int .i64 qD, .int .i64 qE, .int .i64 rN', .int .i64 rD', .int .i64 rE']) (T := 29) 0 (.int .i64 sN) rfl
  have e1 := row_cell (W := W2) (vs := #[.int .i64 sN, .int .i64 sD, .int .i64 sE, .int .i64 tN, .int .i64 tD, .int .i64 tE, .int .i64 pN, .int .i64 pD, .int .i64 pE, .int .i64 qN, .int .i64 qD, .int .i64 qE, .int .i64 rN', .int .i64 rD', .int .i64 rE']) (T := 29) 1 (.int .i64 sD) rfl
  have e2 := row_cell (W := W2) (vs := #[.int .i64 sN, .int .i64 sD, .int .i64 sE, .int .i64 tN, .int .i64 tD, .int .i64 tE, .int .i64 pN, .int .i64 pD, .int .i64 pE, .int .i64 qN, .int .i64 qD, .int .i64 qE, .int .i64 rN', .int .i64 rD', .int .i64 rE']) (T := 29) 2 (.int .i64 sE) rfl
  have e3 := row_cell (W := W2) (vs := #[.int .i64 sN, .int .i64 sD, .int .i64 sE, .int .i64 tN, .int .i64 tD, .int .i64 tE, .int .i64 pN, .int .i64 pD, .int .i64 pE, .int .i64 qN, .int .i64 qD, .int .i64 qE, .int .i64 rN', .int .i64 rD', .int .i64 rE']) (T := 29) 3 (.int .i64 tN) rfl
  have e4 := row_cell (W := W2) (vs := #[.int .i64 sN, .int .i64 sD, .int .i64 sE, .int .i64 tN, .int .i64 tD, .int .i64 tE, .int .i64 pN, .int .i64 pD, .int .i64 pE, .int .i64 qN, .int .i64 qD, .int .i64 qE, .int .i64 rN', .int .i64 rD', .int .i64 rE']) (T := 29) 4 (.int .i64 tD) rfl
  have e5 := row_cell (W := W2) (vs := #[.int .i64 sN, .int .i64 sD, .int .i64 sE, .int .i64 tN, .int .i64 tD, .int .i64 tE, .int .i64 pN, .int .i64 pD, .int .i64 pE, .int .i64 qN, .int .i64 qD, .int .i64 qE, .int .i64 rN', .int .i64 rD', .int .i64 rE']) (T := 29) 5 (.int .i64 tE) rfl
  have e6 := row_cell (W := W2) (vs := #[.int .i64 sN, .int .i64 sD, .int .i64 sE, .int .i64 tN, .int .i64 tD, .int .i64 tE, .int .i64 pN, .int .i64 pD, .int .i64 pE, .int .i64 qN, .int .i64 qD, .int .i64 qE, .int .i64 rN', .int .i64 rD', .int .i64 rE']) (T := 29) 6 (.int .i64 pN) rfl
  have e7 := row_cell (W := W2) (vs := #[.int .i64 sN, .int .i64 sD, .int .i64 sE, .int .i64 tN, .int .i64 tD, .int .i64 tE, .int .i64 pN, .int .i64 pD, .int .i64 pE, .int .i64 qN, .int .i64 qD, .int .i64 qE, .int .i64 rN', .int .i64 rD', .int .i64 rE']) (T := 29) 7 (.int .i64 pD) rfl
  have e8 := row_cell (W := W2) (vs := #[.int .i64 sN, .int .i64 sD, .int .i64 sE, .int .i64 tN, .int .i64 tD, .int .i64 tE, .int .i64 pN, .int .i64 pD, .int .i64 pE, .int .i64 qN, .int .i64 qD, .int .i64 qE, .int .i64 rN', .int .i64 rD', .int .i64 rE']) (T := 29) 8 (.int .i64 pE) rfl
  have e9 := row_cell (W := W2) (vs := #[.int .i64 sN, .int .i64 sD, .int .i64 sE, .int .i64 tN, .int .i64 tD, .int .i64 tE, .int .i64 pN, .int .i64 pD, .int .i64 pE, .int .i64 qN, .int .i64 qD, .int .i64 qE, .int .i64 rN', .int .i64 rD', .int .i64 rE']) (T := 29) 9 (.int .i64 qN) rfl
  have e10 := row_cell (W := W2) (vs := #[.int .i64 sN, .int .i64 sD, .int .i64 sE, .int .i64 tN, .int .i64 tD, .int .i64 tE, .int .i64 pN, .int .i64 pD, .int .i64 pE, .int .i64 qN, .int .i64 qD, .int .i64 qE, .int .i64 rN', .int .i64 rD', .int .i64 rE']) (T := 29) 10 (.int .i64 qD) rfl
  have e11 := row_cell (W := W2) (vs := #[.int .i64 sN, .int .i64 sD, .int .i64 sE, .int .i64 tN, .int .i64 tD, .int .i64 tE, .int .i64 pN, .int .i64 pD, .int .i64 pE, .int .i64 qN, .int .i64 qD, .int .i64 qE, .int .i64 rN', .int .i64 rD', .int .i64 rE']) (T := 29) 11 (.int .i64 qE) rfl
  have e12 := row_cell (W := W2) (vs := #[.int .i64 sN, .int .i64 sD, .int .i64 sE, .int .i64 tN, .int .i64 tD, .int .i64 tE, .int .i64 pN, .int .i64 pD, .int .i64 pE, .int .i64 qN, .int .i64 qD, .int .i64 qE, .int .i64 rN', .int .i64 rD', .int .i64 rE']) (T := 29) 12 (.int .i64 rN') rfl
  have e13 := row_cell (W := W2) (vs := #[.int .i64 sN, .int .i64 sD, .int .i64 sE, .int .i64 tN, .int .i64 tD, .int .i64 tE, .int .i64 pN, .int .i64 pD, .int .i64 pE, .int .i64 qN, .int .i64 qD, .int .i64 qE, .int .i64 rN', .int .i64 rD', .int .i64 rE']) (T := 29) 13 (.int .i64 rD') rfl
  have e14 := row_cell (W := W2) (vs := #[.int .i64 sN, .int .i64 sD, .int .i64 sE, .int .i64 tN, .int .i64 tD, .int .i64 tE, .int .i64 pN, .int .i64 pD, .int .i64 pE, .int .i64 qN, .int .i64 qD, .int .i64 qE, .int .i64 rN', .int .i64 rD', .int .i64 rE']) (T := 29) 14 (.int .i64 rE') rfl
  generalize W2.alloc (.cells #[.int .i64 sN, .int .i64 sD, .int .i64 sE, .int .i64 tN, .int .i64 tD, .int .i64 tE, .int .i64 pN, .int .i64 pD, .int .i64 pE, .int .i64 qN, .int .i64 qD, .int .i64 qE, .int .i64 rN', .int .i64 rD', .int .i64 rE'] 29) = W3 at *
  generalize W2.heap.size = M at *
  clear X4 B4
  have H0 := Lib.hid e0
  clear e0
  have H1 := Lib.hid e1
  clear e1
  have H2 := Lib.hid e2
  clear e2
  have H3 := Lib.hid e3
  clear e3
  have H4 := Lib.hid e4
  clear e4
  have H5 := Lib.hid e5
  clear e5
  have H6 := Lib.hid e6
  clear e6
  have H7 := Lib.hid e7
  clear e7
  have H8 := Lib.hid e8
  clear e8
  have H9 := Lib.hid e9
  clear e9
  have H10 := Lib.hid e10
  clear e10
  have H11 := Lib.hid e11
  clear e11
  have H12 := Lib.hid e12
  clear e12
  have H13 := Lib.hid e13
  clear e13
  have H14 := Lib.hid e14
  clear e14
  go_loopw [11] (fun i wr => ∃ j : Nat, j ≤ 5 ∧ i = .int .i64 j ∧ Below W3.heap.size W3 wr) (fun i _ => 5 - (intOf i).toNat)
  case atStart => exact ⟨0, by omega, rfl, Below.refl _ _⟩
  case round =>
    obtain ⟨j, hj, rfl, hbl⟩ := hrel
    rcases (by omega : j = 0 ∨ j = 1 ∨ j = 2 ∨ j = 3 ∨ j = 4 ∨ j = 5) with rfl | rfl | rfl | rfl | rfl | rfl
    · as_aux_lemma =>
        have e0 : ∀ p : Later wr, _ := fun p => H0.out ⟨p.val, hbl.trans (p.below.mono hbl.size)⟩
        have e1 : ∀ p : Later wr, _ := fun p => H1.out ⟨p.val, hbl.trans (p.below.mono hbl.size)⟩
        have e2 : ∀ p : Later wr, _ := fun p => H2.out ⟨p.val, hbl.trans (p.below.mono hbl.size)⟩
        have V := S2.out
        clear H0 H1 H2 H3 H4 H5 H6 H7 H8 H9 H10 H11 H12 H13 H14 S2 T2 P2 Q2 R2 X5 B5 HK
        rcases V with ⟨rfl, v⟩ | ⟨v1, v2, rfl, rfl, v⟩
        all_goals
          have V := Lib.hid v
          clear v
          go_upto_region 10 with fail
          refine wp_region_later (by kernel_rfl) (by kernel_rfl) ?_
          repeat (go_big_quiet_step (((go_at_call 20; with_reducible exact later_of (V.out _)))))
          refine wpQuiet_nil ?_
          intro _ hw'
          obtain ⟨z, hw''⟩ := hw'
          subst hw''
          go_wp2_with fail
          go_roundw
          case rel => exact ⟨1, by omega, rfl, hbl.trans (z.below.mono hbl.size)⟩
          case measure => simp [intOf]
    · as_aux_lemma =>
        have e0 : ∀ p : Later wr, _ := fun p => H3.out ⟨p.val, hbl.trans (p.below.mono hbl.size)⟩
        have e1 : ∀ p : Later wr, _ := fun p => H4.out ⟨p.val, hbl.trans (p.below.mono hbl.size)⟩
        have e2 : ∀ p : Later wr, _ := fun p => H5.out ⟨p.val, hbl.trans (p.below.mono hbl.size)⟩
        have V := T2.out
        clear H0 H1 H2 H3 H4 H5 H6 H7 H8 H9 H10 H11 H12 H13 H14 S2 T2 P2 Q2 R2 X5 B5 HK
        rcases V with ⟨rfl, v⟩ | ⟨v1, v2, rfl, rfl, v⟩
        all_goals
          have V := Lib.hid v
          clear v
          go_upto_region 10 with fail
          refine wp_region_later (by kernel_rfl) (by kernel_rfl) ?_
          repeat (go_big_quiet_step (((go_at_call 20; with_reducible exact later_of (V.out _)))))
          refine wpQuiet_nil ?_
          intro _ hw'
          obtain ⟨z, hw''⟩ := hw'
          subst hw''
          go_wp2_with fail
          go_roundw
          case rel => exact ⟨2, by omega, rfl, hbl.trans (z.below.mono hbl.size)⟩
          case measure => simp [intOf]
    · as_aux_lemma =>
        have e0 : ∀ p : Later wr, _ := fun p => H6.out ⟨p.val, hbl.trans (p.below.mono hbl.size)⟩
        have e1 : ∀ p : Later wr, _ := fun p => H7.out ⟨p.val, hbl.trans (p.below.mono hbl.size)⟩
        have e2 : ∀ p : Later wr, _ := fun p => H8.out ⟨p.val, hbl.trans (p.below.mono hbl.size)⟩
        have V := P2.out
        clear H0 H1 H2 H3 H4 H5 H6 H7 H8 H9 H10 H11 H12 H13 H14 S2 T2 P2 Q2 R2 X5 B5 HK
        rcases V with ⟨rfl, v⟩ | ⟨v1, v2, rfl, rfl, v⟩
        all_goals
          have V := Lib.hid v
          clear v
          go_upto_region 10 with fail
          refine wp_region_later (by kernel_rfl) (by kernel_rfl) ?_
          repeat (go_big_quiet_step (((go_at_call 20; with_reducible exact later_of (V.out _)))))
          refine wpQuiet_nil ?_
          intro _ hw'
          obtain ⟨z, hw''⟩ := hw'
          subst hw''
          go_wp2_with fail
          go_roundw
          case rel => exact ⟨3, by omega, rfl, hbl.trans (z.below.mono hbl.size)⟩
          case measure => simp [intOf]
    · as_aux_lemma =>
        have e0 : ∀ p : Later wr, _ := fun p => H9.out ⟨p.val, hbl.trans (p.below.mono hbl.size)⟩
        have e1 : ∀ p : Later wr, _ := fun p => H10.out ⟨p.val, hbl.trans (p.below.mono hbl.size)⟩
        have e2 : ∀ p : Later wr, _ := fun p => H11.out ⟨p.val, hbl.trans (p.below.mono hbl.size)⟩
        have V := Q2.out
        clear H0 H1 H2 H3 H4 H5 H6 H7 H8 H9 H10 H11 H12 H13 H14 S2 T2 P2 Q2 R2 X5 B5 HK
        rcases V with ⟨rfl, v⟩ | ⟨v1, v2, rfl, rfl, v⟩
        all_goals
          have V := Lib.hid v
          clear v
          go_upto_region 10 with fail
          refine wp_region_later (by kernel_rfl) (by kernel_rfl) ?_
          repeat (go_big_quiet_step (((go_at_call 20; with_reducible exact later_of (V.out _)))))
          refine wpQuiet_nil ?_
          intro _ hw'
          obtain ⟨z, hw''⟩ := hw'
          subst hw''
          go_wp2_with fail
          go_roundw
          case rel => exact ⟨4, by omega, rfl, hbl.trans (z.below.mono hbl.size)⟩
          case measure => simp [intOf]
    · as_aux_lemma =>
        have e0 : ∀ p : Later wr, _ := fun p => H12.out ⟨p.val, hbl.trans (p.below.mono hbl.size)⟩
        have e1 : ∀ p : Later wr, _ := fun p => H13.out ⟨p.val, hbl.trans (p.below.mono hbl.size)⟩
        have e2 : ∀ p : Later wr, _ := fun p => H14.out ⟨p.val, hbl.trans (p.below.mono hbl.size)⟩
        have V := R2.out
        clear H0 H1 H2 H3 H4 H5 H6 H7 H8 H9 H10 H11 H12 H13 H14 S2 T2 P2 Q2 R2 X5 B5 HK
        rcases V with ⟨rfl, v⟩ | ⟨v1, v2, rfl, rfl, v⟩
        all_goals
          have V := Lib.hid v
          clear v
          go_upto_region 10 with fail
          refine wp_region_later (by kernel_rfl) (by kernel_rfl) ?_
          repeat (go_big_quiet_step (((go_at_call 20; with_reducible exact later_of (V.out _)))))
          refine wpQuiet_nil ?_
          intro _ hw'
          obtain ⟨z, hw''⟩ := hw'
          subst hw''
          go_wp2_with fail
          go_roundw
          case rel => exact ⟨5, by omega, rfl, hbl.trans (z.below.mono hbl.size)⟩
          case measure => simp [intOf]
    · as_aux_lemma =>
        clear H0 H1 H2 H3 H4 H5 H6 H7 H8 H9 H10 H11 H12 H13 H14 S2 T2 P2 Q2 R2
        have X6 := X5.keep hbl
        have B6 := B5.trans (hbl.mono B5.size)
        clear X5 B5 hbl
        have n0 := tmod_small x0
        have n1 := tmod_small x1
        have m0 : IntKind.i64.wrap (x0.tmod 1073741824) = x0.tmod 1073741824 := IntWalk.i64_in _ (by omega)
        have m1 : IntKind.i64.wrap (x1.tmod 1073741824) = x1.tmod 1073741824 := IntWalk.i64_in _ (by omega)
        have c0 := X6.c0
        have c1 := X6.c1
        have N0 := Lib.hid n0
        have N1 := Lib.hid n1
        clear n0 n1
        go_upto_region 14 with fail
        generalize x0.tmod 1073741824 = n at *
        generalize x1.tmod 1073741824 = d at *
        clear m0 m1 c0 c1 X6
        by_cases hd : d = 0
        · subst hd
          clear N0 N1 HK
          go_wp2_with fail
          go_ret
          exact ⟨rfl, B6⟩
        · have h1 : (d == 0) = false := by simpa using hd
          by_cases hk0 : k = 0
          · subst hk0
            clear N0 N1 HK hd
            go_wp2_with fail
            go_ret
            exact ⟨rfl, B6⟩
          · have h2 : (k == 0) = false := by simpa using hk0
            have hk := HK.out
            have n0 := N0.out
            have n1 := N1.out
            obtain ⟨N, D, e1, e2, e3, e4, e5, e6, e7, e8, e9, e10, e11⟩ := can_quot n0 n1 (by omega) hd hk0
            have HP := Lib.hid (fun W : World => created_any n d W (by unfold I64; omega) (by unfold I64; omega))
            have HQ := Lib.hid (fun W : World => created_any (n * k) (d * k) W e10 e11)
            rw [e1, e2, e3] at HP
            rw [e4, e5, e6] at HQ
            have wk : IntKind.i64.wrap k = k := IntWalk.i64_in _ (by omega)
            have wnk : IntKind.i64.wrap (n * k) = n * k := IntWalk.i64_in _ (by unfold I64 at e10; omega)
            have wdk : IntKind.i64.wrap (d * k) = d * k := IntWalk.i64_in _ (by unfold I64 at e11; omega)
            have wN : IntKind.i64.wrap (N * d) = N * d := IntWalk.i64_in _ (by omega)
            have wD : IntKind.i64.wrap (D * n) = D * n := IntWalk.i64_in _ (by omega)
            have q1 : (N == N) = true := by simp
            have q2 : (D == D) = true := by simp
            have q3 : (N * d == D * n) = true := by simpa using e7
            clear e1 e2 e3 e4 e5 e6 e7 e8 e9 e10 e11 N0 N1 HK hd hk0 hk n0 n1
            go_wp2_with fail
            refine (HP.out _).mono ?_
            rintro o w4 ⟨rfl, hb⟩
            have P7 := Box3.new w4 (.int .i64 N) (.int .i64 D) (.int .i64 0) 29
            have B7 := (B6.trans (hb.mono B6.size)).alloc (B6.trans (hb.mono B6.size)).size (.cells #[.int .i64 N, .int .i64 D, .int .i64 0] 29)
            clear B6 hb HP
            go_wp2_with fail
            refine (HQ.out _).mono ?_
            rintro o w5 ⟨rfl, hb⟩
            have P8 := (P7.keep hb).alloc (.cells #[.int .i64 N, .int .i64 D, .int .i64 0] 29)
            have Q8 := Box3.new w5 (.int .i64 N) (.int .i64 D) (.int .i64 0) 29
            have B8 := (B7.trans (hb.mono B7.size)).alloc (B7.trans (hb.mono B7.size)).size (.cells #[.int .i64 N, .int .i64 D, .int .i64 0] 29)
            clear P7 B7 hb HQ wnk wdk wk
            go_upto_region 18 with fail
            generalize w5.alloc (.cells #[.int .i64 N, .int .i64 D, .int .i64 0] 29) = W4 at *
            have c0 := P8.c0
            have c1 := P8.c1
            have c2 := P8.c2
            have d0 := Q8.c0
            have d1 := Q8.c1
            have d2 := Q8.c2
            clear P8 Q8
            go_wp2_with fail
            go_ret
            exact ⟨rfl, B8⟩

end Fr
end Go.Proofs.YtcecdmooojkmoaaDoor
