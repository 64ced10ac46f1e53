/- Statement FractionField: the walk. -/
import Derived.Test.YtcecdmooojkmoaaDoorF10
import Derived.Deep.DeepCutAuto
namespace Go.Proofs.YtcecdmooojkmoaaDoor
open Go.RowKit Go.Shelf Go.Sort
namespace Fr
set_option linter.unusedVariables false

set_option maxRecDepth 100000 in
set_option maxHeartbeats 4000000 in
theorem field_walk (x0 x1 y0 y1 z0 z1 : Int) (w : World) (hx0 : I64 x0) (hx1 : I64 x1) (hy0 : I64 y0) (hy1 : I64 y1) (hz0 : I64 z0) (hz1 : I64 z1) (hv : Vars w) :
    Calls Tryd.prog 3 #[.agg #[.int .i64 x0, .int .i64 x1], .agg #[.int .i64 y0, .int .i64 y1], .agg #[.int .i64 z0, .int .i64 z1]] w fun o w' => o = .returned (.bool true) ∧ Below w.heap.size w w' := by
  have HX := Lib.hid (fun W : World => made_any x0 x1 W hx0 hx1)
  have HY := Lib.hid (fun W : World => made_any y0 y1 W hy0 hy1)
  have HZ := Lib.hid (fun W : World => made_any z0 z1 W hz0 hz1)
  clear hx0 hx1 hy0 hy1 hz0 hz1
  go_enter Tryd.func3, Tryd.ntmps3
  go_wp2_with fail
  have X0 := ((Box2.new w (.int .i64 x0) (.int .i64 x1) 22).alloc (.cells #[.int .i64 y0, .int .i64 y1] 22)).alloc (.cells #[.int .i64 z0, .int .i64 z1] 22)
  have Y0 := (Box2.newAt (W := w.alloc (.cells #[.int .i64 x0, .int .i64 x1] 22)) (B := w.heap.size + 1) (by simp) (.int .i64 y0) (.int .i64 y1) 22).alloc (.cells #[.int .i64 z0, .int .i64 z1] 22)
  have Z0 := Box2.newAt (W := (w.alloc (.cells #[.int .i64 x0, .int .i64 x1] 22)).alloc (.cells #[.int .i64 y0, .int .i64 y1] 22)) (B := w.heap.size + 1 + 1) (by simp) (.int .i64 z0) (.int .i64 z1) 22
  have B0 := (((Below.refl w.heap.size w).alloc (Nat.le_refl _) (.cells #[.int .i64 x0, .int .i64 x1] 22)).alloc (by simp) (.cells #[.int .i64 y0, .int .i64 y1] 22)).alloc (by simp; omega) (.cells #[.int .i64 z0, .int .i64 z1] 22)
  generalize ((w.alloc (.cells #[.int .i64 x0, .int .i64 x1] 22)).alloc (.cells #[.int .i64 y0, .int .i64 y1] 22)).alloc (.cells #[.int .i64 z0, .int .i64 z1] 22) = W0 at *
  refine (examples_any _ (hv.keep B0)).mono ?_
  rintro o w1 ⟨rfl, hb⟩
  have X1 := X0.keep hb
  have Y1 := Y0.keep hb
  have Z1 := Z0.keep hb
  have B1 := B0.trans (hb.mono B0.size)
  clear X0 Y0 Z0 B0 hb hv
  have c0 := X1.c0
  have c1 := X1.c1
  have d0 := Y1.c0
  have d1 := Y1.c1
  have e0 := Z1.c0
  have e1 := Z1.c1
  go_wp2_with fail
  refine (HX.out _).mono ?_
  rintro o w2 ⟨A, an, ad, HA0, rfl, hb⟩
  have HA := Lib.hid HA0
  clear HA0
  have A2 := Box2.new w2 (.int .i64 an) (.int .i64 ad) 25
  have Y2 := (Y1.keep hb).alloc (.cells #[.int .i64 an, .int .i64 ad] 25)
  have Z2 := (Z1.keep hb).alloc (.cells #[.int .i64 an, .int .i64 ad] 25)
  have B2 := (B1.trans (hb.mono B1.size)).alloc (B1.trans (hb.mono B1.size)).size (.cells #[.int .i64 an, .int .i64 ad] 25)
  clear X1 Y1 Z1 B1 hb c0 c1 d0 d1 e0 e1 HX
  have d0 := Y2.c0
  have d1 := Y2.c1
  go_wp2_with fail
  refine (HY.out _).mono ?_
  rintro o w3 ⟨B, bn, bd, HB0, rfl, hb⟩
  have HB := Lib.hid HB0
  clear HB0
  have A3 := (A2.keep hb).alloc (.cells #[.int .i64 bn, .int .i64 bd] 25)
  have Z3 := (Z2.keep hb).alloc (.cells #[.int .i64 bn, .int .i64 bd] 25)
  have D3 := Box2.new w3 (.int .i64 bn) (.int .i64 bd) 25
  have B3 := (B2.trans (hb.mono B2.size)).alloc (B2.trans (hb.mono B2.size)).size (.cells #[.int .i64 bn, .int .i64 bd] 25)
  clear A2 Y2 Z2 B2 hb d0 d1 HY
  have e0 := Z3.c0
  have e1 := Z3.c1
  go_wp2_with fail
  refine (HZ.out _).mono ?_
  rintro o w4 ⟨C, cn, cd, HC0, rfl, hb⟩
  have HC := Lib.hid HC0
  clear HC0
  have A4 := (((A3.keep hb).alloc (.cells #[.int .i64 cn, .int .i64 cd] 25)).alloc (.cells #[.int .i64 0, .int .i64 1] 25)).alloc (.cells #[.int .i64 1, .int .i64 1] 25)
  have D4 := (((D3.keep hb).alloc (.cells #[.int .i64 cn, .int .i64 cd] 25)).alloc (.cells #[.int .i64 0, .int .i64 1] 25)).alloc (.cells #[.int .i64 1, .int .i64 1] 25)
  have C4 := ((Box2.new w4 (.int .i64 cn) (.int .i64 cd) 25).alloc (.cells #[.int .i64 0, .int .i64 1] 25)).alloc (.cells #[.int .i64 1, .int .i64 1] 25)
  have N4 := (Box2.newAt (W := w4.alloc (.cells #[.int .i64 cn, .int .i64 cd] 25)) (B := w4.heap.size + 1) (by simp) (.int .i64 0) (.int .i64 1) 25).alloc (.cells #[.int .i64 1, .int .i64 1] 25)
  have O4 := Box2.newAt (W := (w4.alloc (.cells #[.int .i64 cn, .int .i64 cd] 25)).alloc (.cells #[.int .i64 0, .int .i64 1] 25)) (B := w4.heap.size + 1 + 1) (by simp) (.int .i64 1) (.int .i64 1) 25
  have b4 := (B3.trans (hb.mono B3.size))
  have B4 := ((b4.alloc b4.size (.cells #[.int .i64 cn, .int .i64 cd] 25)).alloc (by have := b4.size; simp; omega) (.cells #[.int .i64 0, .int .i64 1] 25)).alloc (by have := b4.size; simp; omega) (.cells #[.int .i64 1, .int .i64 1] 25)
  clear A3 D3 Z3 B3 b4 hb e0 e1 HZ
  obtain ⟨sN, sD, sE, hs1, hs2, hs3⟩ := fld_add HA.out HB.out
  obtain ⟨pN, pD, pE, hp1, hp2, hp3⟩ := fld_mul HA.out HB.out
  have S1 := Lib.hid hs1
  have S2 := Lib.hid hs2
  have S3 := Lib.hid hs3
  have P1 := Lib.hid hp1
  have P2 := Lib.hid hp2
  have P3 := Lib.hid hp3
  clear hs1 hs2 hs3 hp1 hp2 hp3
  go_upto_region 9 with fail
  generalize ((w4.alloc (.cells #[.int .i64 cn, .int .i64 cd] 25)).alloc (.cells #[.int .i64 0, .int .i64 1] 25)).alloc (.cells #[.int .i64 1, .int .i64 1] 25) = W1 at *
  go_cut [91] (fun v wx => v = .bool false ∧ ∃ z : Later W1, wx = z.val)
  case first => as_aux_lemma =>
    have HG := Lib.hid (fieldC HA.out)
    obtain ⟨a0, a1⟩ := A4.later
    obtain ⟨b0, b1⟩ := D4.later
    obtain ⟨n0, n1⟩ := N4.later
    obtain ⟨o0, o1⟩ := O4.later
    have q1 : (sN == sN) = true := by simp
    have q2 : (sD == sD) = true := by simp
    have q3 : (sE == sE) = true := by simp
    have q4 : (pN == pN) = true := by simp
    have q5 : (pD == pD) = true := by simp
    have q6 : (pE == pE) = true := by simp
    have q7 : (an == an) = true := by simp
    have q8 : (ad == ad) = true := by simp
    clear A4 D4 C4 N4 O4 B4 HA HB HC S3 P3
    refine wp_region_later (by kernel_rfl) (by kernel_rfl) ?_
    repeat (go_big_quiet_step (((first
      | (go_at_call 11; first | with_reducible exact later_of (S1.out _) | with_reducible exact later_of (S2.out _) | with_reducible exact later_of (HG.out.z _))
      | (go_at_call 12; first | with_reducible exact later_of (P1.out _) | with_reducible exact later_of (P2.out _) | with_reducible exact later_of (HG.out.o _) | with_reducible exact later_of (HG.out.n _))
      | (go_at_call 14; with_reducible exact later_of (HG.out.s _))
      | (go_at_call 13; with_reducible exact later_of (is_any _ _ _))))))
    refine wpQuiet_nil ?_
    intro _ hw'
    obtain ⟨z, hw''⟩ := hw'
    subst hw''
    go_wp2_with fail
    go_meet
    case rel => exact ⟨rfl, z, rfl⟩
  case rest => as_aux_lemma =>
    obtain ⟨rfl, z, rfl⟩ := hcut
    have A5 := A4.keep z.below
    have D5 := D4.keep z.below
    have C5 := C4.keep z.below
    have B5 := B4.trans (z.below.mono B4.size)
    generalize z.val = W2 at *
    clear A4 D4 C4 N4 O4 B4 z S2 P2
    obtain ⟨tN, tD, tE, ht1, _, ht3⟩ := fld_add HB.out HC.out
    obtain ⟨qN, qD, qE, hq1, _, hq3⟩ := fld_mul HB.out HC.out
    obtain ⟨rN', rD', rE', hr1, _, hr3⟩ := fld_mul HA.out HC.out
    have T1 := Lib.hid ht1
    have T3 := Lib.hid ht3
    have Q1 := Lib.hid hq1
    have Q3 := Lib.hid hq3
    have R1 := Lib.hid hr1
    have R3 := Lib.hid hr3
    clear ht1 ht3 hq1 hq3 hr1 hr3
    have a0 := A5.c0
    have a1 := A5.c1
    have b0 := D5.c0
    have b1 := D5.c1
    go_wp2_with fail
    refine (S1.out _).mono ?_
    rintro o w5 ⟨rfl, hb⟩
    have A6 := (A5.keep hb).alloc (.cells #[.int .i64 sN, .int .i64 sD, .int .i64 sE] 29)
    have D6 := (D5.keep hb).alloc (.cells #[.int .i64 sN, .int .i64 sD, .int .i64 sE] 29)
    have C6 := (C5.keep hb).alloc (.cells #[.int .i64 sN, .int .i64 sD, .int .i64 sE] 29)
    have S6 := Box3.new w5 (.int .i64 sN) (.int .i64 sD) (.int .i64 sE) 29
    have B6 := (B5.trans (hb.mono B5.size)).alloc (B5.trans (hb.mono B5.size)).size (.cells #[.int .i64 sN, .int .i64 sD, .int .i64 sE] 29)
    clear A5 D5 C5 B5 hb a0 a1 b0 b1
    have b0 := D6.c0
    have b1 := D6.c1
    have c0 := C6.c0
    have c1 := C6.c1
    go_wp2_with fail
    refine (T1.out _).mono ?_
    rintro o w6 ⟨rfl, hb⟩
    have A7 := (A6.keep hb).alloc (.cells #[.int .i64 tN, .int .i64 tD, .int .i64 tE] 29)
    have D7 := (D6.keep hb).alloc (.cells #[.int .i64 tN, .int .i64 tD, .int .i64 tE] 29)
    have C7 := (C6.keep hb).alloc (.cells #[.int .i64 tN, .int .i64 tD, .int .i64 tE] 29)
    have S7 := (S6.keep hb).alloc (.cells #[.int .i64 tN, .int .i64 tD, .int .i64 tE] 29)
    have T7 := Box3.new w6 (.int .i64 tN) (.int .i64 tD) (.int .i64 tE) 29
    have B7 := (B6.trans (hb.mono B6.size)).alloc (B6.trans (hb.mono B6.size)).size (.cells #[.int .i64 tN, .int .i64 tD, .int .i64 tE] 29)
    clear A6 D6 C6 S6 B6 hb b0 b1 c0 c1
    go_upto_region 13 with fail
    generalize w6.alloc (.cells #[.int .i64 tN, .int .i64 tD, .int .i64 tE] 29) = W3 at *
    go_cut [133] (fun v wx => v = .bool false ∧ ∃ z : Later W3, wx = z.val)
    case first => as_aux_lemma =>
      have hff := field_fr
      have hfe := field_err
      obtain ⟨a0, a1⟩ := A7.later
      obtain ⟨b0, b1⟩ := D7.later
      obtain ⟨c0, c1⟩ := C7.later
      obtain ⟨s0, s1, s2⟩ := S7.later
      obtain ⟨t0, t1, t2⟩ := T7.later
      have q7 : (an == an) = true := by simp
      have q8 : (ad == ad) = true := by simp
      clear A7 D7 C7 S7 T7 B7 P1 P3 Q1 Q3 R1 R3 S1 T1
      rcases S3.out with ⟨rfl, hS⟩ | rfl <;> rcases T3.out with ⟨rfl, hT⟩ | rfl
      · obtain ⟨ux, uy, uz, u1, u2⟩ := fld_assoc_sum HA.out HC.out hS hT
        have U1 := Lib.hid u1
        have U2 := Lib.hid u2
        have U0 := Lib.hid (sub_back HA.out HB.out hS)
        have q1 : (ux == ux) = true := by simp
        have q2 : (uy == uy) = true := by simp
        have q3 : (uz == uz) = true := by simp
        clear u1 u2 hS hT HA HB HC S3 T3
        as_aux_lemma =>
          refine wp_region_later (by kernel_rfl) (by kernel_rfl) ?_
          repeat (go_big_quiet_step (((first
            | (go_at_call 11; first | with_reducible exact later_of (U1.out _) | with_reducible exact later_of (U2.out _))
            | (go_at_call 14; with_reducible exact later_of (U0.out _))
            | (go_at_call 13; with_reducible exact later_of (is_any _ _ _))))))
          refine wpQuiet_nil ?_
          intro _ hw'
          obtain ⟨z, hw''⟩ := hw'
          subst hw''
          go_wp2_with fail
          go_meet
          case rel => exact ⟨rfl, z, rfl⟩
      · have U0 := Lib.hid (sub_back HA.out HB.out hS)
        clear hS HA HB HC S3 T3
        as_aux_lemma =>
          refine wp_region_later (by kernel_rfl) (by kernel_rfl) ?_
          repeat (go_big_quiet_step (((first
            | (go_at_call 14; with_reducible exact later_of (U0.out _))
            | (go_at_call 13; with_reducible exact later_of (is_any _ _ _))))))
          refine wpQuiet_nil ?_
          intro _ hw'
          obtain ⟨z, hw''⟩ := hw'
          subst hw''
          go_wp2_with fail
          go_meet
          case rel => exact ⟨rfl, z, rfl⟩
      all_goals
        clear HA HB HC S3 T3
        as_aux_lemma =>
          refine wp_region_later (by kernel_rfl) (by kernel_rfl) ?_
          repeat (go_big_quiet_step (fail))
          refine wpQuiet_nil ?_
          intro _ hw'
          obtain ⟨z, hw''⟩ := hw'
          subst hw''
          go_wp2_with fail
          go_meet
          case rel => exact ⟨rfl, z, rfl⟩
    case rest => as_aux_lemma =>
      obtain ⟨rfl, z, rfl⟩ := hcut
      have A8 := A7.keep z.below
      have D8 := D7.keep z.below
      have C8 := C7.keep z.below
      have S8 := S7.keep z.below
      have B8 := B7.trans (z.below.mono B7.size)
      generalize z.val = W4 at *
      clear A7 D7 C7 S7 T7 B7 z T1 T3 S1
      have a0 := A8.c0
      have a1 := A8.c1
      have b0 := D8.c0
      have b1 := D8.c1
      go_wp2_with fail
      refine (P1.out _).mono ?_
      rintro o w7 ⟨rfl, hb⟩
      have A9 := (A8.keep hb).alloc (.cells #[.int .i64 pN, .int .i64 pD, .int .i64 pE] 29)
      have D9 := (D8.keep hb).alloc (.cells #[.int .i64 pN, .int .i64 pD, .int .i64 pE] 29)
      have C9 := (C8.keep hb).alloc (.cells #[.int .i64 pN, .int .i64 pD, .int .i64 pE] 29)
      have S9 := (S8.keep hb).alloc (.cells #[.int .i64 pN, .int .i64 pD, .int .i64 pE] 29)
      have P9 := Box3.new w7 (.int .i64 pN) (.int .i64 pD) (.int .i64 pE) 29
      have B9 := (B8.trans (hb.mono B8.size)).alloc (B8.trans (hb.mono B8.size)).size (.cells #[.int .i64 pN, .int .i64 pD, .int .i64 pE] 29)
      clear A8 D8 C8 S8 B8 hb a0 a1 b0 b1
      have b0 := D9.c0
      have b1 := D9.c1
      have c0 := C9.c0
      have c1 := C9.c1
      go_wp2_with fail
      refine (Q1.out _).mono ?_
      rintro o w8 ⟨rfl, hb⟩
      have A10 := (A9.keep hb).alloc (.cells #[.int .i64 qN, .int .i64 qD, .int .i64 qE] 29)
      have D10 := (D9.keep hb).alloc (.cells #[.int .i64 qN, .int .i64 qD, .int .i64 qE] 29)
      have C10 := (C9.keep hb).alloc (.cells #[.int .i64 qN, .int .i64 qD, .int .i64 qE] 29)
      have S10 := (S9.keep hb).alloc (.cells #[.int .i64 qN, .int .i64 qD, .int .i64 qE] 29)
      have P10 := (P9.keep hb).alloc (.cells #[.int .i64 qN, .int .i64 qD, .int .i64 qE] 29)
      have Q10 := Box3.new w8 (.int .i64 qN) (.int .i64 qD) (.int .i64 qE) 29
      have B10 := (B9.trans (hb.mono B9.size)).alloc (B9.trans (hb.mono B9.size)).size (.cells #[.int .i64 qN, .int .i64 qD, .int .i64 qE] 29)
      clear A9 D9 C9 S9 P9 B9 hb b0 b1 c0 c1
      go_upto_region 17 with fail
      generalize w8.alloc (.cells #[.int .i64 qN, .int .i64 qD, .int .i64 qE] 29) = W5 at *
      go_cut [180] (fun v wx => v = .bool false ∧ ∃ z : Later W5, wx = z.val)
      case first => as_aux_lemma =>
        have hff := field_fr
        have hfe := field_err
        obtain ⟨a0, a1⟩ := A10.later
        obtain ⟨b0, b1⟩ := D10.later
        obtain ⟨c0, c1⟩ := C10.later
        obtain ⟨s0, s1, s2⟩ := P10.later
        obtain ⟨t0, t1, t2⟩ := Q10.later
        have q7 : (an == an) = true := by simp
        have q8 : (ad == ad) = true := by simp
        clear A10 D10 C10 S10 P10 Q10 B10 P1 Q1 R1 R3 S3
        by_cases hb0 : bn = 0
        · have nb : (bn != 0) = false := by simpa using hb0
          clear hb0
          rcases P3.out with ⟨rfl, hS⟩ | rfl <;> rcases Q3.out with ⟨rfl, hT⟩ | rfl
          · obtain ⟨ux, uy, uz, u1, u2⟩ := fld_assoc_prod HA.out HC.out hS hT
            have U1 := Lib.hid u1
            have U2 := Lib.hid u2
            have q1 : (ux == ux) = true := by simp
            have q2 : (uy == uy) = true := by simp
            have q3 : (uz == uz) = true := by simp
            clear u1 u2 hS hT HA HB HC P3 Q3
            as_aux_lemma =>
              refine wp_region_later (by kernel_rfl) (by kernel_rfl) ?_
              repeat (go_big_quiet_step (((first
                | (go_at_call 12; first | with_reducible exact later_of (U1.out _) | with_reducible exact later_of (U2.out _))))))
              refine wpQuiet_nil ?_
              intro _ hw'
              obtain ⟨z, hw''⟩ := hw'
              subst hw''
              go_wp2_with fail
              go_meet
              case rel => exact ⟨rfl, z, rfl⟩
          all_goals
            clear HA HB HC P3 Q3
            as_aux_lemma =>
              refine wp_region_later (by kernel_rfl) (by kernel_rfl) ?_
              repeat (go_big_quiet_step (fail))
              refine wpQuiet_nil ?_
              intro _ hw'
              obtain ⟨z, hw''⟩ := hw'
              subst hw''
              go_wp2_with fail
              go_meet
              case rel => exact ⟨rfl, z, rfl⟩
        · have nb : (bn != 0) = true := by simpa using hb0
          have HN := Lib.hid hb0
          clear hb0
          rcases P3.out with ⟨rfl, hS⟩ | rfl <;> rcases Q3.out with ⟨rfl, hT⟩ | rfl
          · obtain ⟨ux, uy, uz, u1, u2⟩ := fld_assoc_prod HA.out HC.out hS hT
            have U1 := Lib.hid u1
            have U2 := Lib.hid u2
            have U0 := Lib.hid (div_back HA.out HB.out HN.out hS)
            have q1 : (ux == ux) = true := by simp
            have q2 : (uy == uy) = true := by simp
            have q3 : (uz == uz) = true := by simp
            clear u1 u2 hS hT HA HB HC P3 Q3 HN
            as_aux_lemma =>
              refine wp_region_later (by kernel_rfl) (by kernel_rfl) ?_
              repeat (go_big_quiet_step (((first
                | (go_at_call 12; first | with_reducible exact later_of (U1.out _) | with_reducible exact later_of (U2.out _))
                | (go_at_call 15; with_reducible exact later_of (U0.out _))
                | (go_at_call 13; with_reducible exact later_of (is_any _ _ _))))))
              refine wpQuiet_nil ?_
              intro _ hw'
              obtain ⟨z, hw''⟩ := hw'
              subst hw''
              go_wp2_with fail
              go_meet
              case rel => exact ⟨rfl, z, rfl⟩
          · have U0 := Lib.hid (div_back HA.out HB.out HN.out hS)
            clear hS HA HB HC P3 Q3 HN
            as_aux_lemma =>
              refine wp_region_later (by kernel_rfl) (by kernel_rfl) ?_
              repeat (go_big_quiet_step (((first
                | (go_at_call 15; with_reducible exact later_of (U0.out _))
                | (go_at_call 13; with_reducible exact later_of (is_any _ _ _))))))
              refine wpQuiet_nil ?_
              intro _ hw'
              obtain ⟨z, hw''⟩ := hw'
              subst hw''
              go_wp2_with fail
              go_meet
              case rel => exact ⟨rfl, z, rfl⟩
          all_goals
            clear HA HB HC P3 Q3 HN
            as_aux_lemma =>
              refine wp_region_later (by kernel_rfl) (by kernel_rfl) ?_
              repeat (go_big_quiet_step (fail))
              refine wpQuiet_nil ?_
              intro _ hw'
              obtain ⟨z, hw''⟩ := hw'
              subst hw''
              go_wp2_with fail
              go_meet
              case rel => exact ⟨rfl, z, rfl⟩
      case rest => as_aux_lemma =>
        obtain ⟨rfl, z, rfl⟩ := hcut
        have A11 := A10.keep z.below
        have C11 := C10.keep z.below
        have S11 := S10.keep z.below
        have Q11 := Q10.keep z.below
        have B11 := B10.trans (z.below.mono B10.size)
        generalize z.val = W6 at *
        clear A10 D10 C10 S10 P10 Q10 B10 z P1 P3 Q1
        have a0 := A11.c0
        have a1 := A11.c1
        have c0 := C11.c0
        have c1 := C11.c1
        go_wp2_with fail
        refine (R1.out _).mono ?_
        rintro o w9 ⟨rfl, hb⟩
        have hlC := (C11.keep hb).lt
        have hlS := (S11.keep hb).lt
        have hlQ := (Q11.keep hb).lt
        have C12 := ((C11.keep hb).alloc (.cells #[.int .i64 rN', .int .i64 rD', .int .i64 rE'] 29)).alloc (.cells #[.int .i64 0, .int .i64 0, .int .i64 2] 29)
        have S12 := ((S11.keep hb).alloc (.cells #[.int .i64 rN', .int .i64 rD', .int .i64 rE'] 29)).alloc (.cells #[.int .i64 0, .int .i64 0, .int .i64 2] 29)
        have Q12 := ((Q11.keep hb).alloc (.cells #[.int .i64 rN', .int .i64 rD', .int .i64 rE'] 29)).alloc (.cells #[.int .i64 0, .int .i64 0, .int .i64 2] 29)
        have R12 := (Box3.new w9 (.int .i64 rN') (.int .i64 rD') (.int .i64 rE') 29).alloc (.cells #[.int .i64 0, .int .i64 0, .int .i64 2] 29)
        have L12 := Box3.newAt (W := w9.alloc (.cells #[.int .i64 rN', .int .i64 rD', .int .i64 rE'] 29)) (B := w9.heap.size + 1) (by simp) (.int .i64 0) (.int .i64 0) (.int .i64 2) 29
        have b12 := B11.trans (hb.mono B11.size)
        have hle : w.heap.size ≤ w9.heap.size := b12.size
        have B12 := (b12.alloc b12.size (.cells #[.int .i64 rN', .int .i64 rD', .int .i64 rE'] 29)).alloc (by simp; omega) (.cells #[.int .i64 0, .int .i64 0, .int .i64 2] 29)
        clear A11 C11 S11 Q11 B11 b12 hb a0 a1 c0 c1 R1
        go_upto_region 21 with fail
        generalize (w9.alloc (.cells #[.int .i64 rN', .int .i64 rD', .int .i64 rE'] 29)).alloc (.cells #[.int .i64 0, .int .i64 0, .int .i64 2] 29) = W7 at *
        have hne : ∀ k, k < w9.heap.size → w9.heap.size + 1 ≠ k := fun k h => by omega
        have HN := Lib.hid hne
        clear hne
        rcases S3.out with ⟨rfl, hS⟩ | rfl <;> rcases R3.out with ⟨rfl, hR⟩ | rfl <;> rcases Q3.out with ⟨rfl, hQ⟩ | rfl
        · obtain ⟨lN, lD, lE, hl, u1, u2⟩ := fld_dist HC.out hS hR hQ
          have UL := Lib.hid u1
          have UR := Lib.hid u2
          have HL := Lib.hid hl
          clear u1 u2 hl hS hR hQ HA HB HC S3 R3 Q3
          as_aux_lemma =>
            have s0 := S12.c0
            have s1 := S12.c1
            have s2 := S12.c2
            have c0 := C12.c0
            have c1 := C12.c1
            go_wp2_with fail
            refine (UL.out _).mono ?_
            rintro o w10 ⟨rfl, hb⟩
            have L13 := L12.keep hb
            have Q13 := Q12.keep hb
            have R13 := R12.keep hb
            have B13 := B12.trans (hb.mono B12.size)
            clear S12 C12 L12 Q12 R12 B12 hb s0 s1 s2 c0 c1
            have f0 := L13.f0
            have f1 := L13.f1
            have f2 := L13.f2
            have g0 := L13.c0
            have g1 := L13.c1
            have g2 := L13.c2
            go_upto_region 23 with fail
            have L14 := L13.set (.int .i64 lN) (.int .i64 lD) (.int .i64 lE)
            have Q14 := ((Q13.far (a := w9.heap.size + 1) (i := 0) (HN.out _ hlQ) (.int .i64 lN)).far (a := w9.heap.size + 1) (i := 1) (HN.out _ hlQ) (.int .i64 lD)).far (a := w9.heap.size + 1) (i := 2) (HN.out _ hlQ) (.int .i64 lE)
            have R14 := ((R13.far (a := w9.heap.size + 1) (i := 0) (by omega) (.int .i64 lN)).far (a := w9.heap.size + 1) (i := 1) (by omega) (.int .i64 lD)).far (a := w9.heap.size + 1) (i := 2) (by omega) (.int .i64 lE)
            have B14 := below_set3 (b := w9.heap.size + 1) B13 (by omega) (.int .i64 lN) (.int .i64 lD) (.int .i64 lE)
            generalize ((w10.setCell ⟨w9.heap.size + 1, 0, none⟩ (.int .i64 lN)).setCell ⟨w9.heap.size + 1, 1, none⟩ (.int .i64 lD)).setCell ⟨w9.heap.size + 1, 2, none⟩ (.int .i64 lE) = W8 at *
            clear L13 Q13 R13 B13 f0 f1 f2 g0 g1 g2
            have hll := L14.lt
            have hle8 := B14.size
            have L15 := L14.alloc (.cells #[.int .i64 0, .int .i64 0, .int .i64 2] 29)
            have Q15 := Q14.alloc (.cells #[.int .i64 0, .int .i64 0, .int .i64 2] 29)
            have R15 := R14.alloc (.cells #[.int .i64 0, .int .i64 0, .int .i64 2] 29)
            have T15 := Box3.new W8 (.int .i64 0) (.int .i64 0) (.int .i64 2) 29
            have B15 := B14.alloc hle8 (.cells #[.int .i64 0, .int .i64 0, .int .i64 2] 29)
            clear L14 Q14 R14 B14
            go_upto_region 24 with fail
            generalize hbk : W8.heap.size = bk at *
            generalize W8.alloc (.cells #[.int .i64 0, .int .i64 0, .int .i64 2] 29) = W9 at *
            clear hbk
            have r0 := R15.c0
            have r1 := R15.c1
            have r2 := R15.c2
            have q0 := Q15.c0
            have q1 := Q15.c1
            have q2 := Q15.c2
            go_wp2_with fail
            refine (UR.out _).mono ?_
            rintro o w11 ⟨rfl, hb⟩
            have L16 := L15.keep hb
            have T16 := T15.keep hb
            have B16 := B15.trans (hb.mono B15.size)
            clear L15 Q15 R15 T15 B15 hb r0 r1 r2 q0 q1 q2
            have f0 := T16.f0
            have f1 := T16.f1
            have f2 := T16.f2
            have g0 := T16.c0
            have g1 := T16.c1
            have g2 := T16.c2
            go_upto_region 26 with fail
            have T17 := T16.set (.int .i64 lN) (.int .i64 lD) (.int .i64 lE)
            have L17 := ((L16.far (a := bk) (i := 0) (by omega) (.int .i64 lN)).far (a := bk) (i := 1) (by omega) (.int .i64 lD)).far (a := bk) (i := 2) (by omega) (.int .i64 lE)
            have B17 := below_set3 (b := bk) B16 hle8 (.int .i64 lN) (.int .i64 lD) (.int .i64 lE)
            generalize ((w11.setCell ⟨bk, 0, none⟩ (.int .i64 lN)).setCell ⟨bk, 1, none⟩ (.int .i64 lD)).setCell ⟨bk, 2, none⟩ (.int .i64 lE) = W10 at *
            clear L16 T16 B16 f0 f1 f2 g0 g1 g2
            have l0 := L17.c0
            have l1 := L17.c1
            have l2 := L17.c2
            have t0 := T17.c0
            have t1 := T17.c1
            have t2 := T17.c2
            clear L17 T17
            have e1 : (lN == lN) = true := by simp
            have e2 : (lD == lD) = true := by simp
            rcases HL.out with rfl | rfl
            all_goals
              go_wp2_with fail
              go_ret
              exact ⟨rfl, B17⟩
        · obtain ⟨lN, lD, lE, hl, u1⟩ := res_mul hS HC.out
          have UL := Lib.hid u1
          have HL := Lib.hid hl
          clear u1 hl hS HA HB HC S3 R3 Q3
          as_aux_lemma =>
            have s0 := S12.c0
            have s1 := S12.c1
            have s2 := S12.c2
            have c0 := C12.c0
            have c1 := C12.c1
            go_wp2_with fail
            refine (UL.out _).mono ?_
            rintro o w10 ⟨rfl, hb⟩
            have L13 := L12.keep hb
            have Q13 := Q12.keep hb
            have R13 := R12.keep hb
            have B13 := B12.trans (hb.mono B12.size)
            clear S12 C12 L12 Q12 R12 B12 hb s0 s1 s2 c0 c1
            have f0 := L13.f0
            have f1 := L13.f1
            have f2 := L13.f2
            have g0 := L13.c0
            have g1 := L13.c1
            have g2 := L13.c2
            go_upto_region 23 with fail
            have L14 := L13.set (.int .i64 lN) (.int .i64 lD) (.int .i64 lE)
            have Q14 := ((Q13.far (a := w9.heap.size + 1) (i := 0) (HN.out _ hlQ) (.int .i64 lN)).far (a := w9.heap.size + 1) (i := 1) (HN.out _ hlQ) (.int .i64 lD)).far (a := w9.heap.size + 1) (i := 2) (HN.out _ hlQ) (.int .i64 lE)
            have R14 := ((R13.far (a := w9.heap.size + 1) (i := 0) (by omega) (.int .i64 lN)).far (a := w9.heap.size + 1) (i := 1) (by omega) (.int .i64 lD)).far (a := w9.heap.size + 1) (i := 2) (by omega) (.int .i64 lE)
            have B14 := below_set3 (b := w9.heap.size + 1) B13 (by omega) (.int .i64 lN) (.int .i64 lD) (.int .i64 lE)
            generalize ((w10.setCell ⟨w9.heap.size + 1, 0, none⟩ (.int .i64 lN)).setCell ⟨w9.heap.size + 1, 1, none⟩ (.int .i64 lD)).setCell ⟨w9.heap.size + 1, 2, none⟩ (.int .i64 lE) = W8 at *
            clear L13 Q13 R13 B13 f0 f1 f2 g0 g1 g2
            have hll := L14.lt
            have hle8 := B14.size
            have L15 := L14.alloc (.cells #[.int .i64 0, .int .i64 0, .int .i64 2] 29)
            have Q15 := Q14.alloc (.cells #[.int .i64 0, .int .i64 0, .int .i64 2] 29)
            have R15 := R14.alloc (.cells #[.int .i64 0, .int .i64 0, .int .i64 2] 29)
            have T15 := Box3.new W8 (.int .i64 0) (.int .i64 0) (.int .i64 2) 29
            have B15 := B14.alloc hle8 (.cells #[.int .i64 0, .int .i64 0, .int .i64 2] 29)
            clear L14 Q14 R14 B14
            go_upto_region 24 with fail
            generalize hbk : W8.heap.size = bk at *
            generalize W8.alloc (.cells #[.int .i64 0, .int .i64 0, .int .i64 2] 29) = W9 at *
            clear hbk
            have r2 := R15.c2
            have q2 := Q15.c2
            go_upto_region 26 with fail
            have L17 := L15
            have T17 := T15
            have B17 := B15
            clear L15 Q15 R15 T15 B15 r2 q2
            have l0 := L17.c0
            have l1 := L17.c1
            have l2 := L17.c2
            have t0 := T17.c0
            have t1 := T17.c1
            have t2 := T17.c2
            clear L17 T17
            rcases HL.out with rfl | rfl
            all_goals
              go_wp2_with fail
              go_ret
              exact ⟨rfl, B17⟩
        · obtain ⟨lN, lD, lE, hl, u1⟩ := res_mul hS HC.out
          have UL := Lib.hid u1
          have HL := Lib.hid hl
          clear u1 hl hS HA HB HC S3 R3 Q3
          as_aux_lemma =>
            have s0 := S12.c0
            have s1 := S12.c1
            have s2 := S12.c2
            have c0 := C12.c0
            have c1 := C12.c1
            go_wp2_with fail
            refine (UL.out _).mono ?_
            rintro o w10 ⟨rfl, hb⟩
            have L13 := L12.keep hb
            have Q13 := Q12.keep hb
            have R13 := R12.keep hb
            have B13 := B12.trans (hb.mono B12.size)
            clear S12 C12 L12 Q12 R12 B12 hb s0 s1 s2 c0 c1
            have f0 := L13.f0
            have f1 := L13.f1
            have f2 := L13.f2
            have g0 := L13.c0
            have g1 := L13.c1
            have g2 := L13.c2
            go_upto_region 23 with fail
            have L14 := L13.set (.int .i64 lN) (.int .i64 lD) (.int .i64 lE)
            have Q14 := ((Q13.far (a := w9.heap.size + 1) (i := 0) (HN.out _ hlQ) (.int .i64 lN)).far (a := w9.heap.size + 1) (i := 1) (HN.out _ hlQ) (.int .i64 lD)).far (a := w9.heap.size + 1) (i := 2) (HN.out _ hlQ) (.int .i64 lE)
            have R14 := ((R13.far (a := w9.heap.size + 1) (i := 0) (by omega) (.int .i64 lN)).far (a := w9.heap.size + 1) (i := 1) (by omega) (.int .i64 lD)).far (a := w9.heap.size + 1) (i := 2) (by omega) (.int .i64 lE)
            have B14 := below_set3 (b := w9.heap.size + 1) B13 (by omega) (.int .i64 lN) (.int .i64 lD) (.int .i64 lE)
            generalize ((w10.setCell ⟨w9.heap.size + 1, 0, none⟩ (.int .i64 lN)).setCell ⟨w9.heap.size + 1, 1, none⟩ (.int .i64 lD)).setCell ⟨w9.heap.size + 1, 2, none⟩ (.int .i64 lE) = W8 at *
            clear L13 Q13 R13 B13 f0 f1 f2 g0 g1 g2
            have hll := L14.lt
            have hle8 := B14.size
            have L15 := L14.alloc (.cells #[.int .i64 0, .int .i64 0, .int .i64 2] 29)
            have Q15 := Q14.alloc (.cells #[.int .i64 0, .int .i64 0, .int .i64 2] 29)
            have R15 := R14.alloc (.cells #[.int .i64 0, .int .i64 0, .int .i64 2] 29)
            have T15 := Box3.new W8 (.int .i64 0) (.int .i64 0) (.int .i64 2) 29
            have B15 := B14.alloc hle8 (.cells #[.int .i64 0, .int .i64 0, .int .i64 2] 29)
            clear L14 Q14 R14 B14
            go_upto_region 24 with fail
            generalize hbk : W8.heap.size = bk at *
            generalize W8.alloc (.cells #[.int .i64 0, .int .i64 0, .int .i64 2] 29) = W9 at *
            clear hbk
            have r2 := R15.c2
            have q2 := Q15.c2
            go_upto_region 26 with fail
            have L17 := L15
            have T17 := T15
            have B17 := B15
            clear L15 Q15 R15 T15 B15 r2 q2
            have l0 := L17.c0
            have l1 := L17.c1
            have l2 := L17.c2
            have t0 := T17.c0
            have t1 := T17.c1
            have t2 := T17.c2
            clear L17 T17
            rcases HL.out with rfl | rfl
            all_goals
              go_wp2_with fail
              go_ret
              exact ⟨rfl, B17⟩
        · obtain ⟨lN, lD, lE, hl, u1⟩ := res_mul hS HC.out
          have UL := Lib.hid u1
          have HL := Lib.hid hl
          clear u1 hl hS HA HB HC S3 R3 Q3
          as_aux_lemma =>
            have s0 := S12.c0
            have s1 := S12.c1
            have s2 := S12.c2
            have c0 := C12.c0
            have c1 := C12.c1
            go_wp2_with fail
            refine (UL.out _).mono ?_
            rintro o w10 ⟨rfl, hb⟩
            have L13 := L12.keep hb
            have Q13 := Q12.keep hb
            have R13 := R12.keep hb
            have B13 := B12.trans (hb.mono B12.size)
            clear S12 C12 L12 Q12 R12 B12 hb s0 s1 s2 c0 c1
            have f0 := L13.f0
            have f1 := L13.f1
            have f2 := L13.f2
            have g0 := L13.c0
            have g1 := L13.c1
            have g2 := L13.c2
            go_upto_region 23 with fail
            have L14 := L13.set (.int .i64 lN) (.int .i64 lD) (.int .i64 lE)
            have Q14 := ((Q13.far (a := w9.heap.size + 1) (i := 0) (HN.out _ hlQ) (.int .i64 lN)).far (a := w9.heap.size + 1) (i := 1) (HN.out _ hlQ) (.int .i64 lD)).far (a := w9.heap.size + 1) (i := 2) (HN.out _ hlQ) (.int .i64 lE)
            have R14 := ((R13.far (a := w9.heap.size + 1) (i := 0) (by omega) (.int .i64 lN)).far (a := w9.heap.size + 1) (i := 1) (by omega) (.int .i64 lD)).far (a := w9.heap.size + 1) (i := 2) (by omega) (.int .i64 lE)
            have B14 := below_set3 (b := w9.heap.size + 1) B13 (by omega) (.int .i64 lN) (.int .i64 lD) (.int .i64 lE)
            generalize ((w10.setCell ⟨w9.heap.size + 1, 0, none⟩ (.int .i64 lN)).setCell ⟨w9.heap.size + 1, 1, none⟩ (.int .i64 lD)).setCell ⟨w9.heap.size + 1, 2, none⟩ (.int .i64 lE) = W8 at *
            clear L13 Q13 R13 B13 f0 f1 f2 g0 g1 g2
            have hll := L14.lt
            have hle8 := B14.size
            have L15 := L14.alloc (.cells #[.int .i64 0, .int .i64 0, .int .i64 2] 29)
            have Q15 := Q14.alloc (.cells #[.int .i64 0, .int .i64 0, .int .i64 2] 29)
            have R15 := R14.alloc (.cells #[.int .i64 0, .int .i64 0, .int .i64 2] 29)
            have T15 := Box3.new W8 (.int .i64 0) (.int .i64 0) (.int .i64 2) 29
            have B15 := B14.alloc hle8 (.cells #[.int .i64 0, .int .i64 0, .int .i64 2] 29)
            clear L14 Q14 R14 B14
            go_upto_region 24 with fail
            generalize hbk : W8.heap.size = bk at *
            generalize W8.alloc (.cells #[.int .i64 0, .int .i64 0, .int .i64 2] 29) = W9 at *
            clear hbk
            have r2 := R15.c2
            have q2 := Q15.c2
            go_upto_region 26 with fail
            have L17 := L15
            have T17 := T15
            have B17 := B15
            clear L15 Q15 R15 T15 B15 r2 q2
            have l0 := L17.c0
            have l1 := L17.c1
            have l2 := L17.c2
            have t0 := T17.c0
            have t1 := T17.c1
            have t2 := T17.c2
            clear L17 T17
            rcases HL.out with rfl | rfl
            all_goals
              go_wp2_with fail
              go_ret
              exact ⟨rfl, B17⟩
        · obtain ⟨kN, kD, kE, hl, u2⟩ := res_add hR hQ
          have UR := Lib.hid u2
          clear u2 hl hR hQ HA HB HC S3 R3 Q3
          as_aux_lemma =>
            have s2 := S12.c2
            go_upto_region 23 with fail
            have L14 := L12
            have Q14 := Q12
            have R14 := R12
            have B14 := B12
            clear S12 C12 L12 Q12 R12 B12 s2
            obtain ⟨W8, hW8⟩ : ∃ W8, W7 = W8 := ⟨_, rfl⟩
            subst hW8
            have hll := L14.lt
            have hle8 := B14.size
            have L15 := L14.alloc (.cells #[.int .i64 0, .int .i64 0, .int .i64 2] 29)
            have Q15 := Q14.alloc (.cells #[.int .i64 0, .int .i64 0, .int .i64 2] 29)
            have R15 := R14.alloc (.cells #[.int .i64 0, .int .i64 0, .int .i64 2] 29)
            have T15 := Box3.new W7 (.int .i64 0) (.int .i64 0) (.int .i64 2) 29
            have B15 := B14.alloc hle8 (.cells #[.int .i64 0, .int .i64 0, .int .i64 2] 29)
            clear L14 Q14 R14 B14
            go_upto_region 24 with fail
            generalize hbk : W7.heap.size = bk at *
            generalize W7.alloc (.cells #[.int .i64 0, .int .i64 0, .int .i64 2] 29) = W9 at *
            clear hbk
            have r0 := R15.c0
            have r1 := R15.c1
            have r2 := R15.c2
            have q0 := Q15.c0
            have q1 := Q15.c1
            have q2 := Q15.c2
            go_wp2_with fail
            refine (UR.out _).mono ?_
            rintro o w11 ⟨rfl, hb⟩
            have L16 := L15.keep hb
            have T16 := T15.keep hb
            have B16 := B15.trans (hb.mono B15.size)
            clear L15 Q15 R15 T15 B15 hb r0 r1 r2 q0 q1 q2
            have f0 := T16.f0
            have f1 := T16.f1
            have f2 := T16.f2
            have g0 := T16.c0
            have g1 := T16.c1
            have g2 := T16.c2
            go_upto_region 26 with fail
            have T17 := T16.set (.int .i64 kN) (.int .i64 kD) (.int .i64 kE)
            have L17 := ((L16.far (a := bk) (i := 0) (by omega) (.int .i64 kN)).far (a := bk) (i := 1) (by omega) (.int .i64 kD)).far (a := bk) (i := 2) (by omega) (.int .i64 kE)
            have B17 := below_set3 (b := bk) B16 hle8 (.int .i64 kN) (.int .i64 kD) (.int .i64 kE)
            generalize ((w11.setCell ⟨bk, 0, none⟩ (.int .i64 kN)).setCell ⟨bk, 1, none⟩ (.int .i64 kD)).setCell ⟨bk, 2, none⟩ (.int .i64 kE) = W10 at *
            clear L16 T16 B16 f0 f1 f2 g0 g1 g2
            have l0 := L17.c0
            have l1 := L17.c1
            have l2 := L17.c2
            have t0 := T17.c0
            have t1 := T17.c1
            have t2 := T17.c2
            clear L17 T17
            go_wp2_with fail
            go_ret
            exact ⟨rfl, B17⟩
        · clear HA HB HC S3 R3 Q3
          as_aux_lemma =>
            have s2 := S12.c2
            go_upto_region 23 with fail
            have L14 := L12
            have Q14 := Q12
            have R14 := R12
            have B14 := B12
            clear S12 C12 L12 Q12 R12 B12 s2
            obtain ⟨W8, hW8⟩ : ∃ W8, W7 = W8 := ⟨_, rfl⟩
            subst hW8
            have hll := L14.lt
            have hle8 := B14.size
            have L15 := L14.alloc (.cells #[.int .i64 0, .int .i64 0, .int .i64 2] 29)
            have Q15 := Q14.alloc (.cells #[.int .i64 0, .int .i64 0, .int .i64 2] 29)
            have R15 := R14.alloc (.cells #[.int .i64 0, .int .i64 0, .int .i64 2] 29)
            have T15 := Box3.new W7 (.int .i64 0) (.int .i64 0) (.int .i64 2) 29
            have B15 := B14.alloc hle8 (.cells #[.int .i64 0, .int .i64 0, .int .i64 2] 29)
            clear L14 Q14 R14 B14
            go_upto_region 24 with fail
            generalize hbk : W7.heap.size = bk at *
            generalize W7.alloc (.cells #[.int .i64 0, .int .i64 0, .int .i64 2] 29) = W9 at *
            clear hbk
            have r2 := R15.c2
            have q2 := Q15.c2
            go_upto_region 26 with fail
            have L17 := L15
            have T17 := T15
            have B17 := B15
            clear L15 Q15 R15 T15 B15 r2 q2
            have l0 := L17.c0
            have l1 := L17.c1
            have l2 := L17.c2
            have t0 := T17.c0
            have t1 := T17.c1
            have t2 := T17.c2
            clear L17 T17
            go_wp2_with fail
            go_ret
            exact ⟨rfl, B17⟩
        · clear HA HB HC S3 R3 Q3
          as_aux_lemma =>
            have s2 := S12.c2
            go_upto_region 23 with fail
            have L14 := L12
            have Q14 := Q12
            have R14 := R12
            have B14 := B12
            clear S12 C12 L12 Q12 R12 B12 s2
            obtain ⟨W8, hW8⟩ : ∃ W8, W7 = W8 := ⟨_, rfl⟩
            subst hW8
            have hll := L14.lt
            have hle8 := B14.size
            have L15 := L14.alloc (.cells #[.int .i64 0, .int .i64 0, .int .i64 2] 29)
            have Q15 := Q14.alloc (.cells #[.int .i64 0, .int .i64 0, .int .i64 2] 29)
            have R15 := R14.alloc (.cells #[.int .i64 0, .int .i64 0, .int .i64 2] 29)
            have T15 := Box3.new W7 (.int .i64 0) (.int .i64 0) (.int .i64 2) 29
            have B15 := B14.alloc hle8 (.cells #[.int .i64 0, .int .i64 0, .int .i64 2] 29)
            clear L14 Q14 R14 B14
            go_upto_region 24 with fail
            generalize hbk : W7.heap.size = bk at *
            generalize W7.alloc (.cells #[.int .i64 0, .int .i64 0, .int .i64 2] 29) = W9 at *
            clear hbk
            have r2 := R15.c2
            have q2 := Q15.c2
            go_upto_region 26 with fail
            have L17 := L15
            have T17 := T15
            have B17 := B15
            clear L15 Q15 R15 T15 B15 r2 q2
            have l0 := L17.c0
            have l1 := L17.c1
            have l2 := L17.c2
            have t0 := T17.c0
            have t1 := T17.c1
            have t2 := T17.c2
            clear L17 T17
            go_wp2_with fail
            go_ret
            exact ⟨rfl, B17⟩
        · clear HA HB HC S3 R3 Q3
          as_aux_lemma =>
            have s2 := S12.c2
            go_upto_region 23 with fail
            have L14 := L12
            have Q14 := Q12
            have R14 := R12
            have B14 := B12
            clear S12 C12 L12 Q12 R12 B12 s2
            obtain ⟨W8, hW8⟩ : ∃ W8, W7 = W8 := ⟨_, rfl⟩
            subst hW8
            have hll := L14.lt
            have hle8 := B14.size
            have L15 := L14.alloc (.cells #[.int .i64 0, .int .i64 0, .int .i64 2] 29)
            have Q15 := Q14.alloc (.cells #[.int .i64 0, .int .i64 0, .int .i64 2] 29)
            have R15 := R14.alloc (.cells #[.int .i64 0, .int .i64 0, .int .i64 2] 29)
            have T15 := Box3.new W7 (.int .i64 0) (.int .i64 0) (.int .i64 2) 29
            have B15 := B14.alloc hle8 (.cells #[.int .i64 0, .int .i64 0, .int .i64 2] 29)
            clear L14 Q14 R14 B14
            go_upto_region 24 with fail
            generalize hbk : W7.heap.size = bk at *
            generalize W7.alloc (.cells #[.int .i64 0, .int .i64 0, .int .i64 2] 29) = W9 at *
            clear hbk
            have r2 := R15.c2
            have q2 := Q15.c2
            go_upto_region 26 with fail
            have L17 := L15
            have T17 := T15
            have B17 := B15
            clear L15 Q15 R15 T15 B15 r2 q2
            have l0 := L17.c0
            have l1 := L17.c1
            have l2 := L17.c2
            have t0 := T17.c0
            have t1 := T17.c1
            have t2 := T17.c2
            clear L17 T17
            go_wp2_with fail
            go_ret
            exact ⟨rfl, B17⟩

end Fr
end Go.Proofs.YtcecdmooojkmoaaDoor
