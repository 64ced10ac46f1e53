/- Statement FractionOrder: the walk. -/
import Derived.Test.YtcecdmooojkmoaaDoorF12
import Derived.Deep.DeepCutAuto
namespace Go.Proofs.YtcecdmooojkmoaaDoor
open Go.RowKit Go.Shelf Go.Sort
namespace Fr
set_option linter.unusedVariables false

set_option maxRecDepth 100000 in
set_option maxHeartbeats 8000000 in
theorem order_walk (x0 x1 y0 y1 z0 z1 : Int) (w : World) (hx0 : I64 x0) (hx1 : I64 x1) (hy0 : I64 y0) (hy1 : I64 y1) (hz0 : I64 z0) (hz1 : I64 z1) (hv : Vars w) :
    Calls Tryd.prog 4 #[.agg #[.int .i64 x0, .int .i64 x1], .agg #[.int .i64 y0, .int .i64 y1], .agg #[.int .i64 z0, .int .i64 z1]] w fun o w' => o = .returned (.bool true) ∧ Below w.heap.size w w' := by
  have HX := Lib.hid (fun W : World => made_any x0 x1 W hx0 hx1)
  have HY := Lib.hid (fun W : World => made_any y0 y1 W hy0 hy1)
  have HZ := Lib.hid (fun W : World => made_any z0 z1 W hz0 hz1)
  clear hx0 hx1 hy0 hy1 hz0 hz1
  go_enter Tryd.func4, Tryd.ntmps4
  go_wp2_with fail
  have X0 := ((Box2.new w (.int .i64 x0) (.int .i64 x1) 22).alloc (.cells #[.int .i64 y0, .int .i64 y1] 22)).alloc (.cells #[.int .i64 z0, .int .i64 z1] 22)
  have Y0 := (Box2.newAt (W := w.alloc (.cells #[.int .i64 x0, .int .i64 x1] 22)) (B := w.heap.size + 1) (by simp) (.int .i64 y0) (.int .i64 y1) 22).alloc (.cells #[.int .i64 z0, .int .i64 z1] 22)
  have Z0 := Box2.newAt (W := (w.alloc (.cells #[.int .i64 x0, .int .i64 x1] 22)).alloc (.cells #[.int .i64 y0, .int .i64 y1] 22)) (B := w.heap.size + 1 + 1) (by simp) (.int .i64 z0) (.int .i64 z1) 22
  have B0 := (((Below.refl w.heap.size w).alloc (Nat.le_refl _) (.cells #[.int .i64 x0, .int .i64 x1] 22)).alloc (by simp) (.cells #[.int .i64 y0, .int .i64 y1] 22)).alloc (by simp; omega) (.cells #[.int .i64 z0, .int .i64 z1] 22)
  generalize ((w.alloc (.cells #[.int .i64 x0, .int .i64 x1] 22)).alloc (.cells #[.int .i64 y0, .int .i64 y1] 22)).alloc (.cells #[.int .i64 z0, .int .i64 z1] 22) = W0 at *
  refine (examples_any _ (hv.keep B0)).mono ?_
  rintro o w1 ⟨rfl, hb⟩
  have X1 := X0.keep hb
  have Y1 := Y0.keep hb
  have Z1 := Z0.keep hb
  have B1 := B0.trans (hb.mono B0.size)
  clear X0 Y0 Z0 B0 hb hv
  have c0 := X1.c0
  have c1 := X1.c1
  have d0 := Y1.c0
  have d1 := Y1.c1
  have e0 := Z1.c0
  have e1 := Z1.c1
  go_wp2_with fail
  refine (HX.out _).mono ?_
  rintro o w2 ⟨A, an, ad, HA0, rfl, hb⟩
  have HA := Lib.hid HA0
  clear HA0
  have A2 := Box2.new w2 (.int .i64 an) (.int .i64 ad) 25
  have Y2 := (Y1.keep hb).alloc (.cells #[.int .i64 an, .int .i64 ad] 25)
  have Z2 := (Z1.keep hb).alloc (.cells #[.int .i64 an, .int .i64 ad] 25)
  have B2 := (B1.trans (hb.mono B1.size)).alloc (B1.trans (hb.mono B1.size)).size (.cells #[.int .i64 an, .int .i64 ad] 25)
  clear X1 Y1 Z1 B1 hb c0 c1 d0 d1 e0 e1 HX
  have d0 := Y2.c0
  have d1 := Y2.c1
  go_wp2_with fail
  refine (HY.out _).mono ?_
  rintro o w3 ⟨B, bn, bd, HB0, rfl, hb⟩
  have HB := Lib.hid HB0
  clear HB0
  have A3 := (A2.keep hb).alloc (.cells #[.int .i64 bn, .int .i64 bd] 25)
  have Z3 := (Z2.keep hb).alloc (.cells #[.int .i64 bn, .int .i64 bd] 25)
  have D3 := Box2.new w3 (.int .i64 bn) (.int .i64 bd) 25
  have B3 := (B2.trans (hb.mono B2.size)).alloc (B2.trans (hb.mono B2.size)).size (.cells #[.int .i64 bn, .int .i64 bd] 25)
  clear A2 Y2 Z2 B2 hb d0 d1 HY
  have e0 := Z3.c0
  have e1 := Z3.c1
  go_wp2_with fail
  refine (HZ.out _).mono ?_
  rintro o w4 ⟨C, cn, cd, HC0, rfl, hb⟩
  have HC := Lib.hid HC0
  clear HC0
  have A4 := (A3.keep hb).alloc (.cells #[.int .i64 cn, .int .i64 cd] 25)
  have D4 := (D3.keep hb).alloc (.cells #[.int .i64 cn, .int .i64 cd] 25)
  have C4 := Box2.new w4 (.int .i64 cn) (.int .i64 cd) 25
  have B4 := (B3.trans (hb.mono B3.size)).alloc (B3.trans (hb.mono B3.size)).size (.cells #[.int .i64 cn, .int .i64 cd] 25)
  clear A3 D3 Z3 B3 hb e0 e1 HZ
  have KAB := Lib.hid (fun W : World => cmp_q HA.out HB.out W)
  have KBC := Lib.hid (fun W : World => cmp_q HB.out HC.out W)
  obtain ⟨ab, hab⟩ : ∃ x, cmpI A B = x := ⟨_, rfl⟩
  obtain ⟨bc, hbc⟩ : ∃ x, cmpI B C = x := ⟨_, rfl⟩
  rw [hab] at KAB
  rw [hbc] at KBC
  have EAB := Lib.hid hab
  have EBC := Lib.hid hbc
  clear hab hbc
  go_upto_region 7 with fail
  generalize w4.alloc (.cells #[.int .i64 cn, .int .i64 cd] 25) = W1 at *
  have a0 := A4.c0
  have a1 := A4.c1
  have b0 := D4.c0
  have b1 := D4.c1
  go_wp2_with fail
  refine (KAB.out _).mono ?_
  rintro o w5 ⟨rfl, hb⟩
  have A5 := A4.keep hb
  have D5 := D4.keep hb
  have C5 := C4.keep hb
  have B5 := B4.trans (hb.mono B4.size)
  clear A4 D4 C4 B4 hb a0 a1 b0 b1
  have b0 := D5.c0
  have b1 := D5.c1
  have c0 := C5.c0
  have c1 := C5.c1
  go_wp2_with fail
  refine (KBC.out _).mono ?_
  rintro o w6 ⟨rfl, hb⟩
  have A6 := A5.keep hb
  have D6 := D5.keep hb
  have C6 := C5.keep hb
  have B6 := B5.trans (hb.mono B5.size)
  clear A5 D5 C5 B5 hb b0 b1 c0 c1 KAB KBC
  go_upto_region 9 with fail
  go_cut [99] (fun v wx => v = .bool false ∧ ∃ z : Later w6, wx = z.val)
  case first => as_aux_lemma =>
    have HAA := Lib.hid (fun W : World => cmp_q HA.out HA.out W)
    rw [cmpI_self] at HAA
    have HBA := Lib.hid (fun W : World => cmp_q HB.out HA.out W)
    rw [cmpI_back A B, EAB.out] at HBA
    have HAC := Lib.hid (fun W : World => cmp_q HA.out HC.out W)
    have HL := Lib.hid (fun (h1 : ab ≤ 0) (h2 : bc ≤ 0) => cmpI_le_trans (by rw [EAB.out]; exact h1) (by rw [EBC.out]; exact h2))
    have HG := Lib.hid (fun (h1 : 0 ≤ ab) (h2 : 0 ≤ bc) => cmpI_ge_trans (by rw [EAB.out]; exact h1) (by rw [EBC.out]; exact h2))
    obtain ⟨ac, hac⟩ : ∃ x, cmpI A C = x := ⟨_, rfl⟩
    rw [hac] at HAC HL HG
    clear hac
    have HE : Hid (ab = 0 ∧ an = bn ∧ ad = bd ∨ (ab = -1 ∨ ab = 1) ∧ ((an == bn) = false ∨ (an == bn) = true ∧ (ad == bd) = false)) := by
      rcases cmpI_three A B with ⟨h, e⟩ | ⟨h, e⟩ | ⟨h, e⟩
      · exact Lib.hid (.inr ⟨.inl (EAB.out.symm.trans e), ne_of HA.out HB.out (Rat.ne_of_lt h)⟩)
      · exact Lib.hid (.inl ⟨EAB.out.symm.trans e, eq_of HA.out HB.out h⟩)
      · exact Lib.hid (.inr ⟨.inr (EAB.out.symm.trans e), ne_of HA.out HB.out (Ne.symm (Rat.ne_of_lt h))⟩)
    have HF : Hid (bc = -1 ∨ bc = 0 ∨ bc = 1) := by
      rcases cmpI_three B C with ⟨h, e⟩ | ⟨h, e⟩ | ⟨h, e⟩
      · exact Lib.hid (.inl (EBC.out.symm.trans e))
      · exact Lib.hid (.inr (.inl (EBC.out.symm.trans e)))
      · exact Lib.hid (.inr (.inr (EBC.out.symm.trans e)))
    clear HA HB HC EAB EBC
    obtain ⟨a0, a1⟩ := A6.later
    obtain ⟨b0, b1⟩ := D6.later
    obtain ⟨c0, c1⟩ := C6.later
    clear A6 D6 C6 B6
    rcases HE.out with ⟨rfl, rfl, rfl⟩ | ⟨rfl | rfl, hne | ⟨hne, hne'⟩⟩ <;> rcases HF.out with rfl | rfl | rfl
    all_goals
      try have hl := HL.out (by decide) (by decide)
      try have hg := HG.out (by decide) (by decide)
      clear HE HF HL HG
      try have q1 : (an == an) = true := by simp
      try have q2 : (ad == ad) = true := by simp
    all_goals as_aux_lemma =>
      refine wp_region_plain ?_
      repeat (go_big_quiet_step (((go_at_call 16; first | with_reducible exact later_of (HAA.out _) | with_reducible exact later_of (HBA.out _) | with_reducible exact later_of (HAC.out _)))))
      refine wpQuiet_nil ?_
      intro _ hw'
      obtain ⟨z, hw''⟩ := hw'
      subst hw''
      go_wp2_with fail
      go_meet
      case rel => exact ⟨rfl, z, rfl⟩
  case rest => as_aux_lemma =>
    obtain ⟨rfl, z, rfl⟩ := hcut
    have A7 := A6.keep z.below
    have D7 := D6.keep z.below
    have C7 := C6.keep z.below
    have B7 := B6.trans (z.below.mono B6.size)
    generalize z.val = W2 at *
    clear A6 D6 C6 B6 z
    have HE : Hid (ab = -1 ∨ ab = 0 ∨ ab = 1) := by
      rcases cmpI_three A B with ⟨h, e⟩ | ⟨h, e⟩ | ⟨h, e⟩
      · exact Lib.hid (.inl (EAB.out.symm.trans e))
      · exact Lib.hid (.inr (.inl (EAB.out.symm.trans e)))
      · exact Lib.hid (.inr (.inr (EAB.out.symm.trans e)))
    obtain ⟨dN, dD, dE, hd1, hd2⟩ := ord_sub HA.out HB.out
    rw [EAB.out] at hd2
    have D1 := Lib.hid hd1
    have D2 := Lib.hid hd2
    clear hd1 hd2
    have a0 := A7.c0
    have a1 := A7.c1
    have b0 := D7.c0
    have b1 := D7.c1
    go_wp2_with fail
    refine (D1.out _).mono ?_
    rintro o w7 ⟨rfl, hb⟩
    have A8 := (A7.keep hb).alloc (.cells #[.int .i64 dN, .int .i64 dD, .int .i64 dE] 29)
    have D8 := (D7.keep hb).alloc (.cells #[.int .i64 dN, .int .i64 dD, .int .i64 dE] 29)
    have C8 := (C7.keep hb).alloc (.cells #[.int .i64 dN, .int .i64 dD, .int .i64 dE] 29)
    have E8 := Box3.new w7 (.int .i64 dN) (.int .i64 dD) (.int .i64 dE) 29
    have B8 := (B7.trans (hb.mono B7.size)).alloc (B7.trans (hb.mono B7.size)).size (.cells #[.int .i64 dN, .int .i64 dD, .int .i64 dE] 29)
    clear A7 D7 C7 B7 hb a0 a1 b0 b1 D1
    go_upto_region 12 with fail
    generalize w7.alloc (.cells #[.int .i64 dN, .int .i64 dD, .int .i64 dE] 29) = W3 at *
    go_cut [128] (fun v wx => v = .bool false ∧ wx = W3)
    case first => as_aux_lemma =>
      have e0 := E8.c0
      have e1 := E8.c1
      have e2 := E8.c2
      clear A8 D8 C8 E8 B8 HA HB HC EAB EBC
      rcases D2.out with ⟨rfl, h1, h2, h3⟩ | rfl <;> rcases HE.out with rfl | rfl | rfl
      · have h := h1 rfl
        have g1 : decide (0 < dN) = false := by simp; omega
        have g2 : decide (dN < 0) = true := by simpa using h
        clear h1 h2 h3 h D2 HE
        go_wp2_with fail
        go_meet
        case rel => exact ⟨rfl, rfl⟩
      · obtain rfl := h2 rfl
        clear h1 h2 h3 D2 HE
        go_wp2_with fail
        go_meet
        case rel => exact ⟨rfl, rfl⟩
      · have h := h3 rfl
        have g1 : decide (0 < dN) = true := by simpa using h
        have g2 : decide (dN < 0) = false := by simp; omega
        clear h1 h2 h3 h D2 HE
        go_wp2_with fail
        go_meet
        case rel => exact ⟨rfl, rfl⟩
      all_goals
        clear D2 HE
        go_wp2_with fail
        go_meet
        case rel => exact ⟨rfl, rfl⟩
    case rest => as_aux_lemma =>
      obtain ⟨rfl, rfl⟩ := hcut
      clear D2 E8
      obtain ⟨sN, sD, sE, hs1, _, hs3⟩ := fld_add HA.out HC.out
      obtain ⟨tN, tD, tE, ht1, _, ht3⟩ := fld_add HB.out HC.out
      obtain ⟨pN, pD, pE, hp1, _, hp3⟩ := fld_mul HA.out HC.out
      obtain ⟨qN, qD, qE, hq1, _, hq3⟩ := fld_mul HB.out HC.out
      have S1 := Lib.hid hs1
      have S3 := Lib.hid hs3
      clear hs1 hs3
      have T1 := Lib.hid ht1
      have T3 := Lib.hid ht3
      clear ht1 ht3
      have P1 := Lib.hid hp1
      have P3 := Lib.hid hp3
      clear hp1 hp3
      have Q1 := Lib.hid hq1
      have Q3 := Lib.hid hq3
      clear hq1 hq3
      have a0 := A8.c0
      have a1 := A8.c1
      have c0 := C8.c0
      have c1 := C8.c1
      go_wp2_with fail
      refine (S1.out _).mono ?_
      rintro o w9 ⟨rfl, hb⟩
      have A9 := (A8.keep hb).alloc (.cells #[.int .i64 sN, .int .i64 sD, .int .i64 sE] 29)
      have D9 := (D8.keep hb).alloc (.cells #[.int .i64 sN, .int .i64 sD, .int .i64 sE] 29)
      have C9 := (C8.keep hb).alloc (.cells #[.int .i64 sN, .int .i64 sD, .int .i64 sE] 29)
      have FS9 := Box3.new w9 (.int .i64 sN) (.int .i64 sD) (.int .i64 sE) 29
      have B9 := (B8.trans (hb.mono B8.size)).alloc (B8.trans (hb.mono B8.size)).size (.cells #[.int .i64 sN, .int .i64 sD, .int .i64 sE] 29)
      clear A8 D8 C8 B8 hb a0 a1 c0 c1 S1
      have a0 := D9.c0
      have a1 := D9.c1
      have c0 := C9.c0
      have c1 := C9.c1
      go_wp2_with fail
      refine (T1.out _).mono ?_
      rintro o w10 ⟨rfl, hb⟩
      have A10 := (A9.keep hb).alloc (.cells #[.int .i64 tN, .int .i64 tD, .int .i64 tE] 29)
      have D10 := (D9.keep hb).alloc (.cells #[.int .i64 tN, .int .i64 tD, .int .i64 tE] 29)
      have C10 := (C9.keep hb).alloc (.cells #[.int .i64 tN, .int .i64 tD, .int .i64 tE] 29)
      have FS10 := (FS9.keep hb).alloc (.cells #[.int .i64 tN, .int .i64 tD, .int .i64 tE] 29)
      have FT10 := Box3.new w10 (.int .i64 tN) (.int .i64 tD) (.int .i64 tE) 29
      have B10 := (B9.trans (hb.mono B9.size)).alloc (B9.trans (hb.mono B9.size)).size (.cells #[.int .i64 tN, .int .i64 tD, .int .i64 tE] 29)
      clear A9 D9 C9 FS9 B9 hb a0 a1 c0 c1 T1
      have a0 := A10.c0
      have a1 := A10.c1
      have c0 := C10.c0
      have c1 := C10.c1
      go_wp2_with fail
      refine (P1.out _).mono ?_
      rintro o w11 ⟨rfl, hb⟩
      have A11 := (A10.keep hb).alloc (.cells #[.int .i64 pN, .int .i64 pD, .int .i64 pE] 29)
      have D11 := (D10.keep hb).alloc (.cells #[.int .i64 pN, .int .i64 pD, .int .i64 pE] 29)
      have C11 := (C10.keep hb).alloc (.cells #[.int .i64 pN, .int .i64 pD, .int .i64 pE] 29)
      have FS11 := (FS10.keep hb).alloc (.cells #[.int .i64 pN, .int .i64 pD, .int .i64 pE] 29)
      have FT11 := (FT10.keep hb).alloc (.cells #[.int .i64 pN, .int .i64 pD, .int .i64 pE] 29)
      have FP11 := Box3.new w11 (.int .i64 pN) (.int .i64 pD) (.int .i64 pE) 29
      have B11 := (B10.trans (hb.mono B10.size)).alloc (B10.trans (hb.mono B10.size)).size (.cells #[.int .i64 pN, .int .i64 pD, .int .i64 pE] 29)
      clear A10 D10 C10 FS10 FT10 B10 hb a0 a1 c0 c1 P1
      have a0 := D11.c0
      have a1 := D11.c1
      have c0 := C11.c0
      have c1 := C11.c1
      go_wp2_with fail
      refine (Q1.out _).mono ?_
      rintro o w12 ⟨rfl, hb⟩
      have A12 := (A11.keep hb).alloc (.cells #[.int .i64 qN, .int .i64 qD, .int .i64 qE] 29)
      have D12 := (D11.keep hb).alloc (.cells #[.int .i64 qN, .int .i64 qD, .int .i64 qE] 29)
      have C12 := (C11.keep hb).alloc (.cells #[.int .i64 qN, .int .i64 qD, .int .i64 qE] 29)
      have FS12 := (FS11.keep hb).alloc (.cells #[.int .i64 qN, .int .i64 qD, .int .i64 qE] 29)
      have FT12 := (FT11.keep hb).alloc (.cells #[.int .i64 qN, .int .i64 qD, .int .i64 qE] 29)
      have FP12 := (FP11.keep hb).alloc (.cells #[.int .i64 qN, .int .i64 qD, .int .i64 qE] 29)
      have FQ12 := Box3.new w12 (.int .i64 qN) (.int .i64 qD) (.int .i64 qE) 29
      have B12 := (B11.trans (hb.mono B11.size)).alloc (B11.trans (hb.mono B11.size)).size (.cells #[.int .i64 qN, .int .i64 qD, .int .i64 qE] 29)
      clear A11 D11 C11 FS11 FT11 FP11 B11 hb a0 a1 c0 c1 Q1
      go_upto_region 18 with fail
      generalize w12.alloc (.cells #[.int .i64 qN, .int .i64 qD, .int .i64 qE] 29) = W4 at *
      have a0 := A12.c0
      have a1 := A12.c1
      have b0 := D12.c0
      have b1 := D12.c1
      go_cut [18, 19] (fun u v wx => PV W4 (.int .i64 an) (.int .i64 ad) (.int .i64 bn) (.int .i64 bd) u v wx)
      case first => as_aux_lemma =>
        have a2 : ∀ o, (W4.alloc o).cell? ⟨w2.heap.size, 0, none⟩ = some (.int .i64 an) := fun o => (A12.alloc o).c0
        have a3 : ∀ o, (W4.alloc o).cell? ⟨w2.heap.size, 1, none⟩ = some (.int .i64 ad) := fun o => (A12.alloc o).c1
        have a4 : ∀ o o', ((W4.alloc o).alloc o').cell? ⟨w2.heap.size, 0, none⟩ = some (.int .i64 an) := fun o o' => ((A12.alloc o).alloc o').c0
        have a5 : ∀ o o', ((W4.alloc o).alloc o').cell? ⟨w2.heap.size, 1, none⟩ = some (.int .i64 ad) := fun o o' => ((A12.alloc o).alloc o').c1
        have b2 : ∀ o, (W4.alloc o).cell? ⟨w3.heap.size, 0, none⟩ = some (.int .i64 bn) := fun o => (D12.alloc o).c0
        have b3 : ∀ o, (W4.alloc o).cell? ⟨w3.heap.size, 1, none⟩ = some (.int .i64 bd) := fun o => (D12.alloc o).c1
        have b4 : ∀ o o', ((W4.alloc o).alloc o').cell? ⟨w3.heap.size, 0, none⟩ = some (.int .i64 bn) := fun o o' => ((D12.alloc o).alloc o').c0
        have b5 : ∀ o o', ((W4.alloc o).alloc o').cell? ⟨w3.heap.size, 1, none⟩ = some (.int .i64 bd) := fun o o' => ((D12.alloc o).alloc o').c1
        go_region
        all_goals
          go_wp2_with fail
          go_meet
          case rel => first | exact pv_one _ _ _ _ _ _ | exact pv_two _ _ _ _ _ _
      case rest => as_aux_lemma =>
        obtain ⟨m, n, rfl, rfl, M0, N0, hmn, hm4, hn4, BL0⟩ := hcut
        clear a0 a1 b0 b1
        obtain ⟨ln, ld, mn, md, hk1, hk2, hk3, hk4, hk5⟩ := ord_minmax HA.out HB.out
        rw [EAB.out] at hk5
        have K1 := Lib.hid hk1
        have K2 := Lib.hid hk2
        have K3 := Lib.hid hk3
        have K4 := Lib.hid hk4
        have K5 := Lib.hid hk5
        clear hk1 hk2 hk3 hk4 hk5
        go_upto_if 144 with fail
        go_cut [6] (fun v wx => v = .bool false ∧ Box2 wx m (.int .i64 ln) (.int .i64 ld) ∧ Box2 wx n (.int .i64 mn) (.int .i64 md) ∧ Below W4.heap.size W4 wx)
        case first => as_aux_lemma =>
          have A13 := A12.keep BL0
          have D13 := D12.keep BL0
          have a0 := A13.c0
          have a1 := A13.c1
          have b0 := D13.c0
          have b1 := D13.c1
          have hA := A12.lt
          have hD := D12.lt
          clear A12 D12 C12 FS12 FT12 FP12 FQ12 B12 HA HB HC EAB EBC HE S3 T3 P3 Q3 K1 K2 K3 K4
          rcases K5.out with ⟨h, rfl, rfl, rfl, rfl⟩ | ⟨h, rfl, rfl, rfl, rfl⟩
          · clear K5
            rw [h]
            go_wp2_with fail
            go_meet
            case rel => exact ⟨rfl, M0, N0, BL0⟩
          · clear K5
            rw [h]
            have N1 := (N0.far (a := m) (i := 0) hmn (.int .i64 ln)).far (a := m) (i := 1) hmn (.int .i64 ld)
            have M1 := M0.set (.int .i64 ln) (.int .i64 ld)
            have BL1 := below_set2 (b := m) BL0 hm4 (.int .i64 ln) (.int .i64 ld)
            have A14 := (A13.far (a := m) (i := 0) (by omega) (.int .i64 ln)).far (a := m) (i := 1) (by omega) (.int .i64 ld)
            have N2 := N1.set (.int .i64 mn) (.int .i64 md)
            have M2 := (M1.far (a := n) (i := 0) (Ne.symm hmn) (.int .i64 mn)).far (a := n) (i := 1) (Ne.symm hmn) (.int .i64 md)
            have BL2 := below_set2 (b := n) BL1 hn4 (.int .i64 mn) (.int .i64 md)
            have m0 := M0.c0
            have m1 := M0.c1
            have m2 := M0.f0
            have m3 := M0.f1
            clear a0 a1 A13 D13 hA hD
            go_upto_region 21 with fail
            generalize (wc.setCell ⟨m, 0, none⟩ (.int .i64 ln)).setCell ⟨m, 1, none⟩ (.int .i64 ld) = W5 at *
            have a0 := A14.c0
            have a1 := A14.c1
            have n0 := N1.c0
            have n1 := N1.c1
            have n2 := N1.f0
            have n3 := N1.f1
            clear m0 m1 m2 m3 b0 b1
            go_wp2_with fail
            go_meet
            case rel => exact ⟨rfl, M2, N2, BL2⟩
        case rest => as_aux_lemma =>
          clear M0 N0 BL0
          obtain ⟨rfl, M0, N0, BL0⟩ := hcut
          have A13 := A12.keep BL0
          have D13 := D12.keep BL0
          have C13 := C12.keep BL0
          have FS13 := FS12.keep BL0
          have FT13 := FT12.keep BL0
          have FP13 := FP12.keep BL0
          have FQ13 := FQ12.keep BL0
          have B13 := B12.trans (BL0.mono B12.size)
          clear A12 D12 C12 FS12 FT12 FP12 FQ12 B12 BL0 hm4 hn4 hmn K5
          go_upto_region 22 with fail
          go_cut [172] (fun v wx => v = .bool false ∧ ∃ z : Later wc, wx = z.val)
          case first => as_aux_lemma =>
            obtain ⟨a0, a1⟩ := A13.later
            obtain ⟨b0, b1⟩ := D13.later
            obtain ⟨m0, m1⟩ := M0.later
            obtain ⟨n0, n1⟩ := N0.later
            have q1 : (ln == ln) = true := by simp
            have q2 : (ld == ld) = true := by simp
            have q3 : (mn == mn) = true := by simp
            have q4 : (md == md) = true := by simp
            clear A13 D13 C13 FS13 FT13 FP13 FQ13 B13 M0 N0 HA HB HC EAB EBC HE S3 T3 P3 Q3
            refine wp_region_later (by kernel_rfl) (by kernel_rfl) ?_
            repeat (go_big_quiet_step (((first | (go_at_call 17; first | with_reducible exact later_of (K1.out _) | with_reducible exact later_of (K3.out _)) | (go_at_call 18; first | with_reducible exact later_of (K2.out _) | with_reducible exact later_of (K4.out _))))))
            refine wpQuiet_nil ?_
            intro _ hw'
            obtain ⟨z, hw''⟩ := hw'
            subst hw''
            go_wp2_with fail
            go_meet
            case rel => exact ⟨rfl, z, rfl⟩
          case rest => as_aux_lemma =>
            obtain ⟨rfl, z, rfl⟩ := hcut
            have C14 := C13.keep z.below
            have FS14 := FS13.keep z.below
            have FT14 := FT13.keep z.below
            have FP14 := FP13.keep z.below
            have FQ14 := FQ13.keep z.below
            have B14 := B13.trans (z.below.mono B13.size)
            generalize z.val = W5 at *
            clear A13 D13 C13 FS13 FT13 FP13 FQ13 B13 M0 N0 K1 K2 K3 K4 z
            go_upto_region 24 with fail
            obtain ⟨c0, c1⟩ := C14.later
            obtain ⟨s0, s1, s2⟩ := FS14.later
            obtain ⟨t0, t1, t2⟩ := FT14.later
            obtain ⟨p0, p1, p2⟩ := FP14.later
            obtain ⟨q0, q1, q2⟩ := FQ14.later
            have hff := field_fr
            have hfe := field_err
            have qab : (ab == ab) = true := by simp
            clear C14 FS14 FT14 FP14 FQ14 HE EBC
            have H1 : Hid ((sE = 0 ∧ tE = 0 ∧ ∀ W : World, Calls Tryd.prog 16 #[.agg #[.int .i64 sN, .int .i64 sD], .agg #[.int .i64 tN, .int .i64 tD]] W fun o w' => o = .returned (.int .i64 ab) ∧ Below W.heap.size W w') ∨ sE = 2 ∨ sE = 0 ∧ tE = 2) := by
              rcases S3.out with ⟨h1, h2⟩ | h1
              · rcases T3.out with ⟨h3, h4⟩ | h3
                · exact Lib.hid (.inl ⟨h1, h3, fun W => by have := ord_add h2 h4 W; rwa [EAB.out] at this⟩)
                · exact Lib.hid (.inr (.inr ⟨h1, h3⟩))
              · exact Lib.hid (.inr (.inl h1))
            have H2 : Hid ((decide (0 < cn) = true ∧ pE = 0 ∧ qE = 0 ∧ ∀ W : World, Calls Tryd.prog 16 #[.agg #[.int .i64 pN, .int .i64 pD], .agg #[.int .i64 qN, .int .i64 qD]] W fun o w' => o = .returned (.int .i64 ab) ∧ Below W.heap.size W w') ∨ decide (0 < cn) = false ∨ decide (0 < cn) = true ∧ pE = 2 ∨ decide (0 < cn) = true ∧ pE = 0 ∧ qE = 2) := by
              by_cases hc : 0 < cn
              · have hc' : decide (0 < cn) = true := by simpa using hc
                rcases P3.out with ⟨h1, h2⟩ | h1
                · rcases Q3.out with ⟨h3, h4⟩ | h3
                  · exact Lib.hid (.inl ⟨hc', h1, h3, fun W => by have := ord_mul (pos_of HC.out hc) h2 h4 W; rwa [EAB.out] at this⟩)
                  · exact Lib.hid (.inr (.inr (.inr ⟨hc', h1, h3⟩)))
                · exact Lib.hid (.inr (.inr (.inl ⟨hc', h1⟩)))
              · exact Lib.hid (.inr (.inl (by simpa using hc)))
            clear S3 T3 P3 Q3 HA HB HC EAB
            rcases H1.out with ⟨rfl, rfl, u1⟩ | rfl | ⟨rfl, rfl⟩ <;> rcases H2.out with ⟨hc, rfl, rfl, u2⟩ | hc | ⟨hc, rfl⟩ | ⟨hc, rfl, rfl⟩
            all_goals
              clear H1 H2
              try have U1 := Lib.hid u1
              try have U2 := Lib.hid u2
              try clear u1
              try clear u2
            all_goals as_aux_lemma =>
              refine wp_region_plain ?_
              repeat (go_big_quiet_step (((go_at_call 16; first | with_reducible exact later_of (U1.out _) | with_reducible exact later_of (U2.out _)))))
              refine wpQuiet_nil ?_
              intro _ hw'
              obtain ⟨z, hw''⟩ := hw'
              subst hw''
              have B15 := B14.trans (z.below.mono B14.size)
              go_wp2_with fail
              go_ret
              exact ⟨rfl, B15⟩

end Fr
end Go.Proofs.YtcecdmooojkmoaaDoor
