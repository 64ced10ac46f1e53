/- Statement FractionRounds: the walk. -/
import Derived.Test.YtcecdmooojkmoaaDoorM3
import Derived.Test.YtcecdmooojkmoaaDoorP5
namespace Go.Proofs.YtcecdmooojkmoaaDoor
open Go.RowKit Go.Shelf Go.Sort
namespace Fr
set_option linter.unusedVariables false

/-- An integer or not: how its floor and its ceiling lie. -/
theorem rounds_case {q : Rat} {n d : Int} (h : IsF q n d) : ((d == 1) = true ∧ decide (1 < d) = false ∧ d ≤ 1 ∧ -((-n) / d) = n / d) ∨ ((d == 1) = false ∧ decide (1 < d) = true ∧ 1 < d ∧ -((-n) / d) = n / d + 1) := by
  have hp := h.pos
  by_cases hd : d = 1
  · subst hd
    exact .inl ⟨rfl, rfl, by decide, ceil_one n⟩
  · exact .inr ⟨by simpa using hd, by simp; omega, by omega, ceil_more (by omega) h.cop⟩

/-- The sum with an integer: it fits, and floor and ceiling grow by it, or it does not. -/
theorem sum_case {q : Rat} {n d k F C : Int} (h : IsF q n d) (hF : n / d = F) (hC : -((-n) / d) = C) :
    (∃ N, rN (q + Rat.divInt k 1) = N ∧ rD (q + Rat.divInt k 1) = d ∧ rE (q + Rat.divInt k 1) = 0 ∧
      (∀ W : World, Calls Tryd.prog 21 #[.agg #[.int .i64 N, .int .i64 d]] W fun o w' => o = .returned (.int .i64 (F + k)) ∧ Below W.heap.size W w') ∧
      (∀ W : World, Calls Tryd.prog 22 #[.agg #[.int .i64 N, .int .i64 d]] W fun o w' => o = .returned (.int .i64 (C + k)) ∧ Below W.heap.size W w')) ∨
    rN (q + Rat.divInt k 1) = 0 ∧ rD (q + Rat.divInt k 1) = 0 ∧ rE (q + Rat.divInt k 1) = 2 := by
  by_cases hf : Fit (q + Rat.divInt k 1)
  · have hs := isF_sum h k hf
    have e1 := floor_sum (n := n) (k := k) h.pos
    have e2 := ceil_sum (n := n) (k := k) h.pos
    rw [hF] at e1
    rw [hC] at e2
    refine .inl ⟨_, rN_of hs, rD_of hs, rE_fit hf, fun W => ?_, fun W => ?_⟩
    · have := floor_any _ d W hs.n62.i64 hs.pos hs.d62.i64.2 (by have := hs.n62; unfold I62 at this; omega)
      rwa [e1] at this
    · have := ceil_any _ d W hs.n62 hs.pos hs.d62.i64.2
      rwa [e2] at this
  · exact .inr ⟨rN_big hf, rD_big hf, rE_big hf⟩

set_option maxHeartbeats 2000000 in
theorem rounds_walk (x0 x1 k : Int) (w : World) (h0 : I64 x0) (h1 : I64 x1) (hk : -2147483648 ≤ k ∧ k ≤ 2147483647) (hv : Vars w) :
    Calls Tryd.prog 6 #[.agg #[.int .i64 x0, .int .i64 x1], .int .i32 k] w fun o w' => o = .returned (.bool true) ∧ Below w.heap.size w w' := by
  have HMK := Lib.hid (fun W : World => made_any x0 x1 W h0 h1)
  clear h0 h1
  go_enter Tryd.func6, Tryd.ntmps6
  go_wp2_with fail
  have a0 := Box2.new w (.int .i64 x0) (.int .i64 x1) 22
  have B0 := (Below.refl w.heap.size w).alloc (Nat.le_refl _) (.cells #[.int .i64 x0, .int .i64 x1] 22)
  refine (examples_any _ (hv.keep B0)).mono ?_
  rintro o w1 ⟨rfl, hb⟩
  have a1 := a0.keep hb
  have B1 := B0.trans (hb.mono B0.size)
  clear a0 B0 hb hv
  have c0 := a1.c0
  have c1 := a1.c1
  go_wp2_with fail
  refine (HMK.out _).mono ?_
  rintro o w2 ⟨q, n, d, HQ0, rfl, hb⟩
  have HQ := Lib.hid HQ0
  have A2 := (Box2.new w2 (.int .i64 n) (.int .i64 d) 25)
  have B2 := (B1.trans (hb.mono B1.size)).alloc (B1.trans (hb.mono B1.size)).size (.cells #[.int .i64 n, .int .i64 d] 25)
  clear a1 c0 c1 B1 hb HMK
  have HF1 := Lib.hid (fun W : World => floor_any n d W HQ0.n62.i64 HQ0.pos HQ0.d62.i64.2 (by have := HQ0.n62; unfold I62 at this; omega))
  have HF2 := Lib.hid (fun W : World => ceil_any n d W HQ0.n62 HQ0.pos HQ0.d62.i64.2)
  have hFb := div_bounds HQ0.n62 HQ0.pos
  have hCb := ceil_bounds HQ0.n62 HQ0.pos
  have HLo := Lib.hid (isF_int hFb)
  have HHi := Lib.hid (isF_int hCb)
  have HLe := Lib.hid (floor_le HQ0)
  have HGe := Lib.hid (le_ceil HQ0)
  have hcase := rounds_case HQ0
  have hkf : I62 k := by unfold I62; omega
  have hkw : IntKind.i64.wrap k = k := IntWalk.i64_in _ (by omega)
  have HK := Lib.hid (isF_int hkf)
  obtain ⟨F, hF⟩ : ∃ F, n / d = F := ⟨_, rfl⟩
  obtain ⟨C, hC⟩ : ∃ C, -((-n) / d) = C := ⟨_, rfl⟩
  have HMU := Lib.hid (fun W : World => lmul_q HQ0 (isF_int HQ0.d62) W)
  rw [mul_den HQ0, rN_of (isF_int HQ0.n62), rD_of (isF_int HQ0.n62), rE_fit (isF_int HQ0.n62).fit] at HMU
  have HSC := Lib.hid (sum_case (k := k) HQ0 hF hC)
  rw [hF] at HF1 HLo HLe hFb hcase
  rw [hC] at HF2 HHi HGe hCb hcase
  unfold I62 at hFb hCb
  have hF1 : IntKind.i64.wrap (F + 1) = F + 1 := IntWalk.i64_in _ (by omega)
  have hFk : IntKind.i64.wrap (F + k) = F + k := IntWalk.i64_in _ (by omega)
  have hCk : IntKind.i64.wrap (C + k) = C + k := IntWalk.i64_in _ (by omega)
  have HC1 := Lib.hid (fun W : World => cmp_q HLo.out HQ0 W)
  have HC2 := Lib.hid (fun W : World => cmp_q HQ0 HHi.out W)
  generalize hcx : cmpI (Rat.divInt F 1) q = X at HC1 HLe
  generalize hcy : cmpI q (Rat.divInt C 1) = Y at HC2 HGe
  have hX : decide (0 < X) = false := by have := HLe.out; simp; omega
  have hY : decide (0 < Y) = false := by have := HGe.out; simp; omega
  clear hcx hcy HLe HGe hF hC hFb hCb HQ0 hkf hk
  go_wp2_with fail
  refine (HF1.out _).mono ?_
  rintro o w3 ⟨rfl, hb⟩
  have A3 := A2.keep hb
  have B3 := B2.trans (hb.mono B2.size)
  have l3 := hb.size
  clear A2 B2 hb
  have c0 := A3.c0
  have c1 := A3.c1
  go_wp2_with fail
  refine (HF2.out _).mono ?_
  rintro o w4 ⟨rfl, hb⟩
  have A4 := A3.keep hb
  have B4 := B3.trans (hb.mono B3.size)
  clear A3 B3 hb c0 c1
  go_upto_region 9 with fail
  have A5 := (A4.alloc (.cells #[.int .i64 F, .int .i64 1] 25)).alloc (.cells #[.int .i64 C, .int .i64 1] 25)
  have L5 := (Box2.newAt (W := w4) (B := w4.heap.size) rfl (.int .i64 F) (.int .i64 1) 25).alloc (.cells #[.int .i64 C, .int .i64 1] 25)
  have H5 := Box2.newAt (W := w4.alloc (.cells #[.int .i64 F, .int .i64 1] 25)) (B := w4.heap.size + 1) (by simp) (.int .i64 C) (.int .i64 1) 25
  have B5 := (B4.alloc B4.size (.cells #[.int .i64 F, .int .i64 1] 25)).alloc (by have := B4.size; simp; omega) (.cells #[.int .i64 C, .int .i64 1] 25)
  generalize (w4.alloc (.cells #[.int .i64 F, .int .i64 1] 25)).alloc (.cells #[.int .i64 C, .int .i64 1] 25) = W0 at *
  clear A4 B4
  obtain ⟨a0, a1⟩ := A5.later
  obtain ⟨b0, b1⟩ := L5.later
  obtain ⟨e0, e1⟩ := H5.later
  rcases hcase with ⟨hd, hg, hd', rfl⟩ | ⟨hd, hg, hd', rfl⟩
  · have hcc : (C == C) = true := by simp
    refine wp_region_plain ?_
    repeat (go_big_quiet_step (((first | (go_at_call 16; first | with_reducible exact later_of (HC1.out _) | with_reducible exact later_of (HC2.out _))))))
    refine wpQuiet_nil ?_
    intro _ hw'
    obtain ⟨z, hw''⟩ := hw'
    subst hw''
    have A6 := A5.keep z.below
    have B6 := B5.trans (z.below.mono B5.size)
    generalize z.val = W1 at *
    clear a0 a1 b0 b1 e0 e1 A5 L5 H5 B5 z HC1 HC2
    have c0 := A6.c0
    have c1 := A6.c1
    go_upto_region 11 with fail
    go_wp2_with fail
    refine (ladd_q HQ.out HK.out _).mono ?_
    rintro o w5 ⟨rfl, hb⟩
    have A7 := A6.keep hb
    have B7 := B6.trans (hb.mono B6.size)
    clear A6 B6 hb c0 c1
    rcases HSC.out with ⟨N, e1, e2, e3, hN1, hN2⟩ | ⟨e1, e2, e3⟩
    · rw [e1, e2, e3]
      have HN1 := Lib.hid hN1
      have HN2 := Lib.hid hN2
      clear e1 e2 e3 hN1 hN2 HSC
      go_upto_region 12 with fail
      have R8 := Box3.new w5 (.int .i64 N) (.int .i64 d) (.int .i64 0) 29
      have A8 := A7.alloc (.cells #[.int .i64 N, .int .i64 d, .int .i64 0] 29)
      have B8 := B7.alloc B7.size (.cells #[.int .i64 N, .int .i64 d, .int .i64 0] 29)
      generalize w5.alloc (.cells #[.int .i64 N, .int .i64 d, .int .i64 0] 29) = W2 at *
      clear A7 B7
      obtain ⟨a0, a1⟩ := A8.later
      obtain ⟨r0, r1, r2⟩ := R8.later
      refine wp_region_plain ?_
      repeat (go_big_quiet_step (((first | (go_at_call 21; first | with_reducible exact later_of (HN1.out _)) | (go_at_call 22; first | with_reducible exact later_of (HN2.out _))))))
      refine wpQuiet_nil ?_
      intro _ hw'
      obtain ⟨z, hw''⟩ := hw'
      subst hw''
      have A9 := A8.keep z.below
      have B9 := B8.trans (z.below.mono B8.size)
      generalize z.val = W3 at *
      clear a0 a1 r0 r1 r2 A8 B8 R8 z HN1 HN2
      go_upto_region 14 with fail
      obtain ⟨a0, a1⟩ := A9.later
      clear A9
      have B8 := B9
      clear B9
      have hnn : (n == n) = true := by simp
      refine wp_region_later (by kernel_rfl) (by kernel_rfl) ?_
      repeat (go_big_quiet_step (((first | (go_at_call 12; first | with_reducible exact later_of (HMU.out _)) | (go_at_call 13; with_reducible exact later_of (is_any _ _ _))))))
      refine wpQuiet_nil ?_
      intro _ hw'
      obtain ⟨z, hw''⟩ := hw'
      subst hw''
      have B9 := B8.trans (z.below.mono B8.size)
      go_wp2_with fail
      go_ret
      exact ⟨rfl, B9⟩
    · rw [e1, e2, e3]
      clear e1 e2 e3 HSC
      go_upto_region 12 with fail
      have R8 := Box3.new w5 (.int .i64 0) (.int .i64 0) (.int .i64 2) 29
      have A8 := A7.alloc (.cells #[.int .i64 0, .int .i64 0, .int .i64 2] 29)
      have B8 := B7.alloc B7.size (.cells #[.int .i64 0, .int .i64 0, .int .i64 2] 29)
      generalize w5.alloc (.cells #[.int .i64 0, .int .i64 0, .int .i64 2] 29) = W2 at *
      clear A7 B7
      have c0 := R8.c0
      have c1 := R8.c1
      have c2 := R8.c2
      go_upto_region 14 with fail
      obtain ⟨a0, a1⟩ := A8.later
      clear A8 R8 c0 c1 c2
      have hnn : (n == n) = true := by simp
      refine wp_region_later (by kernel_rfl) (by kernel_rfl) ?_
      repeat (go_big_quiet_step (((first | (go_at_call 12; first | with_reducible exact later_of (HMU.out _)) | (go_at_call 13; with_reducible exact later_of (is_any _ _ _))))))
      refine wpQuiet_nil ?_
      intro _ hw'
      obtain ⟨z, hw''⟩ := hw'
      subst hw''
      have B9 := B8.trans (z.below.mono B8.size)
      go_wp2_with fail
      go_ret
      exact ⟨rfl, B9⟩
  · have hcc : (F + 1 == F) = false := by simp; omega
    have hcd : (F + 1 != F + 1) = false := by simp
    refine wp_region_plain ?_
    repeat (go_big_quiet_step (((first | (go_at_call 16; first | with_reducible exact later_of (HC1.out _) | with_reducible exact later_of (HC2.out _))))))
    refine wpQuiet_nil ?_
    intro _ hw'
    obtain ⟨z, hw''⟩ := hw'
    subst hw''
    have A6 := A5.keep z.below
    have B6 := B5.trans (z.below.mono B5.size)
    generalize z.val = W1 at *
    clear a0 a1 b0 b1 e0 e1 A5 L5 H5 B5 z HC1 HC2
    have c0 := A6.c0
    have c1 := A6.c1
    go_upto_region 11 with fail
    go_wp2_with fail
    refine (ladd_q HQ.out HK.out _).mono ?_
    rintro o w5 ⟨rfl, hb⟩
    have A7 := A6.keep hb
    have B7 := B6.trans (hb.mono B6.size)
    clear A6 B6 hb c0 c1
    rcases HSC.out with ⟨N, e1, e2, e3, hN1, hN2⟩ | ⟨e1, e2, e3⟩
    · rw [e1, e2, e3]
      have HN1 := Lib.hid hN1
      have HN2 := Lib.hid hN2
      clear e1 e2 e3 hN1 hN2 HSC
      go_upto_region 12 with fail
      have R8 := Box3.new w5 (.int .i64 N) (.int .i64 d) (.int .i64 0) 29
      have A8 := A7.alloc (.cells #[.int .i64 N, .int .i64 d, .int .i64 0] 29)
      have B8 := B7.alloc B7.size (.cells #[.int .i64 N, .int .i64 d, .int .i64 0] 29)
      generalize w5.alloc (.cells #[.int .i64 N, .int .i64 d, .int .i64 0] 29) = W2 at *
      clear A7 B7
      obtain ⟨a0, a1⟩ := A8.later
      obtain ⟨r0, r1, r2⟩ := R8.later
      refine wp_region_plain ?_
      repeat (go_big_quiet_step (((first | (go_at_call 21; first | with_reducible exact later_of (HN1.out _)) | (go_at_call 22; first | with_reducible exact later_of (HN2.out _))))))
      refine wpQuiet_nil ?_
      intro _ hw'
      obtain ⟨z, hw''⟩ := hw'
      subst hw''
      have A9 := A8.keep z.below
      have B9 := B8.trans (z.below.mono B8.size)
      generalize z.val = W3 at *
      clear a0 a1 r0 r1 r2 A8 B8 R8 z HN1 HN2
      go_upto_region 14 with fail
      obtain ⟨a0, a1⟩ := A9.later
      clear A9
      have B8 := B9
      clear B9
      have hnn : (n == n) = true := by simp
      refine wp_region_later (by kernel_rfl) (by kernel_rfl) ?_
      repeat (go_big_quiet_step (((first | (go_at_call 12; first | with_reducible exact later_of (HMU.out _)) | (go_at_call 13; with_reducible exact later_of (is_any _ _ _))))))
      refine wpQuiet_nil ?_
      intro _ hw'
      obtain ⟨z, hw''⟩ := hw'
      subst hw''
      have B9 := B8.trans (z.below.mono B8.size)
      go_wp2_with fail
      go_ret
      exact ⟨rfl, B9⟩
    · rw [e1, e2, e3]
      clear e1 e2 e3 HSC
      go_upto_region 12 with fail
      have R8 := Box3.new w5 (.int .i64 0) (.int .i64 0) (.int .i64 2) 29
      have A8 := A7.alloc (.cells #[.int .i64 0, .int .i64 0, .int .i64 2] 29)
      have B8 := B7.alloc B7.size (.cells #[.int .i64 0, .int .i64 0, .int .i64 2] 29)
      generalize w5.alloc (.cells #[.int .i64 0, .int .i64 0, .int .i64 2] 29) = W2 at *
      clear A7 B7
      have c0 := R8.c0
      have c1 := R8.c1
      have c2 := R8.c2
      go_upto_region 14 with fail
      obtain ⟨a0, a1⟩ := A8.later
      clear A8 R8 c0 c1 c2
      have hnn : (n == n) = true := by simp
      refine wp_region_later (by kernel_rfl) (by kernel_rfl) ?_
      repeat (go_big_quiet_step (((first | (go_at_call 12; first | with_reducible exact later_of (HMU.out _)) | (go_at_call 13; with_reducible exact later_of (is_any _ _ _))))))
      refine wpQuiet_nil ?_
      intro _ hw'
      obtain ⟨z, hw''⟩ := hw'
      subst hw''
      have B9 := B8.trans (z.below.mono B8.size)
      go_wp2_with fail
      go_ret
      exact ⟨rfl, B9⟩

end Fr
end Go.Proofs.YtcecdmooojkmoaaDoor
