/- Points of boxes. -/
import Derived.Test.YtojkaaglmdfcnaaN10
namespace Go.Proofs.Ytojkaaglmdfcnaa
open Go.RowKit Go.Shelf
namespace Fr
set_option linter.unusedVariables false
set_option linter.unusedSimpArgs false


theorem zrR : Zr Try.prog 51 #[.int .i64 0, .int .i64 0, .int .i64 0] := fun w => by simp [Instr.alloc, go_sem]

set_option maxRecDepth 100000 in
set_option maxHeartbeats 2000000 in
theorem between_ {i : IQ} {a0 a1 a2 a3 x y : Int} (hi : IsI i a0 a1 a2 a3) (k : Nat) (hk : k ≤ 255) (f1 : Fit (i.hi - i.lo)) (f2 : Fit ((i.hi - i.lo) * Rat.divInt ((k % 9 : Nat) : Int) 8)) (hr : IsF (betw i k) x y) : Does 69 #[.agg #[.int .i64 a0, .int .i64 a1, .int .i64 a2, .int .i64 a3], .int .u8 (k : Int)] (.agg #[.int .i64 x, .int .i64 y]) := by
  intro w
  obtain ⟨d0, d1, hd⟩ := isF_of _ f1
  obtain ⟨m0, m1, hm⟩ := isF_of _ f2
  have hk9 : k % 9 < 9 := Nat.mod_lt _ (by decide)
  obtain ⟨u, v, hu⟩ : ∃ u v, IsF (Rat.divInt ((k % 9 : Nat) : Int) 8) u v := isF_of _ (fit_divInt (by decide) (by omega) (by decide))
  have S1 := Lib.hid (frsub hi.hi hi.lo (resF_fit hd))
  have M1 := Lib.hid (fmade (n := ((k % 9 : Nat) : Int)) (d := 8) (by unfold I64; omega) (by unfold I64; omega) (by decide) hu)
  have P1 := Lib.hid (frmul hd hu (resF_fit hm))
  have A1 := Lib.hid (fradd hi.lo hm (resF_fit (show IsF (i.lo + (i.hi - i.lo) * Rat.divInt ((k % 9 : Nat) : Int) 8) x y from hr)))
  have e1 : IntKind.u8.wrap ((k : Int).tmod 9) = ((k % 9 : Nat) : Int) := by rw [Int.tmod_eq_emod_of_nonneg (by omega)]; exact IntWalk.u8_in _ (by omega)
  have e2 : IntKind.i64.wrap ((k % 9 : Nat) : Int) = ((k % 9 : Nat) : Int) := IntWalk.i64_in _ (by omega)
  have e3 : (k : Int).tmod 9 = ((k % 9 : Nat) : Int) := by rw [Int.tmod_eq_emod_of_nonneg (by omega)]; rfl
  have e4 : IntKind.u8.wrap ((k % 9 : Nat) : Int) = ((k % 9 : Nat) : Int) := e3 ▸ e1
  clear hi f1 f2 hr hd hm hu hk hk9
  generalize ((k % 9 : Nat) : Int) = j at *
  go_enter Try.func69, Try.ntmps69
  go_upto_region 1 with fail
  have hst := start2 w (#[.int .i64 a0, .int .i64 a1, .int .i64 a2, .int .i64 a3]) (#[.int .i64 0, .int .i64 0]) 27 23
  generalize ((w.alloc (.cells #[.int .i64 a0, .int .i64 a1, .int .i64 a2, .int .i64 a3] 27)).alloc (.cells #[.int .i64 0, .int .i64 0] 23)) = W4 at *
  obtain ⟨m1, m2, B3⟩ := hst
  have lt5 := m1.lt
  have lt6 := m2.lt
  obtain ⟨c_i0, c_i1, c_i2, c_i3⟩ := m1.c4
  go_wp2_with fail
  refine (S1.out.at _).mono ?_
  rintro o W7 ⟨rfl, hb8⟩
  clear c_i0 c_i1 c_i2 c_i3
  have m9 := m1.keep hb8
  have m10 := m2.keep hb8
  have B11 := B3.trans (hb8.mono B3.size)
  have sz12 := hb8.size
  clear m1 m2 B3 hb8
  go_upto_region 2 with fail
  have m13 := BoxL.new W7 #[.int .i64 d0, .int .i64 d1, .int .i64 0] 51
  have hb14 := (Below.refl W7.heap.size W7).alloc (Nat.le_refl _) (.cells #[.int .i64 d0, .int .i64 d1, .int .i64 0] 51)
  have lt16 := m9.lt
  have lt17 := m10.lt
  have m18 := m9.keep hb14
  have m19 := m10.keep hb14
  have B20 := B11.trans (hb14.mono B11.size)
  have sz21 := hb14.size
  clear m9 m10 B11 hb14
  generalize W7.alloc (.cells #[.int .i64 d0, .int .i64 d1, .int .i64 0] 51) = W15 at *
  have lt22 := m13.lt
  refine wp_region_free1 (agf := ?fr23) 8 7 zrR (by kernel_rfl) [] (by kernel_rfl) (fun d _ _ _ _ h => by cases d <;> exact h) (by rfl) (by rfl) ?fr231 ?fr232
  case fr231 =>
    intro W hW
    obtain ⟨c_d0, c_d1, c_d2⟩ := m13.l3 hW
    simp only [List.take_succ_cons, List.take_zero, ghostL, List.contains_cons, List.contains_nil, Nat.reduceAdd, Nat.reduceBEq, Bool.or_false, Bool.false_eq_true, if_false, if_true, ghostO]
    repeat (go_big_quiet_step (((first | (go_at_call 43; with_reducible exact later_of ((M1.out.at _))) | (go_at_call 60; with_reducible exact later_of ((P1.out.at _)))))))
    refine wpQuiet_nil ?_
    rfl
  case fr232 =>
    intro b26 W24 hb25 m27 g28 
    simp only [List.drop_succ_cons, List.drop_zero, Act.put, List.setIfInBounds_toArray, List.set_cons_succ, List.set_cons_zero]
    have m29 := m18.keep hb25
    have m30 := m19.keep hb25
    have m31 := m13.keep hb25
    have B32 := B20.trans (hb25.mono B20.size)
    have sz33 := hb25.size
    clear m18 m19 m13 B20 hb25
    have lt34 := m27.lt
    obtain ⟨c_m0, c_m1, c_m2⟩ := m27.c3
    obtain ⟨f_m0, f_m1, f_m2⟩ := m27.f3
    go_upto_region 3 with fail
    clear c_m0 c_m1 c_m2 f_m0 f_m1 f_m2
    have m36 := m27.s3 (.int .i64 m0) (.int .i64 m1) (.int .i64 0)
    have m37 := m29.z3 (b := b26) (by omega) (.int .i64 m0) (.int .i64 m1) (.int .i64 0)
    have m38 := m30.z3 (b := b26) (by omega) (.int .i64 m0) (.int .i64 m1) (.int .i64 0)
    have m39 := m31.z3 (b := b26) (by omega) (.int .i64 m0) (.int .i64 m1) (.int .i64 0)
    have B40 := below_s3 (b := b26) B32 (by omega) (.int .i64 m0) (.int .i64 m1) (.int .i64 0)
    have lt41 := m36.lt
    generalize (((W24.setCell ⟨b26, 0, none⟩ (.int .i64 m0)).setCell ⟨b26, 1, none⟩ (.int .i64 m1)).setCell ⟨b26, 2, none⟩ (.int .i64 0)) = W35 at *
    clear m27 m29 m30 m31 B32
    obtain ⟨c_i0, c_i1, c_i2, c_i3⟩ := m37.c4
    obtain ⟨c_m0, c_m1, c_m2⟩ := m36.c3
    go_wp2_with fail
    refine (A1.out.at _).mono ?_
    rintro o W42 ⟨rfl, hb43⟩
    clear c_i0 c_i1 c_i2 c_i3
    clear c_m0 c_m1 c_m2
    have m44 := m37.keep hb43
    have m45 := m38.keep hb43
    have m46 := m39.keep hb43
    have m47 := m36.keep hb43
    have B48 := B40.trans (hb43.mono B40.size)
    have sz49 := hb43.size
    clear m37 m38 m39 m36 B40 hb43
    go_upto_region 4 with fail
    have m50 := BoxL.new W42 #[.int .i64 x, .int .i64 y, .int .i64 0] 51
    have hb51 := (Below.refl W42.heap.size W42).alloc (Nat.le_refl _) (.cells #[.int .i64 x, .int .i64 y, .int .i64 0] 51)
    have lt53 := m44.lt
    have lt54 := m45.lt
    have lt55 := m46.lt
    have lt56 := m47.lt
    have m57 := m44.keep hb51
    have m58 := m45.keep hb51
    have m59 := m46.keep hb51
    have m60 := m47.keep hb51
    have B61 := B48.trans (hb51.mono B48.size)
    have sz62 := hb51.size
    clear m44 m45 m46 m47 B48 hb51
    generalize W42.alloc (.cells #[.int .i64 x, .int .i64 y, .int .i64 0] 51) = W52 at *
    have lt63 := m50.lt
    obtain ⟨c_d0, c_d1, c_d2⟩ := m59.c3
    obtain ⟨c_m0, c_m1, c_m2⟩ := m60.c3
    obtain ⟨c_o0, c_o1, c_o2⟩ := m50.c3
    obtain ⟨c_r0, c_r1⟩ := m58.c2
    obtain ⟨f_r0, f_r1⟩ := m58.f2
    go_wp2_with fail
    have hR64 := m58.s2 (.int .i64 x) (.int .i64 y)
    obtain ⟨s0, s1⟩ := hR64.c2
    exact bodyPost_ret (v := .agg #[.int .i64 x, .int .i64 y]) (by simp [results, Try.results69, go_sem, s0, s1]) rfl ⟨rfl, below_s2 B61 (by omega) _ _⟩

def ptQ (b : BQ) (k0 k1 k2 : Nat) : PQ := ⟨betw b.t k0, betw b.v k1, betw b.a k2⟩
/-- Small boxes: what is needed of the lengths of their sides. -/
def IQ.Short (i : IQ) : Prop := Fit (i.hi - i.lo) ∧ ∀ k : Nat, Fit ((i.hi - i.lo) * Rat.divInt ((k % 9 : Nat) : Int) 8)

set_option maxRecDepth 100000 in
set_option maxHeartbeats 2000000 in
theorem point_ {b : BQ} {b0 b1 b2 b3 b4 b5 b6 b7 b8 b9 b10 b11 p0 p1 p2 p3 p4 p5 : Int} (hb : IsBx b b0 b1 b2 b3 b4 b5 b6 b7 b8 b9 b10 b11) (h0 : b.t.Short) (h1 : b.v.Short) (h2 : b.a.Short) (k0 k1 k2 : Nat) (g0 : k0 ≤ 255) (g1 : k1 ≤ 255) (g2 : k2 ≤ 255) (hr : IsP (ptQ b k0 k1 k2) p0 p1 p2 p3 p4 p5) : Does 40 #[.agg #[.int .i64 b0, .int .i64 b1, .int .i64 b2, .int .i64 b3, .int .i64 b4, .int .i64 b5, .int .i64 b6, .int .i64 b7, .int .i64 b8, .int .i64 b9, .int .i64 b10, .int .i64 b11], .agg #[.int .u8 (k0 : Int), .int .u8 (k1 : Int), .int .u8 (k2 : Int)]] (.agg #[.int .i64 p0, .int .i64 p1, .int .i64 p2, .int .i64 p3, .int .i64 p4, .int .i64 p5]) := by
  intro w
  have T0 := Lib.hid (between_ hb.t k0 g0 h0.1 (h0.2 _) hr.x)
  have T1 := Lib.hid (between_ hb.v k1 g1 h1.1 (h1.2 _) hr.y)
  have T2 := Lib.hid (between_ hb.a k2 g2 h2.1 (h2.2 _) hr.z)
  clear hb h0 h1 h2 g0 g1 g2 hr
  go_enter Try.func40, Try.ntmps40
  go_upto_region 1 with fail
  have hst := start3 w (#[.int .i64 b0, .int .i64 b1, .int .i64 b2, .int .i64 b3, .int .i64 b4, .int .i64 b5, .int .i64 b6, .int .i64 b7, .int .i64 b8, .int .i64 b9, .int .i64 b10, .int .i64 b11]) (#[.int .u8 (k0 : Int), .int .u8 (k1 : Int), .int .u8 (k2 : Int)]) (#[.int .i64 0, .int .i64 0, .int .i64 0, .int .i64 0, .int .i64 0, .int .i64 0]) 29 64 31
  generalize (((w.alloc (.cells #[.int .i64 b0, .int .i64 b1, .int .i64 b2, .int .i64 b3, .int .i64 b4, .int .i64 b5, .int .i64 b6, .int .i64 b7, .int .i64 b8, .int .i64 b9, .int .i64 b10, .int .i64 b11] 29)).alloc (.cells #[.int .u8 (k0 : Int), .int .u8 (k1 : Int), .int .u8 (k2 : Int)] 64)).alloc (.cells #[.int .i64 0, .int .i64 0, .int .i64 0, .int .i64 0, .int .i64 0, .int .i64 0] 31)) = W5 at *
  obtain ⟨m1, m2, m3, B4⟩ := hst
  have lt6 := m1.lt
  have lt7 := m2.lt
  have lt8 := m3.lt
  obtain ⟨c_b0, c_b1, c_b2, c_b3, c_b4, c_b5, c_b6, c_b7, c_b8, c_b9, c_b10, c_b11⟩ := m1.l12 (Below.refl _ _)
  obtain ⟨c_k0, c_k1, c_k2⟩ := m2.l3 (Below.refl _ _)
  refine wp_region_later_tail 16 (by kernel_rfl) (by kernel_rfl) ?_
  simp only [List.take_succ_cons, List.take_zero, List.drop_succ_cons, List.drop_zero]
  repeat (go_big_quiet_step (((go_at_call 69; first | with_reducible exact later_of ((T0.out.at _)) | with_reducible exact later_of ((T1.out.at _)) | with_reducible exact later_of ((T2.out.at _))))))
  refine wpQuiet_nil ?_
  intro _ hw'
  obtain ⟨z9, hw''⟩ := hw'
  subst hw''
  clear c_b0 c_b1 c_b2 c_b3 c_b4 c_b5 c_b6 c_b7 c_b8 c_b9 c_b10 c_b11
  clear c_k0 c_k1 c_k2
  have hb10 := z9.below
  have m11 := m1.keep hb10
  have m12 := m2.keep hb10
  have m13 := m3.keep hb10
  have B14 := B4.trans (hb10.mono B4.size)
  have sz15 := hb10.size
  clear m1 m2 m3 B4 hb10
  obtain ⟨c_r0, c_r1, c_r2, c_r3, c_r4, c_r5⟩ := m13.c6
  obtain ⟨f_r0, f_r1, f_r2, f_r3, f_r4, f_r5⟩ := m13.f6
  go_wp2_with fail
  have hR16 := m13.s6 (.int .i64 p0) (.int .i64 p1) (.int .i64 p2) (.int .i64 p3) (.int .i64 p4) (.int .i64 p5)
  obtain ⟨s0, s1, s2, s3, s4, s5⟩ := hR16.c6
  exact bodyPost_ret (v := .agg #[.int .i64 p0, .int .i64 p1, .int .i64 p2, .int .i64 p3, .int .i64 p4, .int .i64 p5]) (by simp [results, Try.results40, go_sem, s0, s1, s2, s3, s4, s5]) rfl ⟨rfl, below_s6 B14 (by omega) _ _ _ _ _ _⟩

end Fr
end Go.Proofs.Ytojkaaglmdfcnaa
