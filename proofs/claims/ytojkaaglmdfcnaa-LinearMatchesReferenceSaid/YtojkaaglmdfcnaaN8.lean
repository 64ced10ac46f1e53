/- What Range and Plus return. -/
import Derived.Test.YtojkaaglmdfcnaaN7
namespace Go.Proofs.Ytojkaaglmdfcnaa
open Go.RowKit Go.Shelf
namespace Fr
set_option linter.unusedVariables false


theorem resF_ways (q : Option Rat) (hq : ∀ r, q = some r → Fit r) : ∃ x y e, ResF q x y e ∧ ((∃ r, q = some r ∧ IsF r x y ∧ e = 0) ∨ (q = none ∧ x = 0 ∧ y = 0 ∧ e = 2)) := by
  cases q with
  | none => exact ⟨0, 0, 2, .inr ⟨rfl, rfl, rfl, rfl⟩, .inr ⟨rfl, rfl, rfl, rfl⟩⟩
  | some r =>
    obtain ⟨n, d, h⟩ := isF_of r (hq r rfl)
    exact ⟨n, d, 0, resF_some h, .inl ⟨r, rfl, h, rfl⟩⟩
theorem atO_fit : ∀ (ps : List (Rat × Rat)) (s r : Rat), Fit s → atO s ps = some r → Fit r
  | [], s, r, hs, h => by cases h; exact hs
  | (c, p) :: l, s, r, hs, h => by
    unfold atO at h
    split at h
    · split at h
      · rename_i h1 h2
        exact atO_fit l _ r h2 h
      · cases h
    · cases h
theorem at_fit {l : LQ} {p : PQ} {r : Rat} (hk : Fit l.k) (h : l.at p = some r) : Fit r := atO_fit _ _ _ hk h
theorem cq_fit {c : Rat} {i : IQ} {g : Bool} (h1 : Fit i.lo) (h2 : Fit i.hi) : Fit (cq c i g) := by unfold cq; split <;> assumption
theorem corner_isP {l : LQ} {b : BQ} {g : Bool} {b0 b1 b2 b3 b4 b5 b6 b7 b8 b9 b10 b11 : Int} (hb : IsBx b b0 b1 b2 b3 b4 b5 b6 b7 b8 b9 b10 b11) : ∃ p0 p1 p2 p3 p4 p5, IsP (l.corner b g) p0 p1 p2 p3 p4 p5 := by
  obtain ⟨p0, p1, h0⟩ := isF_of (cq l.t b.t g) (cq_fit hb.t.lo.fit hb.t.hi.fit)
  obtain ⟨p2, p3, h1⟩ := isF_of (cq l.v b.v g) (cq_fit hb.v.lo.fit hb.v.hi.fit)
  obtain ⟨p4, p5, h2⟩ := isF_of (cq l.a b.a g) (cq_fit hb.a.lo.fit hb.a.hi.fit)
  exact ⟨p0, p1, p2, p3, p4, p5, h0, h1, h2⟩
theorem resI_none {o : Option IQ} {a b c d e : Int} (h : ResI o a b c d e) (ho : o = none) : a = 0 ∧ b = 0 ∧ c = 0 ∧ d = 0 ∧ e = 2 := by
  subst ho
  rcases h with ⟨q, h1, _⟩ | ⟨_, h⟩
  · cases h1
  · exact h
theorem resI_val {o : Option IQ} {a b c d e x0 x1 x2 x3 : Int} {q : IQ} (h : ResI o a b c d e) (ho : o = some q) (h1 : IsF q.lo x0 x1) (h2 : IsF q.hi x2 x3) : a = x0 ∧ b = x1 ∧ c = x2 ∧ d = x3 ∧ e = 0 := by
  subst ho
  rcases h with ⟨r, e1, h3, h4⟩ | ⟨e1, _⟩
  · cases e1
    obtain ⟨e1, e2⟩ := isF_same h3.lo h1
    obtain ⟨e3, e4⟩ := isF_same h3.hi h2
    exact ⟨e1, e2, e3, e4, h4⟩
  · cases e1

set_option maxRecDepth 100000 in
set_option maxHeartbeats 2000000 in
theorem range_ {l : LQ} {b : BQ} {a0 a1 a2 a3 a4 a5 a6 a7 b0 b1 b2 b3 b4 b5 b6 b7 b8 b9 b10 b11 r0 r1 r2 r3 e : Int} (hl : IsL l a0 a1 a2 a3 a4 a5 a6 a7) (hb : IsBx b b0 b1 b2 b3 b4 b5 b6 b7 b8 b9 b10 b11) (hr : ResI (l.range b) r0 r1 r2 r3 e) : Does 62 #[.agg #[.int .i64 a0, .int .i64 a1, .int .i64 a2, .int .i64 a3, .int .i64 a4, .int .i64 a5, .int .i64 a6, .int .i64 a7], .agg #[.int .i64 b0, .int .i64 b1, .int .i64 b2, .int .i64 b3, .int .i64 b4, .int .i64 b5, .int .i64 b6, .int .i64 b7, .int .i64 b8, .int .i64 b9, .int .i64 b10, .int .i64 b11]] (.tuple #[.agg #[.int .i64 r0, .int .i64 r1, .int .i64 r2, .int .i64 r3], .int .i64 e]) := by
  intro w
  obtain ⟨p0, p1, p2, p3, p4, p5, hp⟩ := corner_isP (l := l) (g := false) hb
  have Cx := corner_ hl hb false hp
  obtain ⟨x0, x1, xe, hxx, hyx⟩ := resF_ways (l.at (l.corner b false)) (fun r h => at_fit hl.k.fit h)
  have Ax := at_ hl hp hxx
  obtain ⟨q0, q1, q2, q3, q4, q5, hq⟩ := corner_isP (l := l) (g := true) hb
  have Cy := corner_ hl hb true hq
  obtain ⟨y0, y1, ye, hxy, hyy⟩ := resF_ways (l.at (l.corner b true)) (fun r h => at_fit hl.k.fit h)
  have Ay := at_ hl hq hxy
  have HW := Lib.hid (show ResI ((l.at (l.corner b false)).bind fun x => (l.at (l.corner b true)).bind fun y => some ⟨x, y⟩) r0 r1 r2 r3 e from hr)
  have HX := Lib.hid hyx
  have HY := Lib.hid hyy
  clear hl hb hr hp hq hxx hxy hyx hyy
  generalize l.at (l.corner b false) = ox at *
  generalize l.at (l.corner b true) = oy at *
  go_enter Try.func62, Try.ntmps62
  go_upto_region 1 with fail
  have hst := start3 w (#[.int .i64 a0, .int .i64 a1, .int .i64 a2, .int .i64 a3, .int .i64 a4, .int .i64 a5, .int .i64 a6, .int .i64 a7]) (#[.int .i64 b0, .int .i64 b1, .int .i64 b2, .int .i64 b3, .int .i64 b4, .int .i64 b5, .int .i64 b6, .int .i64 b7, .int .i64 b8, .int .i64 b9, .int .i64 b10, .int .i64 b11]) (#[.int .i64 0, .int .i64 0, .int .i64 0, .int .i64 0]) 25 29 27
  generalize (((w.alloc (.cells #[.int .i64 a0, .int .i64 a1, .int .i64 a2, .int .i64 a3, .int .i64 a4, .int .i64 a5, .int .i64 a6, .int .i64 a7] 25)).alloc (.cells #[.int .i64 b0, .int .i64 b1, .int .i64 b2, .int .i64 b3, .int .i64 b4, .int .i64 b5, .int .i64 b6, .int .i64 b7, .int .i64 b8, .int .i64 b9, .int .i64 b10, .int .i64 b11] 29)).alloc (.cells #[.int .i64 0, .int .i64 0, .int .i64 0, .int .i64 0] 27)) = W5 at *
  obtain ⟨m1, m2, m3, B4⟩ := hst
  have lt6 := m1.lt
  have lt7 := m2.lt
  have lt8 := m3.lt
  refine wp_region_free1 (agf := ?fr9) 9 8 zrF (by kernel_rfl) [7] (by kernel_rfl) (fun d _ _ _ _ h => by cases d <;> exact h) (by rfl) (by rfl) ?fr91 ?fr92
  case fr91 =>
    intro W hW
    obtain ⟨c_l0, c_l1, c_l2, c_l3, c_l4, c_l5, c_l6, c_l7⟩ := m1.l8 hW
    obtain ⟨c_b0, c_b1, c_b2, c_b3, c_b4, c_b5, c_b6, c_b7, c_b8, c_b9, c_b10, c_b11⟩ := m2.l12 hW
    simp only [List.take_succ_cons, List.take_zero, ghostL, List.contains_cons, List.contains_nil, Nat.reduceAdd, Nat.reduceBEq, Bool.or_false, Bool.false_eq_true, if_false, if_true, ghostO]
    repeat (go_big_quiet_step (((first | (go_at_call 91; with_reducible exact later_of ((Cx.at _))) | (go_at_call 59; with_reducible exact later_of ((Ax.at _)))))))
    refine wpQuiet_nil ?_
    rfl
  case fr92 =>
    intro b12 W10 hb11 m13 g14 
    simp only [List.drop_succ_cons, List.drop_zero, Act.put, List.setIfInBounds_toArray, List.set_cons_succ, List.set_cons_zero]
    have m15 := m1.keep hb11
    have m16 := m2.keep hb11
    have m17 := m3.keep hb11
    have B18 := B4.trans (hb11.mono B4.size)
    have sz19 := hb11.size
    clear m1 m2 m3 B4 hb11
    have lt20 := m13.lt
    obtain ⟨c_least0, c_least1⟩ := m13.c2
    obtain ⟨f_least0, f_least1⟩ := m13.f2
    go_upto_region 2 with fail
    clear c_least0 c_least1 f_least0 f_least1
    have m22 := m13.s2 (.int .i64 x0) (.int .i64 x1)
    have m23 := m15.z2 (b := b12) (by omega) (.int .i64 x0) (.int .i64 x1)
    have m24 := m16.z2 (b := b12) (by omega) (.int .i64 x0) (.int .i64 x1)
    have m25 := m17.z2 (b := b12) (by omega) (.int .i64 x0) (.int .i64 x1)
    have B26 := below_s2 (b := b12) B18 (by omega) (.int .i64 x0) (.int .i64 x1)
    have lt27 := m22.lt
    generalize ((W10.setCell ⟨b12, 0, none⟩ (.int .i64 x0)).setCell ⟨b12, 1, none⟩ (.int .i64 x1)) = W21 at *
    clear m13 m15 m16 m17 B18
    rcases HX.out with ⟨qx, ex, fx, rfl⟩ | ⟨ex, rfl, rfl, rfl⟩
    rotate_left
    · have hw := HW.out
      rw [ex] at hw
      obtain ⟨rfl, rfl, rfl, rfl, rfl⟩ := resI_none hw rfl
      clear hw ex HW HX
      obtain ⟨c_r0, c_r1, c_r2, c_r3⟩ := m25.c4
      obtain ⟨f_r0, f_r1, f_r2, f_r3⟩ := m25.f4
      go_wp2_with fail
      have hR28 := m25.s4 (.int .i64 0) (.int .i64 0) (.int .i64 0) (.int .i64 0)
      obtain ⟨s0, s1, s2, s3⟩ := hR28.c4
      exact bodyPost_ret (v := .tuple #[.agg #[.int .i64 0, .int .i64 0, .int .i64 0, .int .i64 0], .int .i64 2]) (by simp [results, Try.results62, go_sem, s0, s1, s2, s3]) rfl ⟨rfl, below_s4 B26 (by omega) _ _ _ _⟩
    · have HX2 := Lib.hid (And.intro ex fx)
      clear ex fx HX
      go_upto_region 4 with fail
      refine wp_region_free1 (agf := ?fr29) 9 8 zrF (by kernel_rfl) [7] (by kernel_rfl) (fun d _ _ _ _ h => by cases d <;> exact h) (by rfl) (by rfl) ?fr291 ?fr292
      case fr291 =>
        intro W hW
        obtain ⟨c_l0, c_l1, c_l2, c_l3, c_l4, c_l5, c_l6, c_l7⟩ := m23.l8 hW
        obtain ⟨c_b0, c_b1, c_b2, c_b3, c_b4, c_b5, c_b6, c_b7, c_b8, c_b9, c_b10, c_b11⟩ := m24.l12 hW
        simp only [List.take_succ_cons, List.take_zero, ghostL, List.contains_cons, List.contains_nil, Nat.reduceAdd, Nat.reduceBEq, Bool.or_false, Bool.false_eq_true, if_false, if_true, ghostO]
        repeat (go_big_quiet_step (((first | (go_at_call 91; with_reducible exact later_of ((Cy.at _))) | (go_at_call 59; with_reducible exact later_of ((Ay.at _)))))))
        refine wpQuiet_nil ?_
        rfl
      case fr292 =>
        intro b32 W30 hb31 m33 g34 
        simp only [List.drop_succ_cons, List.drop_zero, Act.put, List.setIfInBounds_toArray, List.set_cons_succ, List.set_cons_zero]
        have m35 := m23.keep hb31
        have m36 := m24.keep hb31
        have m37 := m25.keep hb31
        have m38 := m22.keep hb31
        have B39 := B26.trans (hb31.mono B26.size)
        have sz40 := hb31.size
        clear m23 m24 m25 m22 B26 hb31
        have lt41 := m33.lt
        obtain ⟨c_most0, c_most1⟩ := m33.c2
        obtain ⟨f_most0, f_most1⟩ := m33.f2
        go_upto_region 5 with fail
        clear c_most0 c_most1 f_most0 f_most1
        have m43 := m33.s2 (.int .i64 y0) (.int .i64 y1)
        have m44 := m35.z2 (b := b32) (by omega) (.int .i64 y0) (.int .i64 y1)
        have m45 := m36.z2 (b := b32) (by omega) (.int .i64 y0) (.int .i64 y1)
        have m46 := m37.z2 (b := b32) (by omega) (.int .i64 y0) (.int .i64 y1)
        have m47 := m38.z2 (b := b32) (by omega) (.int .i64 y0) (.int .i64 y1)
        have B48 := below_s2 (b := b32) B39 (by omega) (.int .i64 y0) (.int .i64 y1)
        have lt49 := m43.lt
        generalize ((W30.setCell ⟨b32, 0, none⟩ (.int .i64 y0)).setCell ⟨b32, 1, none⟩ (.int .i64 y1)) = W42 at *
        clear m33 m35 m36 m37 m38 B39
        rcases HY.out with ⟨qy, ey, fy, rfl⟩ | ⟨ey, rfl, rfl, rfl⟩
        rotate_left
        · have hw := HW.out
          rw [HX2.out.1, ey] at hw
          obtain ⟨rfl, rfl, rfl, rfl, rfl⟩ := resI_none hw rfl
          clear hw ey HW HY HX2
          obtain ⟨c_r0, c_r1, c_r2, c_r3⟩ := m46.c4
          obtain ⟨f_r0, f_r1, f_r2, f_r3⟩ := m46.f4
          go_wp2_with fail
          have hR50 := m46.s4 (.int .i64 0) (.int .i64 0) (.int .i64 0) (.int .i64 0)
          obtain ⟨s0, s1, s2, s3⟩ := hR50.c4
          exact bodyPost_ret (v := .tuple #[.agg #[.int .i64 0, .int .i64 0, .int .i64 0, .int .i64 0], .int .i64 2]) (by simp [results, Try.results62, go_sem, s0, s1, s2, s3]) rfl ⟨rfl, below_s4 B48 (by omega) _ _ _ _⟩
        · have hw := HW.out
          rw [HX2.out.1, ey] at hw
          obtain ⟨rfl, rfl, rfl, rfl, rfl⟩ := resI_val hw rfl HX2.out.2 fy
          clear hw ey fy HW HY HX2
          obtain ⟨c_least0, c_least1⟩ := m47.c2
          obtain ⟨c_most0, c_most1⟩ := m43.c2
          obtain ⟨c_r0, c_r1, c_r2, c_r3⟩ := m46.c4
          obtain ⟨f_r0, f_r1, f_r2, f_r3⟩ := m46.f4
          go_wp2_with fail
          have hR51 := m46.s4 (.int .i64 r0) (.int .i64 r1) (.int .i64 r2) (.int .i64 r3)
          obtain ⟨s0, s1, s2, s3⟩ := hR51.c4
          exact bodyPost_ret (v := .tuple #[.agg #[.int .i64 r0, .int .i64 r1, .int .i64 r2, .int .i64 r3], .int .i64 0]) (by simp [results, Try.results62, go_sem, s0, s1, s2, s3]) rfl ⟨rfl, below_s4 B48 (by omega) _ _ _ _⟩

theorem fitO_fit {q r : Rat} (h : fitO q = some r) : Fit r := by
  unfold fitO at h
  split at h
  · cases h; assumption
  · cases h
theorem plus_bind (i j : IQ) : i.plus j = (fitO (i.lo + j.lo)).bind fun x => (fitO (i.hi + j.hi)).bind fun y => some ⟨x, y⟩ := by
  unfold IQ.plus fitO
  by_cases h1 : Fit (i.lo + j.lo) <;> by_cases h2 : Fit (i.hi + j.hi) <;> simp [h1, h2]

set_option maxRecDepth 100000 in
set_option maxHeartbeats 2000000 in
theorem plus_ {i j : IQ} {a0 a1 a2 a3 b0 b1 b2 b3 r0 r1 r2 r3 e : Int} (hi : IsI i a0 a1 a2 a3) (hj : IsI j b0 b1 b2 b3) (hr : ResI (i.plus j) r0 r1 r2 r3 e) : Does 66 #[.agg #[.int .i64 a0, .int .i64 a1, .int .i64 a2, .int .i64 a3], .agg #[.int .i64 b0, .int .i64 b1, .int .i64 b2, .int .i64 b3]] (.tuple #[.agg #[.int .i64 r0, .int .i64 r1, .int .i64 r2, .int .i64 r3], .int .i64 e]) := by
  intro w
  obtain ⟨x0, x1, xe, hxx, hyx⟩ := resF_ways (fitO (i.lo + j.lo)) (fun r h => fitO_fit h)
  have Ax := fadd hi.lo hj.lo hxx
  obtain ⟨y0, y1, ye, hxy, hyy⟩ := resF_ways (fitO (i.hi + j.hi)) (fun r h => fitO_fit h)
  have Ay := fadd hi.hi hj.hi hxy
  have HW := Lib.hid (plus_bind i j ▸ hr)
  have HX := Lib.hid hyx
  have HY := Lib.hid hyy
  clear hi hj hr hxx hxy hyx hyy
  generalize fitO (i.lo + j.lo) = ox at *
  generalize fitO (i.hi + j.hi) = oy at *
  go_enter Try.func66, Try.ntmps66
  go_upto_region 1 with fail
  have hst := start3 w (#[.int .i64 a0, .int .i64 a1, .int .i64 a2, .int .i64 a3]) (#[.int .i64 b0, .int .i64 b1, .int .i64 b2, .int .i64 b3]) (#[.int .i64 0, .int .i64 0, .int .i64 0, .int .i64 0]) 27 27 27
  generalize (((w.alloc (.cells #[.int .i64 a0, .int .i64 a1, .int .i64 a2, .int .i64 a3] 27)).alloc (.cells #[.int .i64 b0, .int .i64 b1, .int .i64 b2, .int .i64 b3] 27)).alloc (.cells #[.int .i64 0, .int .i64 0, .int .i64 0, .int .i64 0] 27)) = W5 at *
  obtain ⟨m1, m2, m3, B4⟩ := hst
  have lt6 := m1.lt
  have lt7 := m2.lt
  have lt8 := m3.lt
  obtain ⟨c_i0, c_i1, c_i2, c_i3⟩ := m1.c4
  obtain ⟨c_j0, c_j1, c_j2, c_j3⟩ := m2.c4
  go_wp2_with fail
  refine (Ax.at _).mono ?_
  rintro o W9 ⟨rfl, hb10⟩
  clear c_i0 c_i1 c_i2 c_i3
  clear c_j0 c_j1 c_j2 c_j3
  have m11 := m1.keep hb10
  have m12 := m2.keep hb10
  have m13 := m3.keep hb10
  have B14 := B4.trans (hb10.mono B4.size)
  have sz15 := hb10.size
  clear m1 m2 m3 B4 hb10
  go_upto_region 2 with fail
  have m16 := BoxL.new W9 #[.int .i64 x0, .int .i64 x1] 23
  have hb17 := (Below.refl W9.heap.size W9).alloc (Nat.le_refl _) (.cells #[.int .i64 x0, .int .i64 x1] 23)
  have lt19 := m11.lt
  have lt20 := m12.lt
  have lt21 := m13.lt
  have m22 := m11.keep hb17
  have m23 := m12.keep hb17
  have m24 := m13.keep hb17
  have B25 := B14.trans (hb17.mono B14.size)
  have sz26 := hb17.size
  clear m11 m12 m13 B14 hb17
  generalize W9.alloc (.cells #[.int .i64 x0, .int .i64 x1] 23) = W18 at *
  have lt27 := m16.lt
  rcases HX.out with ⟨qx, ex, fx, rfl⟩ | ⟨ex, rfl, rfl, rfl⟩
  rotate_left
  · have hw := HW.out
    rw [ex] at hw
    obtain ⟨rfl, rfl, rfl, rfl, rfl⟩ := resI_none hw rfl
    clear hw ex HW HX
    obtain ⟨c_r0, c_r1, c_r2, c_r3⟩ := m24.c4
    obtain ⟨f_r0, f_r1, f_r2, f_r3⟩ := m24.f4
    go_wp2_with fail
    have hR28 := m24.s4 (.int .i64 0) (.int .i64 0) (.int .i64 0) (.int .i64 0)
    obtain ⟨s0, s1, s2, s3⟩ := hR28.c4
    exact bodyPost_ret (v := .tuple #[.agg #[.int .i64 0, .int .i64 0, .int .i64 0, .int .i64 0], .int .i64 2]) (by simp [results, Try.results66, go_sem, s0, s1, s2, s3]) rfl ⟨rfl, below_s4 B25 (by omega) _ _ _ _⟩
  · have HX2 := Lib.hid (And.intro ex fx)
    clear ex fx HX
    obtain ⟨c_i0, c_i1, c_i2, c_i3⟩ := m22.c4
    obtain ⟨c_j0, c_j1, c_j2, c_j3⟩ := m23.c4
    go_wp2_with fail
    refine (Ay.at _).mono ?_
    rintro o W29 ⟨rfl, hb30⟩
    clear c_i0 c_i1 c_i2 c_i3
    clear c_j0 c_j1 c_j2 c_j3
    have m31 := m22.keep hb30
    have m32 := m23.keep hb30
    have m33 := m24.keep hb30
    have m34 := m16.keep hb30
    have B35 := B25.trans (hb30.mono B25.size)
    have sz36 := hb30.size
    clear m22 m23 m24 m16 B25 hb30
    go_upto_region 5 with fail
    have m37 := BoxL.new W29 #[.int .i64 y0, .int .i64 y1] 23
    have hb38 := (Below.refl W29.heap.size W29).alloc (Nat.le_refl _) (.cells #[.int .i64 y0, .int .i64 y1] 23)
    have lt40 := m31.lt
    have lt41 := m32.lt
    have lt42 := m33.lt
    have lt43 := m34.lt
    have m44 := m31.keep hb38
    have m45 := m32.keep hb38
    have m46 := m33.keep hb38
    have m47 := m34.keep hb38
    have B48 := B35.trans (hb38.mono B35.size)
    have sz49 := hb38.size
    clear m31 m32 m33 m34 B35 hb38
    generalize W29.alloc (.cells #[.int .i64 y0, .int .i64 y1] 23) = W39 at *
    have lt50 := m37.lt
    rcases HY.out with ⟨qy, ey, fy, rfl⟩ | ⟨ey, rfl, rfl, rfl⟩
    rotate_left
    · have hw := HW.out
      rw [HX2.out.1, ey] at hw
      obtain ⟨rfl, rfl, rfl, rfl, rfl⟩ := resI_none hw rfl
      clear hw ey HW HY HX2
      obtain ⟨c_r0, c_r1, c_r2, c_r3⟩ := m46.c4
      obtain ⟨f_r0, f_r1, f_r2, f_r3⟩ := m46.f4
      go_wp2_with fail
      have hR51 := m46.s4 (.int .i64 0) (.int .i64 0) (.int .i64 0) (.int .i64 0)
      obtain ⟨s0, s1, s2, s3⟩ := hR51.c4
      exact bodyPost_ret (v := .tuple #[.agg #[.int .i64 0, .int .i64 0, .int .i64 0, .int .i64 0], .int .i64 2]) (by simp [results, Try.results66, go_sem, s0, s1, s2, s3]) rfl ⟨rfl, below_s4 B48 (by omega) _ _ _ _⟩
    · have hw := HW.out
      rw [HX2.out.1, ey] at hw
      obtain ⟨rfl, rfl, rfl, rfl, rfl⟩ := resI_val hw rfl HX2.out.2 fy
      clear hw ey fy HW HY HX2
      obtain ⟨c_lo0, c_lo1⟩ := m47.c2
      obtain ⟨c_hi0, c_hi1⟩ := m37.c2
      obtain ⟨c_r0, c_r1, c_r2, c_r3⟩ := m46.c4
      obtain ⟨f_r0, f_r1, f_r2, f_r3⟩ := m46.f4
      go_wp2_with fail
      have hR52 := m46.s4 (.int .i64 r0) (.int .i64 r1) (.int .i64 r2) (.int .i64 r3)
      obtain ⟨s0, s1, s2, s3⟩ := hR52.c4
      exact bodyPost_ret (v := .tuple #[.agg #[.int .i64 r0, .int .i64 r1, .int .i64 r2, .int .i64 r3], .int .i64 0]) (by simp [results, Try.results66, go_sem, s0, s1, s2, s3]) rfl ⟨rfl, below_s4 B48 (by omega) _ _ _ _⟩

end Fr
end Go.Proofs.Ytojkaaglmdfcnaa
