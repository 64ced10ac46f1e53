/- What the reference returns: values, ranges, sums, multiples, intervals. -/
import Derived.Test.YtojkaaglmdfcnaaN16
namespace Go.Proofs.Ytojkaaglmdfcnaa
open Go.RowKit Go.Shelf
namespace Fr
set_option linter.unusedVariables false
set_option linter.unusedSimpArgs false


/-- What holds at the head of the loop of AtIn. -/
def RAtAt (w : World) (sb cb : Nat) (a2 a3 a4 a5 a6 a7 : Int) (p0 p1 p2 p3 p4 p5 : Int) (ps : List (Rat × Rat)) (o : Option Rat) (i : Value) (wr : World) : Prop :=
  ∃ (k : Nat) (s : Rat) (sn sd : Int), i = .int .i64 k ∧ k ≤ 3 ∧ IsF s sn sd ∧ atO s (ps.drop k) = o ∧ BoxL wr (w.heap.size + 1) #[.int .i64 p0, .int .i64 p1, .int .i64 p2, .int .i64 p3, .int .i64 p4, .int .i64 p5] ∧ BoxL wr (w.heap.size + 1 + 1) #[.int .i64 0, .int .i64 0, .int .i64 0] ∧ BoxL wr cb #[.int .i64 a2, .int .i64 a3, .int .i64 a4, .int .i64 a5, .int .i64 a6, .int .i64 a7] ∧ BoxL wr sb #[.int .i64 sn, .int .i64 sd, .int .i64 0] ∧ Below w.heap.size w wr ∧ w.heap.size + 1 + 1 < sb ∧ sb < cb

set_option maxRecDepth 100000 in
set_option maxHeartbeats 2000000 in
theorem rat_ {l : LQ} {p : PQ} {a0 a1 a2 a3 a4 a5 a6 a7 p0 p1 p2 p3 p4 p5 x y e : Int} (hl : IsL l a0 a1 a2 a3 a4 a5 a6 a7) (hp : IsP p p0 p1 p2 p3 p4 p5) (hr : ResF (l.at p) x y e) : Does 23 #[.agg #[.int .i64 a0, .int .i64 a1, .int .i64 a2, .int .i64 a3, .int .i64 a4, .int .i64 a5, .int .i64 a6, .int .i64 a7], .agg #[.int .i64 p0, .int .i64 p1, .int .i64 p2, .int .i64 p3, .int .i64 p4, .int .i64 p5]] (.agg #[.int .i64 x, .int .i64 y, .int .i64 e]) := by
  intro w
  obtain ⟨o, ho⟩ : ∃ o, l.at p = o := ⟨_, rfl⟩
  rw [ho] at hr
  have HR := Lib.hid hr
  have HO := Lib.hid ho
  have HL := Lib.hid hl
  have HP := Lib.hid hp
  clear hr ho hl hp
  go_enter Try.func23, Try.ntmps23
  go_upto_region 1 with fail
  have hst := start3 w (#[.int .i64 a0, .int .i64 a1, .int .i64 a2, .int .i64 a3, .int .i64 a4, .int .i64 a5, .int .i64 a6, .int .i64 a7]) (#[.int .i64 p0, .int .i64 p1, .int .i64 p2, .int .i64 p3, .int .i64 p4, .int .i64 p5]) (#[.int .i64 0, .int .i64 0, .int .i64 0]) 25 31 51
  generalize (((w.alloc (.cells #[.int .i64 a0, .int .i64 a1, .int .i64 a2, .int .i64 a3, .int .i64 a4, .int .i64 a5, .int .i64 a6, .int .i64 a7] 25)).alloc (.cells #[.int .i64 p0, .int .i64 p1, .int .i64 p2, .int .i64 p3, .int .i64 p4, .int .i64 p5] 31)).alloc (.cells #[.int .i64 0, .int .i64 0, .int .i64 0] 51)) = Wx5 at *
  obtain ⟨mx1, mx2, mx3, Bx4⟩ := hst
  have ltx6 := mx1.lt
  have ltx7 := mx2.lt
  have ltx8 := mx3.lt
  obtain ⟨c_l0, c_l1, c_l2, c_l3, c_l4, c_l5, c_l6, c_l7⟩ := mx1.c8
  go_upto_region 2 with fail
  clear c_l0 c_l1 c_l2 c_l3 c_l4 c_l5 c_l6 c_l7
  have mx9 := BoxL.new Wx5 #[.int .i64 a0, .int .i64 a1, .int .i64 0] 51
  have hbx10 := (Below.refl Wx5.heap.size Wx5).alloc (Nat.le_refl _) (.cells #[.int .i64 a0, .int .i64 a1, .int .i64 0] 51)
  have ltx12 := mx1.lt
  have ltx13 := mx2.lt
  have ltx14 := mx3.lt
  have mx15 := mx1.keep hbx10
  have mx16 := mx2.keep hbx10
  have mx17 := mx3.keep hbx10
  have Bx18 := Bx4.trans (hbx10.mono Bx4.size)
  have szx19 := hbx10.size
  clear mx1 mx2 mx3 Bx4 hbx10
  generalize Wx5.alloc (.cells #[.int .i64 a0, .int .i64 a1, .int .i64 0] 51) = Wx11 at *
  have ltx20 := mx9.lt
  obtain ⟨c_l0, c_l1, c_l2, c_l3, c_l4, c_l5, c_l6, c_l7⟩ := mx15.c8
  go_upto_region 3 with fail
  clear c_l0 c_l1 c_l2 c_l3 c_l4 c_l5 c_l6 c_l7
  have mx21 := BoxL.new Wx11 #[.int .i64 a2, .int .i64 a3, .int .i64 a4, .int .i64 a5, .int .i64 a6, .int .i64 a7] 23
  have hbx22 := (Below.refl Wx11.heap.size Wx11).alloc (Nat.le_refl _) (.cells #[.int .i64 a2, .int .i64 a3, .int .i64 a4, .int .i64 a5, .int .i64 a6, .int .i64 a7] 23)
  have ltx24 := mx15.lt
  have ltx25 := mx16.lt
  have ltx26 := mx17.lt
  have ltx27 := mx9.lt
  have mx28 := mx15.keep hbx22
  have mx29 := mx16.keep hbx22
  have mx30 := mx17.keep hbx22
  have mx31 := mx9.keep hbx22
  have Bx32 := Bx18.trans (hbx22.mono Bx18.size)
  have szx33 := hbx22.size
  clear mx15 mx16 mx17 mx9 Bx18 hbx22
  generalize Wx11.alloc (.cells #[.int .i64 a2, .int .i64 a3, .int .i64 a4, .int .i64 a5, .int .i64 a6, .int .i64 a7] 23) = Wx23 at *
  have ltx34 := mx21.lt
  go_upto_region 4 with fail
  have HS : Hid (RAtAt w (Wx5.heap.size) (Wx11.heap.size) a2 a3 a4 a5 a6 a7 p0 p1 p2 p3 p4 p5 [(l.t, p.x), (l.v, p.y), (l.a, p.z)] o (.int .i64 0) Wx23) := Lib.hid ⟨0, l.k, a0, a1, rfl, by omega, HL.out.k, HO.out, mx29, mx30, mx21, mx31, Bx32, by omega, by omega⟩
  clear HO mx28 mx29 mx30 mx31 mx21 Bx32
  go_loopw [7] (fun i wr => RAtAt w (Wx5.heap.size) (Wx11.heap.size) a2 a3 a4 a5 a6 a7 p0 p1 p2 p3 p4 p5 [(l.t, p.x), (l.v, p.y), (l.a, p.z)] o i wr) (fun i _ => 3 - (intOf i).toNat)
  case atStart => exact HS.out
  case round =>
    obtain ⟨k, q, sn, sd, rfl, hk, hs, ho, m0, m1, m2, m3, B0, e0, e1⟩ := hrel
    have HI := Lib.hid hs
    have HE := Lib.hid ho
    clear hs ho HS
    obtain rfl | rfl | rfl | rfl : k = 0 ∨ k = 1 ∨ k = 2 ∨ k = 3 := by omega
    · have HE2 : Hid ((if Fit (l.t * p.x) then if Fit (q + l.t * p.x) then atO (q + l.t * p.x) ([(l.t, p.x), (l.v, p.y), (l.a, p.z)].drop 1) else none else none) = o) := Lib.hid HE.out
      have ltx35 := m0.lt
      have ltx36 := m1.lt
      have ltx37 := m2.lt
      have ltx38 := m3.lt
      obtain ⟨mn, md, me, hx, hy⟩ := fitO_ways (l.t * p.x)
      have HM := Lib.hid (frmul HL.out.t HP.out.x hx)
      have HC := Lib.hid hy
      clear hx hy HE
      go_upto_region 6 with fail
      have ltx39 := m0.lt
      have ltx40 := m1.lt
      have ltx41 := m2.lt
      have ltx42 := m3.lt
      refine wp_region_free1 (agf := ?frx43) 9 8 zrR (by kernel_rfl) [] (by kernel_rfl) (fun d _ _ _ _ h => by cases d <;> exact h) (by rfl) (by rfl) ?frx431 ?frx432
      case frx431 =>
        intro W hW
        obtain ⟨c_c0, c_c1, c_c2, c_c3, c_c4, c_c5⟩ := m2.l6 hW
        obtain ⟨c_p0, c_p1, c_p2, c_p3, c_p4, c_p5⟩ := m0.l6 hW
        simp only [List.take_succ_cons, List.take_zero, ghostL, List.contains_cons, List.contains_nil, Nat.reduceAdd, Nat.reduceBEq, Bool.or_false, Bool.or_true, Bool.true_or, Bool.false_or, Bool.false_eq_true, if_false, if_true, ghostO]
        repeat (go_big_quiet_step (((go_at_call 60; with_reducible exact later_of ((HM.out.at _))))))
        refine wpQuiet_nil ?_
        rfl
      case frx432 =>
        intro bx46 Wx44 hbx45 mx47 gx48 
        simp only [List.drop_succ_cons, List.drop_zero, Act.put, List.setIfInBounds_toArray, List.set_cons_succ, List.set_cons_zero]
        have mx49 := m0.keep hbx45
        have mx50 := m1.keep hbx45
        have mx51 := m2.keep hbx45
        have mx52 := m3.keep hbx45
        have Bx53 := B0.trans (hbx45.mono B0.size)
        have szx54 := hbx45.size
        clear m0 m1 m2 m3 B0 hbx45
        have ltx55 := mx47.lt
        obtain ⟨c_x0, c_x1, c_x2⟩ := mx47.c3
        obtain ⟨f_x0, f_x1, f_x2⟩ := mx47.f3
        go_upto_region 7 with fail
        clear c_x0 c_x1 c_x2 f_x0 f_x1 f_x2
        have mx57 := mx47.s3 (.int .i64 mn) (.int .i64 md) (.int .i64 me)
        have mx58 := mx49.z3 (b := bx46) (by omega) (.int .i64 mn) (.int .i64 md) (.int .i64 me)
        have mx59 := mx50.z3 (b := bx46) (by omega) (.int .i64 mn) (.int .i64 md) (.int .i64 me)
        have mx60 := mx51.z3 (b := bx46) (by omega) (.int .i64 mn) (.int .i64 md) (.int .i64 me)
        have mx61 := mx52.z3 (b := bx46) (by omega) (.int .i64 mn) (.int .i64 md) (.int .i64 me)
        have Bx62 := below_s3 (b := bx46) Bx53 (by omega) (.int .i64 mn) (.int .i64 md) (.int .i64 me)
        have ltx63 := mx57.lt
        generalize (((Wx44.setCell ⟨bx46, 0, none⟩ (.int .i64 mn)).setCell ⟨bx46, 1, none⟩ (.int .i64 md)).setCell ⟨bx46, 2, none⟩ (.int .i64 me)) = Wx56 at *
        clear mx47 mx49 mx50 mx51 mx52 Bx53
        rcases HC.out with ⟨hf, hm, rfl⟩ | ⟨hf, rfl, rfl, rfl⟩
        rotate_left
        · have ho := HE2.out
          rw [if_neg hf] at ho
          obtain ⟨rfl, rfl, rfl⟩ := resF_none HR.out ho.symm
          clear ho hf HC HE2
          obtain ⟨c_x0, c_x1, c_x2⟩ := mx57.c3
          obtain ⟨c_r0, c_r1, c_r2⟩ := mx59.c3
          obtain ⟨f_r0, f_r1, f_r2⟩ := mx59.f3
          go_wp2_with fail
          have hRx64 := mx59.s3 (.int .i64 0) (.int .i64 0) (.int .i64 2)
          obtain ⟨s0, s1, s2⟩ := hRx64.c3
          exact bodyPost_ret (v := .agg #[.int .i64 0, .int .i64 0, .int .i64 2]) (by simp [results, Try.results23, go_sem, s0, s1, s2]) rfl ⟨rfl, below_s3 Bx62 (by omega) _ _ _⟩
        · have HE3 : Hid ((if Fit (q + l.t * p.x) then atO (q + l.t * p.x) ([(l.t, p.x), (l.v, p.y), (l.a, p.z)].drop 1) else none) = o) := Lib.hid (by have := HE2.out; rwa [if_pos hf] at this)
          clear HE2 HC hf
          obtain ⟨an, ad, ae, hx, hy⟩ := fitO_ways (q + l.t * p.x)
          have HA := Lib.hid (fradd HI.out hm hx)
          have HC := Lib.hid hy
          clear hx hy hm
          obtain ⟨c_s0, c_s1, c_s2⟩ := mx61.c3
          obtain ⟨c_x0, c_x1, c_x2⟩ := mx57.c3
          go_wp2_with fail
          refine (HA.out.at _).mono ?_
          rintro o Wx65 ⟨rfl, hbx66⟩
          clear c_s0 c_s1 c_s2
          clear c_x0 c_x1 c_x2
          have mx67 := mx58.keep hbx66
          have mx68 := mx59.keep hbx66
          have mx69 := mx60.keep hbx66
          have mx70 := mx61.keep hbx66
          have mx71 := mx57.keep hbx66
          have Bx72 := Bx62.trans (hbx66.mono Bx62.size)
          have szx73 := hbx66.size
          clear mx58 mx59 mx60 mx61 mx57 Bx62 hbx66
          obtain ⟨c_s0, c_s1, c_s2⟩ := mx70.c3
          obtain ⟨f_s0, f_s1, f_s2⟩ := mx70.f3
          go_upto_region 10 with fail
          clear c_s0 c_s1 c_s2 f_s0 f_s1 f_s2
          have mx75 := mx70.s3 (.int .i64 an) (.int .i64 ad) (.int .i64 ae)
          have mx76 := mx67.z3 (b := Wx5.heap.size) (by omega) (.int .i64 an) (.int .i64 ad) (.int .i64 ae)
          have mx77 := mx68.z3 (b := Wx5.heap.size) (by omega) (.int .i64 an) (.int .i64 ad) (.int .i64 ae)
          have mx78 := mx69.z3 (b := Wx5.heap.size) (by omega) (.int .i64 an) (.int .i64 ad) (.int .i64 ae)
          have mx79 := mx71.z3 (b := Wx5.heap.size) (by omega) (.int .i64 an) (.int .i64 ad) (.int .i64 ae)
          have Bx80 := below_s3 (b := Wx5.heap.size) Bx72 (by omega) (.int .i64 an) (.int .i64 ad) (.int .i64 ae)
          have ltx81 := mx75.lt
          generalize (((Wx65.setCell ⟨Wx5.heap.size, 0, none⟩ (.int .i64 an)).setCell ⟨Wx5.heap.size, 1, none⟩ (.int .i64 ad)).setCell ⟨Wx5.heap.size, 2, none⟩ (.int .i64 ae)) = Wx74 at *
          clear mx70 mx67 mx68 mx69 mx71 Bx72
          rcases HC.out with ⟨hf, ha, rfl⟩ | ⟨hf, rfl, rfl, rfl⟩
          rotate_left
          · have ho := HE3.out
            rw [if_neg hf] at ho
            obtain ⟨rfl, rfl, rfl⟩ := resF_none HR.out ho.symm
            clear ho hf HC HE3
            obtain ⟨c_s0, c_s1, c_s2⟩ := mx75.c3
            obtain ⟨c_r0, c_r1, c_r2⟩ := mx77.c3
            obtain ⟨f_r0, f_r1, f_r2⟩ := mx77.f3
            go_wp2_with fail
            have hRx82 := mx77.s3 (.int .i64 0) (.int .i64 0) (.int .i64 2)
            obtain ⟨s0, s1, s2⟩ := hRx82.c3
            exact bodyPost_ret (v := .agg #[.int .i64 0, .int .i64 0, .int .i64 2]) (by simp [results, Try.results23, go_sem, s0, s1, s2]) rfl ⟨rfl, below_s3 Bx80 (by omega) _ _ _⟩
          · have ho := HE3.out
            rw [if_pos hf] at ho
            have HS2 : Hid (RAtAt w (Wx5.heap.size) (Wx11.heap.size) a2 a3 a4 a5 a6 a7 p0 p1 p2 p3 p4 p5 [(l.t, p.x), (l.v, p.y), (l.a, p.z)] o (.int .i64 1) Wx74) := Lib.hid ⟨1, _, an, ad, rfl, by omega, ha, ho, mx76, mx77, mx78, mx75, Bx80, e0, e1⟩
            obtain ⟨c_s0, c_s1, c_s2⟩ := mx75.c3
            clear ho hf ha HC HE3
            go_wp2_with fail
            go_roundw
            case rel => exact HS2.out
            case measure => simp [intOf]
    · have HE2 : Hid ((if Fit (l.v * p.y) then if Fit (q + l.v * p.y) then atO (q + l.v * p.y) ([(l.t, p.x), (l.v, p.y), (l.a, p.z)].drop 2) else none else none) = o) := Lib.hid HE.out
      have ltx83 := m0.lt
      have ltx84 := m1.lt
      have ltx85 := m2.lt
      have ltx86 := m3.lt
      obtain ⟨mn, md, me, hx, hy⟩ := fitO_ways (l.v * p.y)
      have HM := Lib.hid (frmul HL.out.v HP.out.y hx)
      have HC := Lib.hid hy
      clear hx hy HE
      go_upto_region 6 with fail
      have ltx87 := m0.lt
      have ltx88 := m1.lt
      have ltx89 := m2.lt
      have ltx90 := m3.lt
      refine wp_region_free1 (agf := ?frx91) 9 8 zrR (by kernel_rfl) [] (by kernel_rfl) (fun d _ _ _ _ h => by cases d <;> exact h) (by rfl) (by rfl) ?frx911 ?frx912
      case frx911 =>
        intro W hW
        obtain ⟨c_c0, c_c1, c_c2, c_c3, c_c4, c_c5⟩ := m2.l6 hW
        obtain ⟨c_p0, c_p1, c_p2, c_p3, c_p4, c_p5⟩ := m0.l6 hW
        simp only [List.take_succ_cons, List.take_zero, ghostL, List.contains_cons, List.contains_nil, Nat.reduceAdd, Nat.reduceBEq, Bool.or_false, Bool.or_true, Bool.true_or, Bool.false_or, Bool.false_eq_true, if_false, if_true, ghostO]
        repeat (go_big_quiet_step (((go_at_call 60; with_reducible exact later_of ((HM.out.at _))))))
        refine wpQuiet_nil ?_
        rfl
      case frx912 =>
        intro bx94 Wx92 hbx93 mx95 gx96 
        simp only [List.drop_succ_cons, List.drop_zero, Act.put, List.setIfInBounds_toArray, List.set_cons_succ, List.set_cons_zero]
        have mx97 := m0.keep hbx93
        have mx98 := m1.keep hbx93
        have mx99 := m2.keep hbx93
        have mx100 := m3.keep hbx93
        have Bx101 := B0.trans (hbx93.mono B0.size)
        have szx102 := hbx93.size
        clear m0 m1 m2 m3 B0 hbx93
        have ltx103 := mx95.lt
        obtain ⟨c_x0, c_x1, c_x2⟩ := mx95.c3
        obtain ⟨f_x0, f_x1, f_x2⟩ := mx95.f3
        go_upto_region 7 with fail
        clear c_x0 c_x1 c_x2 f_x0 f_x1 f_x2
        have mx105 := mx95.s3 (.int .i64 mn) (.int .i64 md) (.int .i64 me)
        have mx106 := mx97.z3 (b := bx94) (by omega) (.int .i64 mn) (.int .i64 md) (.int .i64 me)
        have mx107 := mx98.z3 (b := bx94) (by omega) (.int .i64 mn) (.int .i64 md) (.int .i64 me)
        have mx108 := mx99.z3 (b := bx94) (by omega) (.int .i64 mn) (.int .i64 md) (.int .i64 me)
        have mx109 := mx100.z3 (b := bx94) (by omega) (.int .i64 mn) (.int .i64 md) (.int .i64 me)
        have Bx110 := below_s3 (b := bx94) Bx101 (by omega) (.int .i64 mn) (.int .i64 md) (.int .i64 me)
        have ltx111 := mx105.lt
        generalize (((Wx92.setCell ⟨bx94, 0, none⟩ (.int .i64 mn)).setCell ⟨bx94, 1, none⟩ (.int .i64 md)).setCell ⟨bx94, 2, none⟩ (.int .i64 me)) = Wx104 at *
        clear mx95 mx97 mx98 mx99 mx100 Bx101
        rcases HC.out with ⟨hf, hm, rfl⟩ | ⟨hf, rfl, rfl, rfl⟩
        rotate_left
        · have ho := HE2.out
          rw [if_neg hf] at ho
          obtain ⟨rfl, rfl, rfl⟩ := resF_none HR.out ho.symm
          clear ho hf HC HE2
          obtain ⟨c_x0, c_x1, c_x2⟩ := mx105.c3
          obtain ⟨c_r0, c_r1, c_r2⟩ := mx107.c3
          obtain ⟨f_r0, f_r1, f_r2⟩ := mx107.f3
          go_wp2_with fail
          have hRx112 := mx107.s3 (.int .i64 0) (.int .i64 0) (.int .i64 2)
          obtain ⟨s0, s1, s2⟩ := hRx112.c3
          exact bodyPost_ret (v := .agg #[.int .i64 0, .int .i64 0, .int .i64 2]) (by simp [results, Try.results23, go_sem, s0, s1, s2]) rfl ⟨rfl, below_s3 Bx110 (by omega) _ _ _⟩
        · have HE3 : Hid ((if Fit (q + l.v * p.y) then atO (q + l.v * p.y) ([(l.t, p.x), (l.v, p.y), (l.a, p.z)].drop 2) else none) = o) := Lib.hid (by have := HE2.out; rwa [if_pos hf] at this)
          clear HE2 HC hf
          obtain ⟨an, ad, ae, hx, hy⟩ := fitO_ways (q + l.v * p.y)
          have HA := Lib.hid (fradd HI.out hm hx)
          have HC := Lib.hid hy
          clear hx hy hm
          obtain ⟨c_s0, c_s1, c_s2⟩ := mx109.c3
          obtain ⟨c_x0, c_x1, c_x2⟩ := mx105.c3
          go_wp2_with fail
          refine (HA.out.at _).mono ?_
          rintro o Wx113 ⟨rfl, hbx114⟩
          clear c_s0 c_s1 c_s2
          clear c_x0 c_x1 c_x2
          have mx115 := mx106.keep hbx114
          have mx116 := mx107.keep hbx114
          have mx117 := mx108.keep hbx114
          have mx118 := mx109.keep hbx114
          have mx119 := mx105.keep hbx114
          have Bx120 := Bx110.trans (hbx114.mono Bx110.size)
          have szx121 := hbx114.size
          clear mx106 mx107 mx108 mx109 mx105 Bx110 hbx114
          obtain ⟨c_s0, c_s1, c_s2⟩ := mx118.c3
          obtain ⟨f_s0, f_s1, f_s2⟩ := mx118.f3
          go_upto_region 10 with fail
          clear c_s0 c_s1 c_s2 f_s0 f_s1 f_s2
          have mx123 := mx118.s3 (.int .i64 an) (.int .i64 ad) (.int .i64 ae)
          have mx124 := mx115.z3 (b := Wx5.heap.size) (by omega) (.int .i64 an) (.int .i64 ad) (.int .i64 ae)
          have mx125 := mx116.z3 (b := Wx5.heap.size) (by omega) (.int .i64 an) (.int .i64 ad) (.int .i64 ae)
          have mx126 := mx117.z3 (b := Wx5.heap.size) (by omega) (.int .i64 an) (.int .i64 ad) (.int .i64 ae)
          have mx127 := mx119.z3 (b := Wx5.heap.size) (by omega) (.int .i64 an) (.int .i64 ad) (.int .i64 ae)
          have Bx128 := below_s3 (b := Wx5.heap.size) Bx120 (by omega) (.int .i64 an) (.int .i64 ad) (.int .i64 ae)
          have ltx129 := mx123.lt
          generalize (((Wx113.setCell ⟨Wx5.heap.size, 0, none⟩ (.int .i64 an)).setCell ⟨Wx5.heap.size, 1, none⟩ (.int .i64 ad)).setCell ⟨Wx5.heap.size, 2, none⟩ (.int .i64 ae)) = Wx122 at *
          clear mx118 mx115 mx116 mx117 mx119 Bx120
          rcases HC.out with ⟨hf, ha, rfl⟩ | ⟨hf, rfl, rfl, rfl⟩
          rotate_left
          · have ho := HE3.out
            rw [if_neg hf] at ho
            obtain ⟨rfl, rfl, rfl⟩ := resF_none HR.out ho.symm
            clear ho hf HC HE3
            obtain ⟨c_s0, c_s1, c_s2⟩ := mx123.c3
            obtain ⟨c_r0, c_r1, c_r2⟩ := mx125.c3
            obtain ⟨f_r0, f_r1, f_r2⟩ := mx125.f3
            go_wp2_with fail
            have hRx130 := mx125.s3 (.int .i64 0) (.int .i64 0) (.int .i64 2)
            obtain ⟨s0, s1, s2⟩ := hRx130.c3
            exact bodyPost_ret (v := .agg #[.int .i64 0, .int .i64 0, .int .i64 2]) (by simp [results, Try.results23, go_sem, s0, s1, s2]) rfl ⟨rfl, below_s3 Bx128 (by omega) _ _ _⟩
          · have ho := HE3.out
            rw [if_pos hf] at ho
            have HS2 : Hid (RAtAt w (Wx5.heap.size) (Wx11.heap.size) a2 a3 a4 a5 a6 a7 p0 p1 p2 p3 p4 p5 [(l.t, p.x), (l.v, p.y), (l.a, p.z)] o (.int .i64 2) Wx122) := Lib.hid ⟨2, _, an, ad, rfl, by omega, ha, ho, mx124, mx125, mx126, mx123, Bx128, e0, e1⟩
            obtain ⟨c_s0, c_s1, c_s2⟩ := mx123.c3
            clear ho hf ha HC HE3
            go_wp2_with fail
            go_roundw
            case rel => exact HS2.out
            case measure => simp [intOf]
    · have HE2 : Hid ((if Fit (l.a * p.z) then if Fit (q + l.a * p.z) then atO (q + l.a * p.z) ([(l.t, p.x), (l.v, p.y), (l.a, p.z)].drop 3) else none else none) = o) := Lib.hid HE.out
      have ltx131 := m0.lt
      have ltx132 := m1.lt
      have ltx133 := m2.lt
      have ltx134 := m3.lt
      obtain ⟨mn, md, me, hx, hy⟩ := fitO_ways (l.a * p.z)
      have HM := Lib.hid (frmul HL.out.a HP.out.z hx)
      have HC := Lib.hid hy
      clear hx hy HE
      go_upto_region 6 with fail
      have ltx135 := m0.lt
      have ltx136 := m1.lt
      have ltx137 := m2.lt
      have ltx138 := m3.lt
      refine wp_region_free1 (agf := ?frx139) 9 8 zrR (by kernel_rfl) [] (by kernel_rfl) (fun d _ _ _ _ h => by cases d <;> exact h) (by rfl) (by rfl) ?frx1391 ?frx1392
      case frx1391 =>
        intro W hW
        obtain ⟨c_c0, c_c1, c_c2, c_c3, c_c4, c_c5⟩ := m2.l6 hW
        obtain ⟨c_p0, c_p1, c_p2, c_p3, c_p4, c_p5⟩ := m0.l6 hW
        simp only [List.take_succ_cons, List.take_zero, ghostL, List.contains_cons, List.contains_nil, Nat.reduceAdd, Nat.reduceBEq, Bool.or_false, Bool.or_true, Bool.true_or, Bool.false_or, Bool.false_eq_true, if_false, if_true, ghostO]
        repeat (go_big_quiet_step (((go_at_call 60; with_reducible exact later_of ((HM.out.at _))))))
        refine wpQuiet_nil ?_
        rfl
      case frx1392 =>
        intro bx142 Wx140 hbx141 mx143 gx144 
        simp only [List.drop_succ_cons, List.drop_zero, Act.put, List.setIfInBounds_toArray, List.set_cons_succ, List.set_cons_zero]
        have mx145 := m0.keep hbx141
        have mx146 := m1.keep hbx141
        have mx147 := m2.keep hbx141
        have mx148 := m3.keep hbx141
        have Bx149 := B0.trans (hbx141.mono B0.size)
        have szx150 := hbx141.size
        clear m0 m1 m2 m3 B0 hbx141
        have ltx151 := mx143.lt
        obtain ⟨c_x0, c_x1, c_x2⟩ := mx143.c3
        obtain ⟨f_x0, f_x1, f_x2⟩ := mx143.f3
        go_upto_region 7 with fail
        clear c_x0 c_x1 c_x2 f_x0 f_x1 f_x2
        have mx153 := mx143.s3 (.int .i64 mn) (.int .i64 md) (.int .i64 me)
        have mx154 := mx145.z3 (b := bx142) (by omega) (.int .i64 mn) (.int .i64 md) (.int .i64 me)
        have mx155 := mx146.z3 (b := bx142) (by omega) (.int .i64 mn) (.int .i64 md) (.int .i64 me)
        have mx156 := mx147.z3 (b := bx142) (by omega) (.int .i64 mn) (.int .i64 md) (.int .i64 me)
        have mx157 := mx148.z3 (b := bx142) (by omega) (.int .i64 mn) (.int .i64 md) (.int .i64 me)
        have Bx158 := below_s3 (b := bx142) Bx149 (by omega) (.int .i64 mn) (.int .i64 md) (.int .i64 me)
        have ltx159 := mx153.lt
        generalize (((Wx140.setCell ⟨bx142, 0, none⟩ (.int .i64 mn)).setCell ⟨bx142, 1, none⟩ (.int .i64 md)).setCell ⟨bx142, 2, none⟩ (.int .i64 me)) = Wx152 at *
        clear mx143 mx145 mx146 mx147 mx148 Bx149
        rcases HC.out with ⟨hf, hm, rfl⟩ | ⟨hf, rfl, rfl, rfl⟩
        rotate_left
        · have ho := HE2.out
          rw [if_neg hf] at ho
          obtain ⟨rfl, rfl, rfl⟩ := resF_none HR.out ho.symm
          clear ho hf HC HE2
          obtain ⟨c_x0, c_x1, c_x2⟩ := mx153.c3
          obtain ⟨c_r0, c_r1, c_r2⟩ := mx155.c3
          obtain ⟨f_r0, f_r1, f_r2⟩ := mx155.f3
          go_wp2_with fail
          have hRx160 := mx155.s3 (.int .i64 0) (.int .i64 0) (.int .i64 2)
          obtain ⟨s0, s1, s2⟩ := hRx160.c3
          exact bodyPost_ret (v := .agg #[.int .i64 0, .int .i64 0, .int .i64 2]) (by simp [results, Try.results23, go_sem, s0, s1, s2]) rfl ⟨rfl, below_s3 Bx158 (by omega) _ _ _⟩
        · have HE3 : Hid ((if Fit (q + l.a * p.z) then atO (q + l.a * p.z) ([(l.t, p.x), (l.v, p.y), (l.a, p.z)].drop 3) else none) = o) := Lib.hid (by have := HE2.out; rwa [if_pos hf] at this)
          clear HE2 HC hf
          obtain ⟨an, ad, ae, hx, hy⟩ := fitO_ways (q + l.a * p.z)
          have HA := Lib.hid (fradd HI.out hm hx)
          have HC := Lib.hid hy
          clear hx hy hm
          obtain ⟨c_s0, c_s1, c_s2⟩ := mx157.c3
          obtain ⟨c_x0, c_x1, c_x2⟩ := mx153.c3
          go_wp2_with fail
          refine (HA.out.at _).mono ?_
          rintro o Wx161 ⟨rfl, hbx162⟩
          clear c_s0 c_s1 c_s2
          clear c_x0 c_x1 c_x2
          have mx163 := mx154.keep hbx162
          have mx164 := mx155.keep hbx162
          have mx165 := mx156.keep hbx162
          have mx166 := mx157.keep hbx162
          have mx167 := mx153.keep hbx162
          have Bx168 := Bx158.trans (hbx162.mono Bx158.size)
          have szx169 := hbx162.size
          clear mx154 mx155 mx156 mx157 mx153 Bx158 hbx162
          obtain ⟨c_s0, c_s1, c_s2⟩ := mx166.c3
          obtain ⟨f_s0, f_s1, f_s2⟩ := mx166.f3
          go_upto_region 10 with fail
          clear c_s0 c_s1 c_s2 f_s0 f_s1 f_s2
          have mx171 := mx166.s3 (.int .i64 an) (.int .i64 ad) (.int .i64 ae)
          have mx172 := mx163.z3 (b := Wx5.heap.size) (by omega) (.int .i64 an) (.int .i64 ad) (.int .i64 ae)
          have mx173 := mx164.z3 (b := Wx5.heap.size) (by omega) (.int .i64 an) (.int .i64 ad) (.int .i64 ae)
          have mx174 := mx165.z3 (b := Wx5.heap.size) (by omega) (.int .i64 an) (.int .i64 ad) (.int .i64 ae)
          have mx175 := mx167.z3 (b := Wx5.heap.size) (by omega) (.int .i64 an) (.int .i64 ad) (.int .i64 ae)
          have Bx176 := below_s3 (b := Wx5.heap.size) Bx168 (by omega) (.int .i64 an) (.int .i64 ad) (.int .i64 ae)
          have ltx177 := mx171.lt
          generalize (((Wx161.setCell ⟨Wx5.heap.size, 0, none⟩ (.int .i64 an)).setCell ⟨Wx5.heap.size, 1, none⟩ (.int .i64 ad)).setCell ⟨Wx5.heap.size, 2, none⟩ (.int .i64 ae)) = Wx170 at *
          clear mx166 mx163 mx164 mx165 mx167 Bx168
          rcases HC.out with ⟨hf, ha, rfl⟩ | ⟨hf, rfl, rfl, rfl⟩
          rotate_left
          · have ho := HE3.out
            rw [if_neg hf] at ho
            obtain ⟨rfl, rfl, rfl⟩ := resF_none HR.out ho.symm
            clear ho hf HC HE3
            obtain ⟨c_s0, c_s1, c_s2⟩ := mx171.c3
            obtain ⟨c_r0, c_r1, c_r2⟩ := mx173.c3
            obtain ⟨f_r0, f_r1, f_r2⟩ := mx173.f3
            go_wp2_with fail
            have hRx178 := mx173.s3 (.int .i64 0) (.int .i64 0) (.int .i64 2)
            obtain ⟨s0, s1, s2⟩ := hRx178.c3
            exact bodyPost_ret (v := .agg #[.int .i64 0, .int .i64 0, .int .i64 2]) (by simp [results, Try.results23, go_sem, s0, s1, s2]) rfl ⟨rfl, below_s3 Bx176 (by omega) _ _ _⟩
          · have ho := HE3.out
            rw [if_pos hf] at ho
            have HS2 : Hid (RAtAt w (Wx5.heap.size) (Wx11.heap.size) a2 a3 a4 a5 a6 a7 p0 p1 p2 p3 p4 p5 [(l.t, p.x), (l.v, p.y), (l.a, p.z)] o (.int .i64 3) Wx170) := Lib.hid ⟨3, _, an, ad, rfl, by omega, ha, ho, mx172, mx173, mx174, mx171, Bx176, e0, e1⟩
            obtain ⟨c_s0, c_s1, c_s2⟩ := mx171.c3
            clear ho hf ha HC HE3
            go_wp2_with fail
            go_roundw
            case rel => exact HS2.out
            case measure => simp [intOf]
    · have ho : o = some q := HE.out.symm
      obtain ⟨rfl, rfl, rfl⟩ := resF_val HR.out ho HI.out
      clear ho HE
      obtain ⟨c_s0, c_s1, c_s2⟩ := m3.c3
      obtain ⟨c_r0, c_r1, c_r2⟩ := m1.c3
      obtain ⟨f_r0, f_r1, f_r2⟩ := m1.f3
      go_wp2_with fail
      have hRx179 := m1.s3 (.int .i64 x) (.int .i64 y) (.int .i64 0)
      obtain ⟨s0, s1, s2⟩ := hRx179.c3
      exact bodyPost_ret (v := .agg #[.int .i64 x, .int .i64 y, .int .i64 0]) (by simp [results, Try.results23, go_sem, s0, s1, s2]) rfl ⟨rfl, below_s3 B0 (by omega) _ _ _⟩

set_option maxRecDepth 100000 in
set_option maxHeartbeats 2000000 in
theorem rplus_ {i j : IQ} {a0 a1 a2 a3 b0 b1 b2 b3 r0 r1 r2 r3 e : Int} (hi : IsI i a0 a1 a2 a3) (hj : IsI j b0 b1 b2 b3) (hr : ResI (i.plus j) r0 r1 r2 r3 e) : Does 31 #[.agg #[.int .i64 a0, .int .i64 a1, .int .i64 a2, .int .i64 a3], .agg #[.int .i64 b0, .int .i64 b1, .int .i64 b2, .int .i64 b3]] (.agg #[.int .i64 r0, .int .i64 r1, .int .i64 r2, .int .i64 r3, .int .i64 e]) := by
  intro w
  obtain ⟨x0, x1, xe, hxx, hyx⟩ := resF_ways (fitO (i.lo + j.lo)) (fun r h => fitO_fit h)
  have Ax := Lib.hid (fradd hi.lo hj.lo hxx)
  obtain ⟨y0, y1, ye, hxy, hyy⟩ := resF_ways (fitO (i.hi + j.hi)) (fun r h => fitO_fit h)
  have Ay := Lib.hid (fradd hi.hi hj.hi hxy)
  have HW := Lib.hid (plus_bind i j ▸ hr)
  have HX := Lib.hid hyx
  have HY := Lib.hid hyy
  clear hi hj hr hxx hxy hyx hyy
  generalize fitO (i.lo + j.lo) = ox at *
  generalize fitO (i.hi + j.hi) = oy at *
  go_enter Try.func31, Try.ntmps31
  go_upto_region 1 with fail
  have hst := start3 w (#[.int .i64 a0, .int .i64 a1, .int .i64 a2, .int .i64 a3]) (#[.int .i64 b0, .int .i64 b1, .int .i64 b2, .int .i64 b3]) (#[.int .i64 0, .int .i64 0, .int .i64 0, .int .i64 0, .int .i64 0]) 27 27 54
  generalize (((w.alloc (.cells #[.int .i64 a0, .int .i64 a1, .int .i64 a2, .int .i64 a3] 27)).alloc (.cells #[.int .i64 b0, .int .i64 b1, .int .i64 b2, .int .i64 b3] 27)).alloc (.cells #[.int .i64 0, .int .i64 0, .int .i64 0, .int .i64 0, .int .i64 0] 54)) = Wx5 at *
  obtain ⟨mx1, mx2, mx3, Bx4⟩ := hst
  have ltx6 := mx1.lt
  have ltx7 := mx2.lt
  have ltx8 := mx3.lt
  have ltx9 := mx1.lt
  have ltx10 := mx2.lt
  have ltx11 := mx3.lt
  refine wp_region_free2 (agf := ?frx12) 12 10 11 zrR zrR (by kernel_rfl) [] (by kernel_rfl) (fun d _ _ _ _ h => by cases d <;> exact h) (by decide) (by rfl) (by rfl) (by rfl) (by rfl) ?frx121 ?frx122
  case frx121 =>
    intro W hW
    obtain ⟨c_i0, c_i1, c_i2, c_i3⟩ := mx1.l4 hW
    obtain ⟨c_j0, c_j1, c_j2, c_j3⟩ := mx2.l4 hW
    simp only [List.take_succ_cons, List.take_zero, ghostL, List.contains_cons, List.contains_nil, Nat.reduceAdd, Nat.reduceBEq, Bool.or_false, Bool.or_true, Bool.true_or, Bool.false_or, Bool.false_eq_true, if_false, if_true, ghostO]
    repeat (go_big_quiet_step (((go_at_call 61; first | with_reducible exact later_of ((Ax.out.at _)) | with_reducible exact later_of ((Ay.out.at _))))))
    refine wpQuiet_nil ?_
    rfl
  case frx122 =>
    intro bx15 bx16 Wx13 hbx14 mx17 mx18 gx19 gx20 nex21
    simp only [List.drop_succ_cons, List.drop_zero, Act.put, List.setIfInBounds_toArray, List.set_cons_succ, List.set_cons_zero]
    have mx22 := mx1.keep hbx14
    have mx23 := mx2.keep hbx14
    have mx24 := mx3.keep hbx14
    have Bx25 := Bx4.trans (hbx14.mono Bx4.size)
    have szx26 := hbx14.size
    clear mx1 mx2 mx3 Bx4 hbx14
    have ltx27 := mx17.lt
    have ltx28 := mx18.lt
    obtain ⟨c_lo0, c_lo1, c_lo2⟩ := mx17.c3
    obtain ⟨f_lo0, f_lo1, f_lo2⟩ := mx17.f3
    obtain ⟨c_hi0, c_hi1, c_hi2⟩ := mx18.c3
    obtain ⟨f_hi0, f_hi1, f_hi2⟩ := mx18.f3
    go_upto_region 2 with fail
    clear c_lo0 c_lo1 c_lo2 f_lo0 f_lo1 f_lo2
    clear c_hi0 c_hi1 c_hi2 f_hi0 f_hi1 f_hi2
    have mx30 := mx17.s3 (.int .i64 x0) (.int .i64 x1) (.int .i64 xe)
    have mx31 := mx22.z3 (b := bx15) (by omega) (.int .i64 x0) (.int .i64 x1) (.int .i64 xe)
    have mx32 := mx23.z3 (b := bx15) (by omega) (.int .i64 x0) (.int .i64 x1) (.int .i64 xe)
    have mx33 := mx24.z3 (b := bx15) (by omega) (.int .i64 x0) (.int .i64 x1) (.int .i64 xe)
    have mx34 := mx18.z3 (b := bx15) (by omega) (.int .i64 x0) (.int .i64 x1) (.int .i64 xe)
    have Bx35 := below_s3 (b := bx15) Bx25 (by omega) (.int .i64 x0) (.int .i64 x1) (.int .i64 xe)
    have ltx36 := mx30.lt
    generalize (((Wx13.setCell ⟨bx15, 0, none⟩ (.int .i64 x0)).setCell ⟨bx15, 1, none⟩ (.int .i64 x1)).setCell ⟨bx15, 2, none⟩ (.int .i64 xe)) = Wx29 at *
    clear mx17 mx22 mx23 mx24 mx18 Bx25
    have mx38 := mx34.s3 (.int .i64 y0) (.int .i64 y1) (.int .i64 ye)
    have mx39 := mx31.z3 (b := bx16) (by omega) (.int .i64 y0) (.int .i64 y1) (.int .i64 ye)
    have mx40 := mx32.z3 (b := bx16) (by omega) (.int .i64 y0) (.int .i64 y1) (.int .i64 ye)
    have mx41 := mx33.z3 (b := bx16) (by omega) (.int .i64 y0) (.int .i64 y1) (.int .i64 ye)
    have mx42 := mx30.z3 (b := bx16) (by omega) (.int .i64 y0) (.int .i64 y1) (.int .i64 ye)
    have Bx43 := below_s3 (b := bx16) Bx35 (by omega) (.int .i64 y0) (.int .i64 y1) (.int .i64 ye)
    have ltx44 := mx38.lt
    generalize (((Wx29.setCell ⟨bx16, 0, none⟩ (.int .i64 y0)).setCell ⟨bx16, 1, none⟩ (.int .i64 y1)).setCell ⟨bx16, 2, none⟩ (.int .i64 ye)) = Wx37 at *
    clear mx34 mx31 mx32 mx33 mx30 Bx35
    rcases HX.out with ⟨qx, ex, fx, rfl⟩ | ⟨ex, rfl, rfl, rfl⟩
    rotate_left
    · have hw := HW.out
      rw [ex] at hw
      obtain ⟨rfl, rfl, rfl, rfl, rfl⟩ := resI_none hw rfl
      clear hw ex HW HX
      obtain ⟨c_lo0, c_lo1, c_lo2⟩ := mx42.c3
      obtain ⟨c_hi0, c_hi1, c_hi2⟩ := mx38.c3
      obtain ⟨c_r0, c_r1, c_r2, c_r3, c_r4⟩ := mx41.c5
      obtain ⟨f_r0, f_r1, f_r2, f_r3, f_r4⟩ := mx41.f5
      go_wp2_with fail
      have hRx45 := mx41.s5 (.int .i64 0) (.int .i64 0) (.int .i64 0) (.int .i64 0) (.int .i64 2)
      obtain ⟨s0, s1, s2, s3, s4⟩ := hRx45.c5
      exact bodyPost_ret (v := .agg #[.int .i64 0, .int .i64 0, .int .i64 0, .int .i64 0, .int .i64 2]) (by simp [results, Try.results31, go_sem, s0, s1, s2, s3, s4]) rfl ⟨rfl, below_s5 Bx43 (by omega) _ _ _ _ _⟩
    · rcases HY.out with ⟨qy, ey, fy, rfl⟩ | ⟨ey, rfl, rfl, rfl⟩
      rotate_left
      · have hw := HW.out
        rw [ex, ey] at hw
        obtain ⟨rfl, rfl, rfl, rfl, rfl⟩ := resI_none hw rfl
        clear hw ex ey fx HW HX HY
        obtain ⟨c_lo0, c_lo1, c_lo2⟩ := mx42.c3
        obtain ⟨c_hi0, c_hi1, c_hi2⟩ := mx38.c3
        obtain ⟨c_r0, c_r1, c_r2, c_r3, c_r4⟩ := mx41.c5
        obtain ⟨f_r0, f_r1, f_r2, f_r3, f_r4⟩ := mx41.f5
        go_wp2_with fail
        have hRx46 := mx41.s5 (.int .i64 0) (.int .i64 0) (.int .i64 0) (.int .i64 0) (.int .i64 2)
        obtain ⟨s0, s1, s2, s3, s4⟩ := hRx46.c5
        exact bodyPost_ret (v := .agg #[.int .i64 0, .int .i64 0, .int .i64 0, .int .i64 0, .int .i64 2]) (by simp [results, Try.results31, go_sem, s0, s1, s2, s3, s4]) rfl ⟨rfl, below_s5 Bx43 (by omega) _ _ _ _ _⟩
      · have hw := HW.out
        rw [ex, ey] at hw
        obtain ⟨rfl, rfl, rfl, rfl, rfl⟩ := resI_val hw rfl fx fy
        clear hw ex ey fx fy HW HX HY
        obtain ⟨c_lo0, c_lo1, c_lo2⟩ := mx42.c3
        obtain ⟨c_hi0, c_hi1, c_hi2⟩ := mx38.c3
        obtain ⟨c_r0, c_r1, c_r2, c_r3, c_r4⟩ := mx41.c5
        obtain ⟨f_r0, f_r1, f_r2, f_r3, f_r4⟩ := mx41.f5
        go_wp2_with fail
        have hRx47 := mx41.s5 (.int .i64 r0) (.int .i64 r1) (.int .i64 r2) (.int .i64 r3) (.int .i64 0)
        obtain ⟨s0, s1, s2, s3, s4⟩ := hRx47.c5
        exact bodyPost_ret (v := .agg #[.int .i64 r0, .int .i64 r1, .int .i64 r2, .int .i64 r3, .int .i64 0]) (by simp [results, Try.results31, go_sem, s0, s1, s2, s3, s4]) rfl ⟨rfl, below_s5 Bx43 (by omega) _ _ _ _ _⟩

def lineO (o0 o1 o2 o3 : Option Rat) : Option LQ := o0.bind fun k => o1.bind fun t => o2.bind fun v => o3.bind fun a => some ⟨k, t, v, a⟩
theorem lineO_fit (k t v a : Rat) : lineO (fitO k) (fitO t) (fitO v) (fitO a) = fit4 ⟨k, t, v, a⟩ := by
  unfold lineO fit4 fitO
  by_cases h1 : Fit k <;> by_cases h2 : Fit t <;> by_cases h3 : Fit v <;> by_cases h4 : Fit a <;> simp [h1, h2, h3, h4]
/-- What holds at the head of the loop of line. -/
def LineAt (w : World) (x0 x1 e0 x2 x3 e1 x4 x5 e2 x6 x7 e3 : Int) (i : Value) (wr : World) : Prop :=
  ∃ k : Nat, i = .int .i64 k ∧ k ≤ 4 ∧ (0 < k → e0 = 0) ∧ (1 < k → e1 = 0) ∧ (2 < k → e2 = 0) ∧ (3 < k → e3 = 0) ∧ BoxL wr w.heap.size #[.int .i64 x0, .int .i64 x1, .int .i64 e0, .int .i64 x2, .int .i64 x3, .int .i64 e1, .int .i64 x4, .int .i64 x5, .int .i64 e2, .int .i64 x6, .int .i64 x7, .int .i64 e3] ∧ BoxL wr (w.heap.size + 1) #[.int .i64 0, .int .i64 0, .int .i64 0, .int .i64 0, .int .i64 0, .int .i64 0, .int .i64 0, .int .i64 0, .int .i64 0] ∧ Below w.heap.size w wr

set_option maxRecDepth 100000 in
set_option maxHeartbeats 2000000 in
theorem rline_ {o0 o1 o2 o3 : Option Rat} {x0 x1 e0 x2 x3 e1 x4 x5 e2 x6 x7 e3 r0 r1 r2 r3 r4 r5 r6 r7 e : Int} (h0 : ResF o0 x0 x1 e0) (h1 : ResF o1 x2 x3 e1) (h2 : ResF o2 x4 x5 e2) (h3 : ResF o3 x6 x7 e3) (hr : ResL (lineO o0 o1 o2 o3) r0 r1 r2 r3 r4 r5 r6 r7 e) : Does 64 #[.agg #[.int .i64 x0, .int .i64 x1, .int .i64 e0, .int .i64 x2, .int .i64 x3, .int .i64 e1, .int .i64 x4, .int .i64 x5, .int .i64 e2, .int .i64 x6, .int .i64 x7, .int .i64 e3]] (.agg #[.int .i64 r0, .int .i64 r1, .int .i64 r2, .int .i64 r3, .int .i64 r4, .int .i64 r5, .int .i64 r6, .int .i64 r7, .int .i64 e]) := by
  intro w
  have H0 := Lib.hid h0
  have H1 := Lib.hid h1
  have H2 := Lib.hid h2
  have H3 := Lib.hid h3
  have HR := Lib.hid hr
  clear h0 h1 h2 h3 hr
  go_enter Try.func64, Try.ntmps64
  go_upto_region 1 with fail
  have hst := start2 w (#[.int .i64 x0, .int .i64 x1, .int .i64 e0, .int .i64 x2, .int .i64 x3, .int .i64 e1, .int .i64 x4, .int .i64 x5, .int .i64 e2, .int .i64 x6, .int .i64 x7, .int .i64 e3]) (#[.int .i64 0, .int .i64 0, .int .i64 0, .int .i64 0, .int .i64 0, .int .i64 0, .int .i64 0, .int .i64 0, .int .i64 0]) 95 48
  generalize ((w.alloc (.cells #[.int .i64 x0, .int .i64 x1, .int .i64 e0, .int .i64 x2, .int .i64 x3, .int .i64 e1, .int .i64 x4, .int .i64 x5, .int .i64 e2, .int .i64 x6, .int .i64 x7, .int .i64 e3] 95)).alloc (.cells #[.int .i64 0, .int .i64 0, .int .i64 0, .int .i64 0, .int .i64 0, .int .i64 0, .int .i64 0, .int .i64 0, .int .i64 0] 48)) = Wx4 at *
  obtain ⟨mx1, mx2, Bx3⟩ := hst
  have ltx5 := mx1.lt
  have ltx6 := mx2.lt
  go_upto_region 2 with fail
  have HS : Hid (LineAt w x0 x1 e0 x2 x3 e1 x4 x5 e2 x6 x7 e3 (.int .i64 0) Wx4) := Lib.hid ⟨0, rfl, by omega, by omega, by omega, by omega, by omega, mx1, mx2, Bx3⟩
  clear mx1 mx2 Bx3
  go_loopw [3] (fun i wr => LineAt w x0 x1 e0 x2 x3 e1 x4 x5 e2 x6 x7 e3 i wr) (fun i _ => 4 - (intOf i).toNat)
  case atStart => exact HS.out
  case round =>
    obtain ⟨k, rfl, hk, F0, F1, F2, F3, m0, m1, B0⟩ := hrel
    clear HS
    have G0 := Lib.hid F0
    have G1 := Lib.hid F1
    have G2 := Lib.hid F2
    have G3 := Lib.hid F3
    clear F0 F1 F2 F3
    obtain rfl | rfl | rfl | rfl | rfl : k = 0 ∨ k = 1 ∨ k = 2 ∨ k = 3 ∨ k = 4 := by omega
    · rcases H0.out with ⟨q, eq, fq, ez⟩ | ⟨eq, z0, z1, ez⟩
      rotate_left
      · have ho := HR.out
        rw [eq] at ho
        obtain ⟨rfl, rfl, rfl, rfl, rfl, rfl, rfl, rfl, rfl⟩ := resL_none ho rfl
        subst z0 z1
        clear ho HR eq 
        obtain ⟨c_p0, c_p1, c_p2, c_p3, c_p4, c_p5, c_p6, c_p7, c_p8, c_p9, c_p10, c_p11⟩ := m0.c12
        obtain ⟨c_r0, c_r1, c_r2, c_r3, c_r4, c_r5, c_r6, c_r7, c_r8⟩ := m1.c9
        obtain ⟨f_r0, f_r1, f_r2, f_r3, f_r4, f_r5, f_r6, f_r7, f_r8⟩ := m1.f9
        go_wp2_with fail
        have hRx7 := m1.s9 (.int .i64 0) (.int .i64 0) (.int .i64 0) (.int .i64 0) (.int .i64 0) (.int .i64 0) (.int .i64 0) (.int .i64 0) (.int .i64 2)
        obtain ⟨s0, s1, s2, s3, s4, s5, s6, s7, s8⟩ := hRx7.c9
        exact bodyPost_ret (v := .agg #[.int .i64 0, .int .i64 0, .int .i64 0, .int .i64 0, .int .i64 0, .int .i64 0, .int .i64 0, .int .i64 0, .int .i64 2]) (by simp [results, Try.results64, go_sem, s0, s1, s2, s3, s4, s5, s6, s7, s8]) rfl ⟨rfl, below_s9 B0 (by omega) _ _ _ _ _ _ _ _ _⟩
      · have HS2 : Hid (LineAt w x0 x1 e0 x2 x3 e1 x4 x5 e2 x6 x7 e3 (.int .i64 1) wr) := Lib.hid ⟨1, rfl, by omega, fun _ => ez, by omega, by omega, by omega, m0, m1, B0⟩
        clear fq eq
        obtain ⟨c_p0, c_p1, c_p2, c_p3, c_p4, c_p5, c_p6, c_p7, c_p8, c_p9, c_p10, c_p11⟩ := m0.c12
        clear m0 m1 B0
        go_wp2_with fail
        go_roundw
        case rel => exact HS2.out
        case measure => simp [intOf]
    · rcases H1.out with ⟨q, eq, fq, ez⟩ | ⟨eq, z0, z1, ez⟩
      rotate_left
      · have ho := HR.out
        obtain ⟨q0, eq0⟩ : ∃ q, o0 = some q := by
            rcases H0.out with ⟨q, h, _⟩ | ⟨_, _, _, h⟩
            · exact ⟨q, h⟩
            · have := G0.out (by omega)
              omega
        rw [eq0, eq] at ho
        obtain ⟨rfl, rfl, rfl, rfl, rfl, rfl, rfl, rfl, rfl⟩ := resL_none ho rfl
        subst z0 z1
        clear ho HR eq eq0
        obtain ⟨c_p0, c_p1, c_p2, c_p3, c_p4, c_p5, c_p6, c_p7, c_p8, c_p9, c_p10, c_p11⟩ := m0.c12
        obtain ⟨c_r0, c_r1, c_r2, c_r3, c_r4, c_r5, c_r6, c_r7, c_r8⟩ := m1.c9
        obtain ⟨f_r0, f_r1, f_r2, f_r3, f_r4, f_r5, f_r6, f_r7, f_r8⟩ := m1.f9
        go_wp2_with fail
        have hRx8 := m1.s9 (.int .i64 0) (.int .i64 0) (.int .i64 0) (.int .i64 0) (.int .i64 0) (.int .i64 0) (.int .i64 0) (.int .i64 0) (.int .i64 2)
        obtain ⟨s0, s1, s2, s3, s4, s5, s6, s7, s8⟩ := hRx8.c9
        exact bodyPost_ret (v := .agg #[.int .i64 0, .int .i64 0, .int .i64 0, .int .i64 0, .int .i64 0, .int .i64 0, .int .i64 0, .int .i64 0, .int .i64 2]) (by simp [results, Try.results64, go_sem, s0, s1, s2, s3, s4, s5, s6, s7, s8]) rfl ⟨rfl, below_s9 B0 (by omega) _ _ _ _ _ _ _ _ _⟩
      · have HS2 : Hid (LineAt w x0 x1 e0 x2 x3 e1 x4 x5 e2 x6 x7 e3 (.int .i64 2) wr) := Lib.hid ⟨2, rfl, by omega, fun _ => G0.out (by omega), fun _ => ez, by omega, by omega, m0, m1, B0⟩
        clear fq eq
        obtain ⟨c_p0, c_p1, c_p2, c_p3, c_p4, c_p5, c_p6, c_p7, c_p8, c_p9, c_p10, c_p11⟩ := m0.c12
        clear m0 m1 B0
        go_wp2_with fail
        go_roundw
        case rel => exact HS2.out
        case measure => simp [intOf]
    · rcases H2.out with ⟨q, eq, fq, ez⟩ | ⟨eq, z0, z1, ez⟩
      rotate_left
      · have ho := HR.out
        obtain ⟨q0, eq0⟩ : ∃ q, o0 = some q := by
            rcases H0.out with ⟨q, h, _⟩ | ⟨_, _, _, h⟩
            · exact ⟨q, h⟩
            · have := G0.out (by omega)
              omega
        obtain ⟨q1, eq1⟩ : ∃ q, o1 = some q := by
            rcases H1.out with ⟨q, h, _⟩ | ⟨_, _, _, h⟩
            · exact ⟨q, h⟩
            · have := G1.out (by omega)
              omega
        rw [eq0, eq1, eq] at ho
        obtain ⟨rfl, rfl, rfl, rfl, rfl, rfl, rfl, rfl, rfl⟩ := resL_none ho rfl
        subst z0 z1
        clear ho HR eq eq0 eq1
        obtain ⟨c_p0, c_p1, c_p2, c_p3, c_p4, c_p5, c_p6, c_p7, c_p8, c_p9, c_p10, c_p11⟩ := m0.c12
        obtain ⟨c_r0, c_r1, c_r2, c_r3, c_r4, c_r5, c_r6, c_r7, c_r8⟩ := m1.c9
        obtain ⟨f_r0, f_r1, f_r2, f_r3, f_r4, f_r5, f_r6, f_r7, f_r8⟩ := m1.f9
        go_wp2_with fail
        have hRx9 := m1.s9 (.int .i64 0) (.int .i64 0) (.int .i64 0) (.int .i64 0) (.int .i64 0) (.int .i64 0) (.int .i64 0) (.int .i64 0) (.int .i64 2)
        obtain ⟨s0, s1, s2, s3, s4, s5, s6, s7, s8⟩ := hRx9.c9
        exact bodyPost_ret (v := .agg #[.int .i64 0, .int .i64 0, .int .i64 0, .int .i64 0, .int .i64 0, .int .i64 0, .int .i64 0, .int .i64 0, .int .i64 2]) (by simp [results, Try.results64, go_sem, s0, s1, s2, s3, s4, s5, s6, s7, s8]) rfl ⟨rfl, below_s9 B0 (by omega) _ _ _ _ _ _ _ _ _⟩
      · have HS2 : Hid (LineAt w x0 x1 e0 x2 x3 e1 x4 x5 e2 x6 x7 e3 (.int .i64 3) wr) := Lib.hid ⟨3, rfl, by omega, fun _ => G0.out (by omega), fun _ => G1.out (by omega), fun _ => ez, by omega, m0, m1, B0⟩
        clear fq eq
        obtain ⟨c_p0, c_p1, c_p2, c_p3, c_p4, c_p5, c_p6, c_p7, c_p8, c_p9, c_p10, c_p11⟩ := m0.c12
        clear m0 m1 B0
        go_wp2_with fail
        go_roundw
        case rel => exact HS2.out
        case measure => simp [intOf]
    · rcases H3.out with ⟨q, eq, fq, ez⟩ | ⟨eq, z0, z1, ez⟩
      rotate_left
      · have ho := HR.out
        obtain ⟨q0, eq0⟩ : ∃ q, o0 = some q := by
            rcases H0.out with ⟨q, h, _⟩ | ⟨_, _, _, h⟩
            · exact ⟨q, h⟩
            · have := G0.out (by omega)
              omega
        obtain ⟨q1, eq1⟩ : ∃ q, o1 = some q := by
            rcases H1.out with ⟨q, h, _⟩ | ⟨_, _, _, h⟩
            · exact ⟨q, h⟩
            · have := G1.out (by omega)
              omega
        obtain ⟨q2, eq2⟩ : ∃ q, o2 = some q := by
            rcases H2.out with ⟨q, h, _⟩ | ⟨_, _, _, h⟩
            · exact ⟨q, h⟩
            · have := G2.out (by omega)
              omega
        rw [eq0, eq1, eq2, eq] at ho
        obtain ⟨rfl, rfl, rfl, rfl, rfl, rfl, rfl, rfl, rfl⟩ := resL_none ho rfl
        subst z0 z1
        clear ho HR eq eq0 eq1 eq2
        obtain ⟨c_p0, c_p1, c_p2, c_p3, c_p4, c_p5, c_p6, c_p7, c_p8, c_p9, c_p10, c_p11⟩ := m0.c12
        obtain ⟨c_r0, c_r1, c_r2, c_r3, c_r4, c_r5, c_r6, c_r7, c_r8⟩ := m1.c9
        obtain ⟨f_r0, f_r1, f_r2, f_r3, f_r4, f_r5, f_r6, f_r7, f_r8⟩ := m1.f9
        go_wp2_with fail
        have hRx10 := m1.s9 (.int .i64 0) (.int .i64 0) (.int .i64 0) (.int .i64 0) (.int .i64 0) (.int .i64 0) (.int .i64 0) (.int .i64 0) (.int .i64 2)
        obtain ⟨s0, s1, s2, s3, s4, s5, s6, s7, s8⟩ := hRx10.c9
        exact bodyPost_ret (v := .agg #[.int .i64 0, .int .i64 0, .int .i64 0, .int .i64 0, .int .i64 0, .int .i64 0, .int .i64 0, .int .i64 0, .int .i64 2]) (by simp [results, Try.results64, go_sem, s0, s1, s2, s3, s4, s5, s6, s7, s8]) rfl ⟨rfl, below_s9 B0 (by omega) _ _ _ _ _ _ _ _ _⟩
      · have HS2 : Hid (LineAt w x0 x1 e0 x2 x3 e1 x4 x5 e2 x6 x7 e3 (.int .i64 4) wr) := Lib.hid ⟨4, rfl, by omega, fun _ => G0.out (by omega), fun _ => G1.out (by omega), fun _ => G2.out (by omega), fun _ => ez, m0, m1, B0⟩
        clear fq eq
        obtain ⟨c_p0, c_p1, c_p2, c_p3, c_p4, c_p5, c_p6, c_p7, c_p8, c_p9, c_p10, c_p11⟩ := m0.c12
        clear m0 m1 B0
        go_wp2_with fail
        go_roundw
        case rel => exact HS2.out
        case measure => simp [intOf]
    · have ho := HR.out
      obtain ⟨q0, eq0, fq0⟩ : ∃ q, o0 = some q ∧ IsF q x0 x1 := by
          rcases H0.out with ⟨q, h, h2, _⟩ | ⟨_, _, _, h⟩
          · exact ⟨q, h, h2⟩
          · have := G0.out (by omega)
            omega
      obtain ⟨q1, eq1, fq1⟩ : ∃ q, o1 = some q ∧ IsF q x2 x3 := by
          rcases H1.out with ⟨q, h, h2, _⟩ | ⟨_, _, _, h⟩
          · exact ⟨q, h, h2⟩
          · have := G1.out (by omega)
            omega
      obtain ⟨q2, eq2, fq2⟩ : ∃ q, o2 = some q ∧ IsF q x4 x5 := by
          rcases H2.out with ⟨q, h, h2, _⟩ | ⟨_, _, _, h⟩
          · exact ⟨q, h, h2⟩
          · have := G2.out (by omega)
            omega
      obtain ⟨q3, eq3, fq3⟩ : ∃ q, o3 = some q ∧ IsF q x6 x7 := by
          rcases H3.out with ⟨q, h, h2, _⟩ | ⟨_, _, _, h⟩
          · exact ⟨q, h, h2⟩
          · have := G3.out (by omega)
            omega
      rw [eq0, eq1, eq2, eq3] at ho
      obtain ⟨rfl, rfl, rfl, rfl, rfl, rfl, rfl, rfl, rfl⟩ := resL_val ho rfl ⟨fq0, fq1, fq2, fq3⟩
      clear ho HR eq0 eq1 eq2 eq3 fq0 fq1 fq2 fq3
      obtain ⟨c_p0, c_p1, c_p2, c_p3, c_p4, c_p5, c_p6, c_p7, c_p8, c_p9, c_p10, c_p11⟩ := m0.c12
      obtain ⟨c_r0, c_r1, c_r2, c_r3, c_r4, c_r5, c_r6, c_r7, c_r8⟩ := m1.c9
      obtain ⟨f_r0, f_r1, f_r2, f_r3, f_r4, f_r5, f_r6, f_r7, f_r8⟩ := m1.f9
      go_wp2_with fail
      have hRx11 := m1.s9 (.int .i64 r0) (.int .i64 r1) (.int .i64 r2) (.int .i64 r3) (.int .i64 r4) (.int .i64 r5) (.int .i64 r6) (.int .i64 r7) (.int .i64 0)
      obtain ⟨s0, s1, s2, s3, s4, s5, s6, s7, s8⟩ := hRx11.c9
      exact bodyPost_ret (v := .agg #[.int .i64 r0, .int .i64 r1, .int .i64 r2, .int .i64 r3, .int .i64 r4, .int .i64 r5, .int .i64 r6, .int .i64 r7, .int .i64 0]) (by simp [results, Try.results64, go_sem, s0, s1, s2, s3, s4, s5, s6, s7, s8]) rfl ⟨rfl, below_s9 B0 (by omega) _ _ _ _ _ _ _ _ _⟩

set_option maxRecDepth 100000 in
set_option maxHeartbeats 2000000 in
theorem radd4_ {l m : LQ} {a0 a1 a2 a3 a4 a5 a6 a7 b0 b1 b2 b3 b4 b5 b6 b7 r0 r1 r2 r3 r4 r5 r6 r7 e : Int} (hl : IsL l a0 a1 a2 a3 a4 a5 a6 a7) (hm : IsL m b0 b1 b2 b3 b4 b5 b6 b7) (hr : ResL (l.add m) r0 r1 r2 r3 r4 r5 r6 r7 e) : Does 27 #[.agg #[.int .i64 a0, .int .i64 a1, .int .i64 a2, .int .i64 a3, .int .i64 a4, .int .i64 a5, .int .i64 a6, .int .i64 a7], .agg #[.int .i64 b0, .int .i64 b1, .int .i64 b2, .int .i64 b3, .int .i64 b4, .int .i64 b5, .int .i64 b6, .int .i64 b7]] (.agg #[.int .i64 r0, .int .i64 r1, .int .i64 r2, .int .i64 r3, .int .i64 r4, .int .i64 r5, .int .i64 r6, .int .i64 r7, .int .i64 e]) := by
  intro w
  obtain ⟨x0, x1, e0, hx0, hy⟩ := fitO_ways (l.k + m.k)
  have A0 := Lib.hid (fradd hl.k hm.k hx0)
  clear hy
  obtain ⟨x2, x3, e1, hx1, hy⟩ := fitO_ways (l.t + m.t)
  have A1 := Lib.hid (fradd hl.t hm.t hx1)
  clear hy
  obtain ⟨x4, x5, e2, hx2, hy⟩ := fitO_ways (l.v + m.v)
  have A2 := Lib.hid (fradd hl.v hm.v hx2)
  clear hy
  obtain ⟨x6, x7, e3, hx3, hy⟩ := fitO_ways (l.a + m.a)
  have A3 := Lib.hid (fradd hl.a hm.a hx3)
  clear hy
  have HL := Lib.hid (rline_ hx0 hx1 hx2 hx3 (show ResL (lineO _ _ _ _) r0 r1 r2 r3 r4 r5 r6 r7 e by rw [lineO_fit]; exact hr))
  clear hl hm hr hx0 hx1 hx2 hx3
  go_enter Try.func27, Try.ntmps27
  go_upto_region 1 with fail
  have hst := start3 w (#[.int .i64 a0, .int .i64 a1, .int .i64 a2, .int .i64 a3, .int .i64 a4, .int .i64 a5, .int .i64 a6, .int .i64 a7]) (#[.int .i64 b0, .int .i64 b1, .int .i64 b2, .int .i64 b3, .int .i64 b4, .int .i64 b5, .int .i64 b6, .int .i64 b7]) (#[.int .i64 0, .int .i64 0, .int .i64 0, .int .i64 0, .int .i64 0, .int .i64 0, .int .i64 0, .int .i64 0, .int .i64 0]) 25 25 48
  generalize (((w.alloc (.cells #[.int .i64 a0, .int .i64 a1, .int .i64 a2, .int .i64 a3, .int .i64 a4, .int .i64 a5, .int .i64 a6, .int .i64 a7] 25)).alloc (.cells #[.int .i64 b0, .int .i64 b1, .int .i64 b2, .int .i64 b3, .int .i64 b4, .int .i64 b5, .int .i64 b6, .int .i64 b7] 25)).alloc (.cells #[.int .i64 0, .int .i64 0, .int .i64 0, .int .i64 0, .int .i64 0, .int .i64 0, .int .i64 0, .int .i64 0, .int .i64 0] 48)) = Wx5 at *
  obtain ⟨mx1, mx2, mx3, Bx4⟩ := hst
  have ltx6 := mx1.lt
  have ltx7 := mx2.lt
  have ltx8 := mx3.lt
  obtain ⟨c_l0, c_l1, c_l2, c_l3, c_l4, c_l5, c_l6, c_l7⟩ := mx1.l8 (Below.refl _ _)
  obtain ⟨c_m0, c_m1, c_m2, c_m3, c_m4, c_m5, c_m6, c_m7⟩ := mx2.l8 (Below.refl _ _)
  refine wp_region_later_tail 22 (by kernel_rfl) (by kernel_rfl) ?_
  simp only [List.take_succ_cons, List.take_zero, List.drop_succ_cons, List.drop_zero]
  repeat (go_big_quiet_step (((first | (go_at_call 61; first | with_reducible exact later_of ((A0.out.at _)) | with_reducible exact later_of ((A1.out.at _)) | with_reducible exact later_of ((A2.out.at _)) | with_reducible exact later_of ((A3.out.at _))) | (go_at_call 64; with_reducible exact later_of ((HL.out.at _)))))))
  refine wpQuiet_nil ?_
  intro _ hw'
  obtain ⟨zx9, hw''⟩ := hw'
  subst hw''
  clear c_l0 c_l1 c_l2 c_l3 c_l4 c_l5 c_l6 c_l7
  clear c_m0 c_m1 c_m2 c_m3 c_m4 c_m5 c_m6 c_m7
  have hbx10 := zx9.below
  have mx11 := mx1.keep hbx10
  have mx12 := mx2.keep hbx10
  have mx13 := mx3.keep hbx10
  have Bx14 := Bx4.trans (hbx10.mono Bx4.size)
  have szx15 := hbx10.size
  clear mx1 mx2 mx3 Bx4 hbx10
  obtain ⟨c_r0, c_r1, c_r2, c_r3, c_r4, c_r5, c_r6, c_r7, c_r8⟩ := mx13.c9
  obtain ⟨f_r0, f_r1, f_r2, f_r3, f_r4, f_r5, f_r6, f_r7, f_r8⟩ := mx13.f9
  go_wp2_with fail
  have hRx16 := mx13.s9 (.int .i64 r0) (.int .i64 r1) (.int .i64 r2) (.int .i64 r3) (.int .i64 r4) (.int .i64 r5) (.int .i64 r6) (.int .i64 r7) (.int .i64 e)
  obtain ⟨s0, s1, s2, s3, s4, s5, s6, s7, s8⟩ := hRx16.c9
  exact bodyPost_ret (v := .agg #[.int .i64 r0, .int .i64 r1, .int .i64 r2, .int .i64 r3, .int .i64 r4, .int .i64 r5, .int .i64 r6, .int .i64 r7, .int .i64 e]) (by simp [results, Try.results27, go_sem, s0, s1, s2, s3, s4, s5, s6, s7, s8]) rfl ⟨rfl, below_s9 Bx14 (by omega) _ _ _ _ _ _ _ _ _⟩

set_option maxRecDepth 100000 in
set_option maxHeartbeats 2000000 in
theorem rscale_ {l : LQ} {q : Rat} {a0 a1 a2 a3 a4 a5 a6 a7 q0 q1 r0 r1 r2 r3 r4 r5 r6 r7 e : Int} (hl : IsL l a0 a1 a2 a3 a4 a5 a6 a7) (hq : IsF q q0 q1) (hr : ResL (l.scale q) r0 r1 r2 r3 r4 r5 r6 r7 e) : Does 29 #[.agg #[.int .i64 a0, .int .i64 a1, .int .i64 a2, .int .i64 a3, .int .i64 a4, .int .i64 a5, .int .i64 a6, .int .i64 a7], .agg #[.int .i64 q0, .int .i64 q1]] (.agg #[.int .i64 r0, .int .i64 r1, .int .i64 r2, .int .i64 r3, .int .i64 r4, .int .i64 r5, .int .i64 r6, .int .i64 r7, .int .i64 e]) := by
  intro w
  obtain ⟨x0, x1, e0, hx0, hy⟩ := fitO_ways (l.k * q)
  have A0 := Lib.hid (frmul hl.k hq hx0)
  clear hy
  obtain ⟨x2, x3, e1, hx1, hy⟩ := fitO_ways (l.t * q)
  have A1 := Lib.hid (frmul hl.t hq hx1)
  clear hy
  obtain ⟨x4, x5, e2, hx2, hy⟩ := fitO_ways (l.v * q)
  have A2 := Lib.hid (frmul hl.v hq hx2)
  clear hy
  obtain ⟨x6, x7, e3, hx3, hy⟩ := fitO_ways (l.a * q)
  have A3 := Lib.hid (frmul hl.a hq hx3)
  clear hy
  have HL := Lib.hid (rline_ hx0 hx1 hx2 hx3 (show ResL (lineO _ _ _ _) r0 r1 r2 r3 r4 r5 r6 r7 e by rw [lineO_fit]; exact hr))
  clear hl hq hr hx0 hx1 hx2 hx3
  go_enter Try.func29, Try.ntmps29
  go_upto_region 1 with fail
  have hst := start3 w (#[.int .i64 a0, .int .i64 a1, .int .i64 a2, .int .i64 a3, .int .i64 a4, .int .i64 a5, .int .i64 a6, .int .i64 a7]) (#[.int .i64 q0, .int .i64 q1]) (#[.int .i64 0, .int .i64 0, .int .i64 0, .int .i64 0, .int .i64 0, .int .i64 0, .int .i64 0, .int .i64 0, .int .i64 0]) 25 23 48
  generalize (((w.alloc (.cells #[.int .i64 a0, .int .i64 a1, .int .i64 a2, .int .i64 a3, .int .i64 a4, .int .i64 a5, .int .i64 a6, .int .i64 a7] 25)).alloc (.cells #[.int .i64 q0, .int .i64 q1] 23)).alloc (.cells #[.int .i64 0, .int .i64 0, .int .i64 0, .int .i64 0, .int .i64 0, .int .i64 0, .int .i64 0, .int .i64 0, .int .i64 0] 48)) = Wx5 at *
  obtain ⟨mx1, mx2, mx3, Bx4⟩ := hst
  have ltx6 := mx1.lt
  have ltx7 := mx2.lt
  have ltx8 := mx3.lt
  obtain ⟨c_l0, c_l1, c_l2, c_l3, c_l4, c_l5, c_l6, c_l7⟩ := mx1.l8 (Below.refl _ _)
  obtain ⟨c_f0, c_f1⟩ := mx2.l2 (Below.refl _ _)
  refine wp_region_later_tail 18 (by kernel_rfl) (by kernel_rfl) ?_
  simp only [List.take_succ_cons, List.take_zero, List.drop_succ_cons, List.drop_zero]
  repeat (go_big_quiet_step (((first | (go_at_call 60; first | with_reducible exact later_of ((A0.out.at _)) | with_reducible exact later_of ((A1.out.at _)) | with_reducible exact later_of ((A2.out.at _)) | with_reducible exact later_of ((A3.out.at _))) | (go_at_call 64; with_reducible exact later_of ((HL.out.at _)))))))
  refine wpQuiet_nil ?_
  intro _ hw'
  obtain ⟨zx9, hw''⟩ := hw'
  subst hw''
  clear c_l0 c_l1 c_l2 c_l3 c_l4 c_l5 c_l6 c_l7
  clear c_f0 c_f1
  have hbx10 := zx9.below
  have mx11 := mx1.keep hbx10
  have mx12 := mx2.keep hbx10
  have mx13 := mx3.keep hbx10
  have Bx14 := Bx4.trans (hbx10.mono Bx4.size)
  have szx15 := hbx10.size
  clear mx1 mx2 mx3 Bx4 hbx10
  obtain ⟨c_r0, c_r1, c_r2, c_r3, c_r4, c_r5, c_r6, c_r7, c_r8⟩ := mx13.c9
  obtain ⟨f_r0, f_r1, f_r2, f_r3, f_r4, f_r5, f_r6, f_r7, f_r8⟩ := mx13.f9
  go_wp2_with fail
  have hRx16 := mx13.s9 (.int .i64 r0) (.int .i64 r1) (.int .i64 r2) (.int .i64 r3) (.int .i64 r4) (.int .i64 r5) (.int .i64 r6) (.int .i64 r7) (.int .i64 e)
  obtain ⟨s0, s1, s2, s3, s4, s5, s6, s7, s8⟩ := hRx16.c9
  exact bodyPost_ret (v := .agg #[.int .i64 r0, .int .i64 r1, .int .i64 r2, .int .i64 r3, .int .i64 r4, .int .i64 r5, .int .i64 r6, .int .i64 r7, .int .i64 e]) (by simp [results, Try.results29, go_sem, s0, s1, s2, s3, s4, s5, s6, s7, s8]) rfl ⟨rfl, below_s9 Bx14 (by omega) _ _ _ _ _ _ _ _ _⟩

set_option maxRecDepth 100000 in
set_option maxHeartbeats 2000000 in
theorem rzero_  : Does 58 #[] (.agg #[.int .i64 0, .int .i64 1, .int .i64 0, .int .i64 1, .int .i64 0, .int .i64 1, .int .i64 0, .int .i64 1]) := by
  intro w
  go_enter Try.func58, Try.ntmps58
  go_upto_region 1 with fail
  have hst := start1 w (#[.int .i64 0, .int .i64 0, .int .i64 0, .int .i64 0, .int .i64 0, .int .i64 0, .int .i64 0, .int .i64 0]) 25
  generalize (w.alloc (.cells #[.int .i64 0, .int .i64 0, .int .i64 0, .int .i64 0, .int .i64 0, .int .i64 0, .int .i64 0, .int .i64 0] 25)) = Wx3 at *
  obtain ⟨mx1, Bx2⟩ := hst
  have ltx4 := mx1.lt
  go_upto_region 2 with fail
  have mx5 := BoxL.new Wx3 #[.int .i64 0, .int .i64 1] 23
  have hbx6 := (Below.refl Wx3.heap.size Wx3).alloc (Nat.le_refl _) (.cells #[.int .i64 0, .int .i64 1] 23)
  have ltx8 := mx1.lt
  have mx9 := mx1.keep hbx6
  have Bx10 := Bx2.trans (hbx6.mono Bx2.size)
  have szx11 := hbx6.size
  clear mx1 Bx2 hbx6
  generalize Wx3.alloc (.cells #[.int .i64 0, .int .i64 1] 23) = Wx7 at *
  have ltx12 := mx5.lt
  obtain ⟨c_z0, c_z1⟩ := mx5.c2
  obtain ⟨c_r0, c_r1, c_r2, c_r3, c_r4, c_r5, c_r6, c_r7⟩ := mx9.c8
  obtain ⟨f_r0, f_r1, f_r2, f_r3, f_r4, f_r5, f_r6, f_r7⟩ := mx9.f8
  go_wp2_with fail
  have hRx13 := mx9.s8 (.int .i64 0) (.int .i64 1) (.int .i64 0) (.int .i64 1) (.int .i64 0) (.int .i64 1) (.int .i64 0) (.int .i64 1)
  obtain ⟨s0, s1, s2, s3, s4, s5, s6, s7⟩ := hRx13.c8
  exact bodyPost_ret (v := .agg #[.int .i64 0, .int .i64 1, .int .i64 0, .int .i64 1, .int .i64 0, .int .i64 1, .int .i64 0, .int .i64 1]) (by simp [results, Try.results58, go_sem, s0, s1, s2, s3, s4, s5, s6, s7]) rfl ⟨rfl, below_s8 Bx10 (by omega) _ _ _ _ _ _ _ _⟩

/-- What holds at the head of the loop of SumIn. -/
def RSumAt (w : World) (b B : Nat) (v00 v01 v02 v03 v04 v05 v06 v07 v10 v11 v12 v13 v14 v15 v16 v17 v20 v21 v22 v23 v24 v25 v26 v27 : Int) (ms : List LQ) (o : Option LQ) (i : Value) (wr : World) : Prop :=
  ∃ (k : Nat) (s : LQ) (a0 a1 a2 a3 a4 a5 a6 a7 : Int), i = .int .i64 k ∧ k ≤ 3 ∧ IsL s a0 a1 a2 a3 a4 a5 a6 a7 ∧ sumO s (ms.drop k) = o ∧ BoxL wr w.heap.size #[.int .i64 0, .int .i64 0, .int .i64 0, .int .i64 0, .int .i64 0, .int .i64 0, .int .i64 0, .int .i64 0, .int .i64 0] ∧ BoxL wr b #[.int .i64 v00, .int .i64 v01, .int .i64 v02, .int .i64 v03, .int .i64 v04, .int .i64 v05, .int .i64 v06, .int .i64 v07, .int .i64 v10, .int .i64 v11, .int .i64 v12, .int .i64 v13, .int .i64 v14, .int .i64 v15, .int .i64 v16, .int .i64 v17, .int .i64 v20, .int .i64 v21, .int .i64 v22, .int .i64 v23, .int .i64 v24, .int .i64 v25, .int .i64 v26, .int .i64 v27] ∧ BoxL wr B #[.int .i64 a0, .int .i64 a1, .int .i64 a2, .int .i64 a3, .int .i64 a4, .int .i64 a5, .int .i64 a6, .int .i64 a7, .int .i64 0] ∧ Below w.heap.size w wr ∧ w.heap.size < B ∧ b < w.heap.size

set_option maxRecDepth 100000 in
set_option maxHeartbeats 2000000 in
theorem rsum3_ {w : World} {b : Nat} {lq0 lq1 lq2 : LQ} {v00 v01 v02 v03 v04 v05 v06 v07 v10 v11 v12 v13 v14 v15 v16 v17 v20 v21 v22 v23 v24 v25 v26 v27 r0 r1 r2 r3 r4 r5 r6 r7 e : Int} (hB : BoxL w b #[.int .i64 v00, .int .i64 v01, .int .i64 v02, .int .i64 v03, .int .i64 v04, .int .i64 v05, .int .i64 v06, .int .i64 v07, .int .i64 v10, .int .i64 v11, .int .i64 v12, .int .i64 v13, .int .i64 v14, .int .i64 v15, .int .i64 v16, .int .i64 v17, .int .i64 v20, .int .i64 v21, .int .i64 v22, .int .i64 v23, .int .i64 v24, .int .i64 v25, .int .i64 v26, .int .i64 v27]) (h0 : IsL lq0 v00 v01 v02 v03 v04 v05 v06 v07) (h1 : IsL lq1 v10 v11 v12 v13 v14 v15 v16 v17) (h2 : IsL lq2 v20 v21 v22 v23 v24 v25 v26 v27) (hr : ResL (sumO zeroQ [lq0, lq1, lq2]) r0 r1 r2 r3 r4 r5 r6 r7 e) : DoesIn w 21 #[.slice (some ⟨b, 0, none⟩) 3 3] (.agg #[.int .i64 r0, .int .i64 r1, .int .i64 r2, .int .i64 r3, .int .i64 r4, .int .i64 r5, .int .i64 r6, .int .i64 r7, .int .i64 e]) := by
  obtain ⟨o, ho⟩ : ∃ o, sumO zeroQ [lq0, lq1, lq2] = o := ⟨_, rfl⟩
  rw [ho] at hr
  have HR := Lib.hid hr
  have HO := Lib.hid ho
  have HU := Lib.hid rzero_
  have H0 := Lib.hid h0
  have H1 := Lib.hid h1
  have H2 := Lib.hid h2
  clear hr ho h0 h1 h2
  intro W0 HB0
  have mb0 := hB.keep HB0
  clear hB HB0
  have hbl := mb0.lt
  go_enter Try.func21, Try.ntmps21
  go_upto_region 1 with fail
  have hst := start1 W0 (#[.int .i64 0, .int .i64 0, .int .i64 0, .int .i64 0, .int .i64 0, .int .i64 0, .int .i64 0, .int .i64 0, .int .i64 0]) 48
  generalize (W0.alloc (.cells #[.int .i64 0, .int .i64 0, .int .i64 0, .int .i64 0, .int .i64 0, .int .i64 0, .int .i64 0, .int .i64 0, .int .i64 0] 48)) = Wx3 at *
  obtain ⟨mx1, Bx2⟩ := hst
  have ltx4 := mx1.lt
  have mb := mb0.keep Bx2
  clear mb0
  go_wp2_with fail
  refine (HU.out.at _).mono ?_
  rintro o Wx5 ⟨rfl, hbx6⟩
  have mx7 := mx1.keep hbx6
  have mx8 := mb.keep hbx6
  have Bx9 := Bx2.trans (hbx6.mono Bx2.size)
  have szx10 := hbx6.size
  clear mx1 mb Bx2 hbx6
  go_upto_region 2 with fail
  have mx11 := BoxL.new Wx5 #[.int .i64 0, .int .i64 1, .int .i64 0, .int .i64 1, .int .i64 0, .int .i64 1, .int .i64 0, .int .i64 1, .int .i64 0] 48
  have hbx12 := (Below.refl Wx5.heap.size Wx5).alloc (Nat.le_refl _) (.cells #[.int .i64 0, .int .i64 1, .int .i64 0, .int .i64 1, .int .i64 0, .int .i64 1, .int .i64 0, .int .i64 1, .int .i64 0] 48)
  have ltx14 := mx7.lt
  have ltx15 := mx8.lt
  have mx16 := mx7.keep hbx12
  have mx17 := mx8.keep hbx12
  have Bx18 := Bx9.trans (hbx12.mono Bx9.size)
  have szx19 := hbx12.size
  clear mx7 mx8 Bx9 hbx12
  generalize Wx5.alloc (.cells #[.int .i64 0, .int .i64 1, .int .i64 0, .int .i64 1, .int .i64 0, .int .i64 1, .int .i64 0, .int .i64 1, .int .i64 0] 48) = Wx13 at *
  have ltx20 := mx11.lt
  go_upto_region 3 with fail
  have HS : Hid (RSumAt W0 b (Wx5.heap.size) v00 v01 v02 v03 v04 v05 v06 v07 v10 v11 v12 v13 v14 v15 v16 v17 v20 v21 v22 v23 v24 v25 v26 v27 [lq0, lq1, lq2] o (.int .i64 0) Wx13) := Lib.hid ⟨0, zeroQ, 0, 1, 0, 1, 0, 1, 0, 1, rfl, by omega, isL_zero, HO.out, mx16, mx17, mx11, Bx18, by omega, hbl⟩
  clear mx16 mx17 mx11 Bx18 HO HU
  go_loopw [4] (fun i wr => RSumAt W0 b (Wx5.heap.size) v00 v01 v02 v03 v04 v05 v06 v07 v10 v11 v12 v13 v14 v15 v16 v17 v20 v21 v22 v23 v24 v25 v26 v27 [lq0, lq1, lq2] o i wr) (fun i _ => 3 - (intOf i).toNat)
  case atStart => exact HS.out
  case round =>
    obtain ⟨k, q, a0, a1, a2, a3, a4, a5, a6, a7, rfl, hk, hs, ho, m0, m1, m2, B0, hlt, hbl⟩ := hrel
    have HI := Lib.hid hs
    have HE := Lib.hid ho
    clear hs ho HS
    obtain rfl | rfl | rfl | rfl : k = 0 ∨ k = 1 ∨ k = 2 ∨ k = 3 := by omega
    · have HE2 : Hid ((q.add lq0).bind (fun x => sumO x ([lq0, lq1, lq2].drop 1)) = o) := Lib.hid HE.out
      clear HE
      have ltx21 := m0.lt
      have ltx22 := m1.lt
      have ltx23 := m2.lt
      obtain ⟨x0, x1, x2, x3, x4, x5, x6, x7, xe, hx, hy⟩ := resL_ways (q.add lq0) (fun r h => fit4_fit h)
      have HA := Lib.hid (radd4_ HI.out H0.out hx)
      have HC := Lib.hid hy
      clear hx hy
      go_upto_region 5 with fail
      obtain ⟨c_s0, c_s1, c_s2, c_s3, c_s4, c_s5, c_s6, c_s7, c_s8⟩ := m2.l9 (Below.refl _ _)
      obtain ⟨c_b0, c_b1, c_b2, c_b3, c_b4, c_b5, c_b6, c_b7, c_b8, c_b9, c_b10, c_b11, c_b12, c_b13, c_b14, c_b15, c_b16, c_b17, c_b18, c_b19, c_b20, c_b21, c_b22, c_b23⟩ := m1.l24 (Below.refl _ _)
      refine wp_region_later_tail 7 (by kernel_rfl) (by kernel_rfl) ?_
      simp only [List.take_succ_cons, List.take_zero, List.drop_succ_cons, List.drop_zero]
      repeat (go_big_quiet_step (((go_at_call 27; with_reducible exact later_of ((HA.out.at _))))))
      refine wpQuiet_nil ?_
      intro _ hw'
      obtain ⟨zx24, hw''⟩ := hw'
      subst hw''
      clear c_s0 c_s1 c_s2 c_s3 c_s4 c_s5 c_s6 c_s7 c_s8
      clear c_b0 c_b1 c_b2 c_b3 c_b4 c_b5 c_b6 c_b7 c_b8 c_b9 c_b10 c_b11 c_b12 c_b13 c_b14 c_b15 c_b16 c_b17 c_b18 c_b19 c_b20 c_b21 c_b22 c_b23
      have hbx25 := zx24.below
      have mx26 := m0.keep hbx25
      have mx27 := m1.keep hbx25
      have mx28 := m2.keep hbx25
      have Bx29 := B0.trans (hbx25.mono B0.size)
      have szx30 := hbx25.size
      clear m0 m1 m2 B0 hbx25
      have ltx31 := mx26.lt
      have ltx32 := mx27.lt
      have ltx33 := mx28.lt
      obtain ⟨c_s0, c_s1, c_s2, c_s3, c_s4, c_s5, c_s6, c_s7, c_s8⟩ := mx28.c9
      obtain ⟨f_s0, f_s1, f_s2, f_s3, f_s4, f_s5, f_s6, f_s7, f_s8⟩ := mx28.f9
      go_upto_region 6 with fail
      clear c_s0 c_s1 c_s2 c_s3 c_s4 c_s5 c_s6 c_s7 c_s8 f_s0 f_s1 f_s2 f_s3 f_s4 f_s5 f_s6 f_s7 f_s8
      have mx35 := mx28.s9 (.int .i64 x0) (.int .i64 x1) (.int .i64 x2) (.int .i64 x3) (.int .i64 x4) (.int .i64 x5) (.int .i64 x6) (.int .i64 x7) (.int .i64 xe)
      have mx36 := mx26.z9 (b := Wx5.heap.size) (by omega) (.int .i64 x0) (.int .i64 x1) (.int .i64 x2) (.int .i64 x3) (.int .i64 x4) (.int .i64 x5) (.int .i64 x6) (.int .i64 x7) (.int .i64 xe)
      have mx37 := mx27.z9 (b := Wx5.heap.size) (by omega) (.int .i64 x0) (.int .i64 x1) (.int .i64 x2) (.int .i64 x3) (.int .i64 x4) (.int .i64 x5) (.int .i64 x6) (.int .i64 x7) (.int .i64 xe)
      have Bx38 := below_s9 (b := Wx5.heap.size) Bx29 (by omega) (.int .i64 x0) (.int .i64 x1) (.int .i64 x2) (.int .i64 x3) (.int .i64 x4) (.int .i64 x5) (.int .i64 x6) (.int .i64 x7) (.int .i64 xe)
      have ltx39 := mx35.lt
      generalize (((((((((zx24.val.setCell ⟨Wx5.heap.size, 0, none⟩ (.int .i64 x0)).setCell ⟨Wx5.heap.size, 1, none⟩ (.int .i64 x1)).setCell ⟨Wx5.heap.size, 2, none⟩ (.int .i64 x2)).setCell ⟨Wx5.heap.size, 3, none⟩ (.int .i64 x3)).setCell ⟨Wx5.heap.size, 4, none⟩ (.int .i64 x4)).setCell ⟨Wx5.heap.size, 5, none⟩ (.int .i64 x5)).setCell ⟨Wx5.heap.size, 6, none⟩ (.int .i64 x6)).setCell ⟨Wx5.heap.size, 7, none⟩ (.int .i64 x7)).setCell ⟨Wx5.heap.size, 8, none⟩ (.int .i64 xe)) = Wx34 at *
      clear mx28 mx26 mx27 Bx29
      rcases HC.out with ⟨q2, eq, fq, rfl⟩ | ⟨eq, rfl, rfl, rfl, rfl, rfl, rfl, rfl, rfl, rfl⟩
      rotate_left
      · have hz := HE2.out
        rw [eq] at hz
        obtain ⟨rfl, rfl, rfl, rfl, rfl, rfl, rfl, rfl, rfl⟩ := resL_none HR.out (show o = none from hz.symm)
        clear hz eq HC HE2
        obtain ⟨c_s0, c_s1, c_s2, c_s3, c_s4, c_s5, c_s6, c_s7, c_s8⟩ := mx35.c9
        obtain ⟨c_r0, c_r1, c_r2, c_r3, c_r4, c_r5, c_r6, c_r7, c_r8⟩ := mx36.c9
        obtain ⟨f_r0, f_r1, f_r2, f_r3, f_r4, f_r5, f_r6, f_r7, f_r8⟩ := mx36.f9
        go_wp2_with fail
        have hRx40 := mx36.s9 (.int .i64 0) (.int .i64 0) (.int .i64 0) (.int .i64 0) (.int .i64 0) (.int .i64 0) (.int .i64 0) (.int .i64 0) (.int .i64 2)
        obtain ⟨s0, s1, s2, s3, s4, s5, s6, s7, s8⟩ := hRx40.c9
        exact bodyPost_ret (v := .agg #[.int .i64 0, .int .i64 0, .int .i64 0, .int .i64 0, .int .i64 0, .int .i64 0, .int .i64 0, .int .i64 0, .int .i64 2]) (by simp [results, Try.results21, go_sem, s0, s1, s2, s3, s4, s5, s6, s7, s8]) rfl ⟨rfl, below_s9 Bx38 (by omega) _ _ _ _ _ _ _ _ _⟩
      · have hz := HE2.out
        rw [eq] at hz
        have HS2 : Hid (RSumAt W0 b (Wx5.heap.size) v00 v01 v02 v03 v04 v05 v06 v07 v10 v11 v12 v13 v14 v15 v16 v17 v20 v21 v22 v23 v24 v25 v26 v27 [lq0, lq1, lq2] o (.int .i64 1) Wx34) := Lib.hid ⟨1, q2, x0, x1, x2, x3, x4, x5, x6, x7, rfl, by omega, fq, hz, mx36, mx37, mx35, Bx38, hlt, hbl⟩
        obtain ⟨c_s0, c_s1, c_s2, c_s3, c_s4, c_s5, c_s6, c_s7, c_s8⟩ := mx35.c9
        clear hz eq fq HC HE2 HA mx36 mx37 mx35 Bx38
        go_wp2_with fail
        go_roundw
        case rel => exact HS2.out
        case measure => simp [intOf]
    · have HE2 : Hid ((q.add lq1).bind (fun x => sumO x ([lq0, lq1, lq2].drop 2)) = o) := Lib.hid HE.out
      clear HE
      have ltx41 := m0.lt
      have ltx42 := m1.lt
      have ltx43 := m2.lt
      obtain ⟨x0, x1, x2, x3, x4, x5, x6, x7, xe, hx, hy⟩ := resL_ways (q.add lq1) (fun r h => fit4_fit h)
      have HA := Lib.hid (radd4_ HI.out H1.out hx)
      have HC := Lib.hid hy
      clear hx hy
      go_upto_region 5 with fail
      obtain ⟨c_s0, c_s1, c_s2, c_s3, c_s4, c_s5, c_s6, c_s7, c_s8⟩ := m2.l9 (Below.refl _ _)
      obtain ⟨c_b0, c_b1, c_b2, c_b3, c_b4, c_b5, c_b6, c_b7, c_b8, c_b9, c_b10, c_b11, c_b12, c_b13, c_b14, c_b15, c_b16, c_b17, c_b18, c_b19, c_b20, c_b21, c_b22, c_b23⟩ := m1.l24 (Below.refl _ _)
      refine wp_region_later_tail 7 (by kernel_rfl) (by kernel_rfl) ?_
      simp only [List.take_succ_cons, List.take_zero, List.drop_succ_cons, List.drop_zero]
      repeat (go_big_quiet_step (((go_at_call 27; with_reducible exact later_of ((HA.out.at _))))))
      refine wpQuiet_nil ?_
      intro _ hw'
      obtain ⟨zx44, hw''⟩ := hw'
      subst hw''
      clear c_s0 c_s1 c_s2 c_s3 c_s4 c_s5 c_s6 c_s7 c_s8
      clear c_b0 c_b1 c_b2 c_b3 c_b4 c_b5 c_b6 c_b7 c_b8 c_b9 c_b10 c_b11 c_b12 c_b13 c_b14 c_b15 c_b16 c_b17 c_b18 c_b19 c_b20 c_b21 c_b22 c_b23
      have hbx45 := zx44.below
      have mx46 := m0.keep hbx45
      have mx47 := m1.keep hbx45
      have mx48 := m2.keep hbx45
      have Bx49 := B0.trans (hbx45.mono B0.size)
      have szx50 := hbx45.size
      clear m0 m1 m2 B0 hbx45
      have ltx51 := mx46.lt
      have ltx52 := mx47.lt
      have ltx53 := mx48.lt
      obtain ⟨c_s0, c_s1, c_s2, c_s3, c_s4, c_s5, c_s6, c_s7, c_s8⟩ := mx48.c9
      obtain ⟨f_s0, f_s1, f_s2, f_s3, f_s4, f_s5, f_s6, f_s7, f_s8⟩ := mx48.f9
      go_upto_region 6 with fail
      clear c_s0 c_s1 c_s2 c_s3 c_s4 c_s5 c_s6 c_s7 c_s8 f_s0 f_s1 f_s2 f_s3 f_s4 f_s5 f_s6 f_s7 f_s8
      have mx55 := mx48.s9 (.int .i64 x0) (.int .i64 x1) (.int .i64 x2) (.int .i64 x3) (.int .i64 x4) (.int .i64 x5) (.int .i64 x6) (.int .i64 x7) (.int .i64 xe)
      have mx56 := mx46.z9 (b := Wx5.heap.size) (by omega) (.int .i64 x0) (.int .i64 x1) (.int .i64 x2) (.int .i64 x3) (.int .i64 x4) (.int .i64 x5) (.int .i64 x6) (.int .i64 x7) (.int .i64 xe)
      have mx57 := mx47.z9 (b := Wx5.heap.size) (by omega) (.int .i64 x0) (.int .i64 x1) (.int .i64 x2) (.int .i64 x3) (.int .i64 x4) (.int .i64 x5) (.int .i64 x6) (.int .i64 x7) (.int .i64 xe)
      have Bx58 := below_s9 (b := Wx5.heap.size) Bx49 (by omega) (.int .i64 x0) (.int .i64 x1) (.int .i64 x2) (.int .i64 x3) (.int .i64 x4) (.int .i64 x5) (.int .i64 x6) (.int .i64 x7) (.int .i64 xe)
      have ltx59 := mx55.lt
      generalize (((((((((zx44.val.setCell ⟨Wx5.heap.size, 0, none⟩ (.int .i64 x0)).setCell ⟨Wx5.heap.size, 1, none⟩ (.int .i64 x1)).setCell ⟨Wx5.heap.size, 2, none⟩ (.int .i64 x2)).setCell ⟨Wx5.heap.size, 3, none⟩ (.int .i64 x3)).setCell ⟨Wx5.heap.size, 4, none⟩ (.int .i64 x4)).setCell ⟨Wx5.heap.size, 5, none⟩ (.int .i64 x5)).setCell ⟨Wx5.heap.size, 6, none⟩ (.int .i64 x6)).setCell ⟨Wx5.heap.size, 7, none⟩ (.int .i64 x7)).setCell ⟨Wx5.heap.size, 8, none⟩ (.int .i64 xe)) = Wx54 at *
      clear mx48 mx46 mx47 Bx49
      rcases HC.out with ⟨q2, eq, fq, rfl⟩ | ⟨eq, rfl, rfl, rfl, rfl, rfl, rfl, rfl, rfl, rfl⟩
      rotate_left
      · have hz := HE2.out
        rw [eq] at hz
        obtain ⟨rfl, rfl, rfl, rfl, rfl, rfl, rfl, rfl, rfl⟩ := resL_none HR.out (show o = none from hz.symm)
        clear hz eq HC HE2
        obtain ⟨c_s0, c_s1, c_s2, c_s3, c_s4, c_s5, c_s6, c_s7, c_s8⟩ := mx55.c9
        obtain ⟨c_r0, c_r1, c_r2, c_r3, c_r4, c_r5, c_r6, c_r7, c_r8⟩ := mx56.c9
        obtain ⟨f_r0, f_r1, f_r2, f_r3, f_r4, f_r5, f_r6, f_r7, f_r8⟩ := mx56.f9
        go_wp2_with fail
        have hRx60 := mx56.s9 (.int .i64 0) (.int .i64 0) (.int .i64 0) (.int .i64 0) (.int .i64 0) (.int .i64 0) (.int .i64 0) (.int .i64 0) (.int .i64 2)
        obtain ⟨s0, s1, s2, s3, s4, s5, s6, s7, s8⟩ := hRx60.c9
        exact bodyPost_ret (v := .agg #[.int .i64 0, .int .i64 0, .int .i64 0, .int .i64 0, .int .i64 0, .int .i64 0, .int .i64 0, .int .i64 0, .int .i64 2]) (by simp [results, Try.results21, go_sem, s0, s1, s2, s3, s4, s5, s6, s7, s8]) rfl ⟨rfl, below_s9 Bx58 (by omega) _ _ _ _ _ _ _ _ _⟩
      · have hz := HE2.out
        rw [eq] at hz
        have HS2 : Hid (RSumAt W0 b (Wx5.heap.size) v00 v01 v02 v03 v04 v05 v06 v07 v10 v11 v12 v13 v14 v15 v16 v17 v20 v21 v22 v23 v24 v25 v26 v27 [lq0, lq1, lq2] o (.int .i64 2) Wx54) := Lib.hid ⟨2, q2, x0, x1, x2, x3, x4, x5, x6, x7, rfl, by omega, fq, hz, mx56, mx57, mx55, Bx58, hlt, hbl⟩
        obtain ⟨c_s0, c_s1, c_s2, c_s3, c_s4, c_s5, c_s6, c_s7, c_s8⟩ := mx55.c9
        clear hz eq fq HC HE2 HA mx56 mx57 mx55 Bx58
        go_wp2_with fail
        go_roundw
        case rel => exact HS2.out
        case measure => simp [intOf]
    · have HE2 : Hid ((q.add lq2).bind (fun x => sumO x ([lq0, lq1, lq2].drop 3)) = o) := Lib.hid HE.out
      clear HE
      have ltx61 := m0.lt
      have ltx62 := m1.lt
      have ltx63 := m2.lt
      obtain ⟨x0, x1, x2, x3, x4, x5, x6, x7, xe, hx, hy⟩ := resL_ways (q.add lq2) (fun r h => fit4_fit h)
      have HA := Lib.hid (radd4_ HI.out H2.out hx)
      have HC := Lib.hid hy
      clear hx hy
      go_upto_region 5 with fail
      obtain ⟨c_s0, c_s1, c_s2, c_s3, c_s4, c_s5, c_s6, c_s7, c_s8⟩ := m2.l9 (Below.refl _ _)
      obtain ⟨c_b0, c_b1, c_b2, c_b3, c_b4, c_b5, c_b6, c_b7, c_b8, c_b9, c_b10, c_b11, c_b12, c_b13, c_b14, c_b15, c_b16, c_b17, c_b18, c_b19, c_b20, c_b21, c_b22, c_b23⟩ := m1.l24 (Below.refl _ _)
      refine wp_region_later_tail 7 (by kernel_rfl) (by kernel_rfl) ?_
      simp only [List.take_succ_cons, List.take_zero, List.drop_succ_cons, List.drop_zero]
      repeat (go_big_quiet_step (((go_at_call 27; with_reducible exact later_of ((HA.out.at _))))))
      refine wpQuiet_nil ?_
      intro _ hw'
      obtain ⟨zx64, hw''⟩ := hw'
      subst hw''
      clear c_s0 c_s1 c_s2 c_s3 c_s4 c_s5 c_s6 c_s7 c_s8
      clear c_b0 c_b1 c_b2 c_b3 c_b4 c_b5 c_b6 c_b7 c_b8 c_b9 c_b10 c_b11 c_b12 c_b13 c_b14 c_b15 c_b16 c_b17 c_b18 c_b19 c_b20 c_b21 c_b22 c_b23
      have hbx65 := zx64.below
      have mx66 := m0.keep hbx65
      have mx67 := m1.keep hbx65
      have mx68 := m2.keep hbx65
      have Bx69 := B0.trans (hbx65.mono B0.size)
      have szx70 := hbx65.size
      clear m0 m1 m2 B0 hbx65
      have ltx71 := mx66.lt
      have ltx72 := mx67.lt
      have ltx73 := mx68.lt
      obtain ⟨c_s0, c_s1, c_s2, c_s3, c_s4, c_s5, c_s6, c_s7, c_s8⟩ := mx68.c9
      obtain ⟨f_s0, f_s1, f_s2, f_s3, f_s4, f_s5, f_s6, f_s7, f_s8⟩ := mx68.f9
      go_upto_region 6 with fail
      clear c_s0 c_s1 c_s2 c_s3 c_s4 c_s5 c_s6 c_s7 c_s8 f_s0 f_s1 f_s2 f_s3 f_s4 f_s5 f_s6 f_s7 f_s8
      have mx75 := mx68.s9 (.int .i64 x0) (.int .i64 x1) (.int .i64 x2) (.int .i64 x3) (.int .i64 x4) (.int .i64 x5) (.int .i64 x6) (.int .i64 x7) (.int .i64 xe)
      have mx76 := mx66.z9 (b := Wx5.heap.size) (by omega) (.int .i64 x0) (.int .i64 x1) (.int .i64 x2) (.int .i64 x3) (.int .i64 x4) (.int .i64 x5) (.int .i64 x6) (.int .i64 x7) (.int .i64 xe)
      have mx77 := mx67.z9 (b := Wx5.heap.size) (by omega) (.int .i64 x0) (.int .i64 x1) (.int .i64 x2) (.int .i64 x3) (.int .i64 x4) (.int .i64 x5) (.int .i64 x6) (.int .i64 x7) (.int .i64 xe)
      have Bx78 := below_s9 (b := Wx5.heap.size) Bx69 (by omega) (.int .i64 x0) (.int .i64 x1) (.int .i64 x2) (.int .i64 x3) (.int .i64 x4) (.int .i64 x5) (.int .i64 x6) (.int .i64 x7) (.int .i64 xe)
      have ltx79 := mx75.lt
      generalize (((((((((zx64.val.setCell ⟨Wx5.heap.size, 0, none⟩ (.int .i64 x0)).setCell ⟨Wx5.heap.size, 1, none⟩ (.int .i64 x1)).setCell ⟨Wx5.heap.size, 2, none⟩ (.int .i64 x2)).setCell ⟨Wx5.heap.size, 3, none⟩ (.int .i64 x3)).setCell ⟨Wx5.heap.size, 4, none⟩ (.int .i64 x4)).setCell ⟨Wx5.heap.size, 5, none⟩ (.int .i64 x5)).setCell ⟨Wx5.heap.size, 6, none⟩ (.int .i64 x6)).setCell ⟨Wx5.heap.size, 7, none⟩ (.int .i64 x7)).setCell ⟨Wx5.heap.size, 8, none⟩ (.int .i64 xe)) = Wx74 at *
      clear mx68 mx66 mx67 Bx69
      rcases HC.out with ⟨q2, eq, fq, rfl⟩ | ⟨eq, rfl, rfl, rfl, rfl, rfl, rfl, rfl, rfl, rfl⟩
      rotate_left
      · have hz := HE2.out
        rw [eq] at hz
        obtain ⟨rfl, rfl, rfl, rfl, rfl, rfl, rfl, rfl, rfl⟩ := resL_none HR.out (show o = none from hz.symm)
        clear hz eq HC HE2
        obtain ⟨c_s0, c_s1, c_s2, c_s3, c_s4, c_s5, c_s6, c_s7, c_s8⟩ := mx75.c9
        obtain ⟨c_r0, c_r1, c_r2, c_r3, c_r4, c_r5, c_r6, c_r7, c_r8⟩ := mx76.c9
        obtain ⟨f_r0, f_r1, f_r2, f_r3, f_r4, f_r5, f_r6, f_r7, f_r8⟩ := mx76.f9
        go_wp2_with fail
        have hRx80 := mx76.s9 (.int .i64 0) (.int .i64 0) (.int .i64 0) (.int .i64 0) (.int .i64 0) (.int .i64 0) (.int .i64 0) (.int .i64 0) (.int .i64 2)
        obtain ⟨s0, s1, s2, s3, s4, s5, s6, s7, s8⟩ := hRx80.c9
        exact bodyPost_ret (v := .agg #[.int .i64 0, .int .i64 0, .int .i64 0, .int .i64 0, .int .i64 0, .int .i64 0, .int .i64 0, .int .i64 0, .int .i64 2]) (by simp [results, Try.results21, go_sem, s0, s1, s2, s3, s4, s5, s6, s7, s8]) rfl ⟨rfl, below_s9 Bx78 (by omega) _ _ _ _ _ _ _ _ _⟩
      · have hz := HE2.out
        rw [eq] at hz
        have HS2 : Hid (RSumAt W0 b (Wx5.heap.size) v00 v01 v02 v03 v04 v05 v06 v07 v10 v11 v12 v13 v14 v15 v16 v17 v20 v21 v22 v23 v24 v25 v26 v27 [lq0, lq1, lq2] o (.int .i64 3) Wx74) := Lib.hid ⟨3, q2, x0, x1, x2, x3, x4, x5, x6, x7, rfl, by omega, fq, hz, mx76, mx77, mx75, Bx78, hlt, hbl⟩
        obtain ⟨c_s0, c_s1, c_s2, c_s3, c_s4, c_s5, c_s6, c_s7, c_s8⟩ := mx75.c9
        clear hz eq fq HC HE2 HA mx76 mx77 mx75 Bx78
        go_wp2_with fail
        go_roundw
        case rel => exact HS2.out
        case measure => simp [intOf]
    · have hz : o = some q := HE.out.symm
      obtain ⟨rfl, rfl, rfl, rfl, rfl, rfl, rfl, rfl, rfl⟩ := resL_val HR.out hz HI.out
      clear hz HE
      obtain ⟨c_s0, c_s1, c_s2, c_s3, c_s4, c_s5, c_s6, c_s7, c_s8⟩ := m2.c9
      obtain ⟨c_r0, c_r1, c_r2, c_r3, c_r4, c_r5, c_r6, c_r7, c_r8⟩ := m0.c9
      obtain ⟨f_r0, f_r1, f_r2, f_r3, f_r4, f_r5, f_r6, f_r7, f_r8⟩ := m0.f9
      go_wp2_with fail
      have hRx81 := m0.s9 (.int .i64 r0) (.int .i64 r1) (.int .i64 r2) (.int .i64 r3) (.int .i64 r4) (.int .i64 r5) (.int .i64 r6) (.int .i64 r7) (.int .i64 0)
      obtain ⟨s0, s1, s2, s3, s4, s5, s6, s7, s8⟩ := hRx81.c9
      exact bodyPost_ret (v := .agg #[.int .i64 r0, .int .i64 r1, .int .i64 r2, .int .i64 r3, .int .i64 r4, .int .i64 r5, .int .i64 r6, .int .i64 r7, .int .i64 0]) (by simp [results, Try.results21, go_sem, s0, s1, s2, s3, s4, s5, s6, s7, s8]) rfl ⟨rfl, below_s9 B0 (by omega) _ _ _ _ _ _ _ _ _⟩

end Fr
end Go.Proofs.Ytojkaaglmdfcnaa
