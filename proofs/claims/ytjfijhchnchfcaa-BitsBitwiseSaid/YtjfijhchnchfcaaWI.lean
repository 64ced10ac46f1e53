/- BitsBitwise, where the choice is 1. -/
import Derived.Test.YtjfijhchnchfcaaWH
namespace Go.Proofs.Ytjfijhchnchfcaa
open Go.RowKit Sl Fr
namespace Bt
set_option linter.unusedVariables false
set_option linter.unusedSimpArgs false

set_option maxRecDepth 100000 in
set_option maxHeartbeats 4000000 in
theorem bitwise_walk1 (a b k0 k1 : Nat) (w : World) (ha : a < 256) (hb : b < 256) (hk0 : k0 < 256) (hk1 : k1 < 256) (hcq : (k1 : Int) % 2 = 1) :
    Calls Try.prog 8 #[.int .u8 (a : Int), .int .u8 (b : Int), .agg #[.int .u8 (k0 : Int), .int .u8 (k1 : Int)]] w fun e w' => e = .returned (.bool true) ∧ Below w.heap.size w w' := by
  obtain ⟨n, hnq, hn⟩ := width_in k0 8 (by omega)
  rw [show ((8 : Nat) : Int) = 8 from rfl] at hnq
  obtain ⟨x, hxq, hx⟩ := cut_in a n hn.2
  obtain ⟨y, hyq, hy⟩ := cut_in b n hn.2
  obtain ⟨p, hp⟩ : ∃ p, p = spl (x : Int) n := ⟨_, rfl⟩
  obtain ⟨q, hq⟩ : ∃ q, q = spl (y : Int) n := ⟨_, rfl⟩
  have hpl : p.length = n := by rw [hp]; exact spl_length _ _
  have hql : q.length = n := by rw [hq]; exact spl_length _ _
  have hM := fun w => mask_at n hn.2 w
  have HS1 := Lib.hid (fun w => split_ok (x : Int) n (by omega) w)
  have HS2 := Lib.hid (fun w => split_ok (y : Int) n (by omega) w)
  rw [← hp] at HS1
  rw [← hq] at HS2
  have HJ1 : Hid (joi p = x) := Lib.hid (by rw [joi_small (by omega), hp]; exact jo_spl hx)
  have HJ2 : Hid (joi q = y) := Lib.hid (by rw [joi_small (by omega), hq]; exact jo_spl hy)
  have HPL := Lib.hid hpl
  have HQL := Lib.hid hql
  have HN := Lib.hid hn
  have HX := Lib.hid hx
  have HY := Lib.hid hy
  have n8 : n ≤ 8 := hn.2
  have hpn := pow_int (k := n) (by omega)
  clear hp hq hpl hql hn hx hy
  go_enter Try.func8, Try.ntmps8
  go_upto_region 1 with fail
  have hst := start1 w #[.int .u8 (k0 : Int), .int .u8 (k1 : Int)] 53
  generalize w.alloc (.cells #[.int .u8 (k0 : Int), .int .u8 (k1 : Int)] 53) = W0 at *
  obtain ⟨m0, B0⟩ := hst
  go_upto_region 4 with (refine (examples_any.at _).mono ?_; rintro e W1 ⟨rfl, hb1⟩)
  have B1 := B0.trans (hb1.mono B0.size)
  have m1 := m0.keep hb1
  clear hb1 B0 m0
  obtain ⟨r0, r1⟩ := m1.l2 (Below.refl _ _)
  refine wp_region_later (by kernel_rfl) (by kernel_rfl) ?_
  repeat (go_big_quiet_step (fail))
  refine wpQuiet_nil ?_
  intro _ hw'
  obtain ⟨z, hw''⟩ := hw'
  subst hw''
  have B2 := B1.trans (z.below.mono B1.size)
  clear B1 m1 r0 r1
  generalize z.val = W2 at *
  go_wp2_with fail
  refine (hM _).mono ?_
  rintro e w' ⟨rfl, rfl⟩
  go_wp2_with fail
  refine (hM _).mono ?_
  rintro e w' ⟨rfl, rfl⟩
  go_wp2_with fail
  refine (HS1.out _).mono ?_
  rintro e W3 ⟨A1, c1, rfl, hc1, hm1, ar1, nil1, hb3⟩
  have B3 := B2.trans (hb3.mono B2.size)
  have AP3 := GiveB.arr ar1
  clear ar1 hb3 B2 HS1
  go_wp2_with fail
  refine (HS2.out _).mono ?_
  rintro e W4 ⟨A2, c2, rfl, hc2, hm2, ar2, nil2, hb4⟩
  have B4 := B3.trans (hb4.mono B3.size)
  have AQ := GiveB.arr ar2
  have AP := AP3.keep hb4
  clear ar2 hb4 B3 AP3 HS2
  have e1 : ((p.length : Int) != (n : Int)) = false := by simp; exact_mod_cast HPL.out
  have e2 : ((q.length : Int) != (n : Int)) = false := by simp; exact_mod_cast HQL.out
  have hj1 := join_any A1 p c1 W4 AP nil1 hc1 hm1
  have hj2 := join_any A2 q c2 W4 AQ nil2 hc2 hm2
  rw [HJ1.out] at hj1
  rw [HJ2.out] at hj2
  go_wp2_with fail
  refine hj1.mono ?_
  rintro e w' ⟨rfl, rfl⟩
  go_wp2_with fail
  refine hj2.mono ?_
  rintro e w' ⟨rfl, rfl⟩
  clear hj1 hj2 nil1 nil2 hc1 hc2 hm1 hm2
  go_wp2_with fail
  have F5 := five_new W4 W4.heap.size (Nat.le_refl _)
  have BF : Below W4.heap.size W4 (((((W4.alloc (.cells #[] 4)).alloc (.cells #[] 4)).alloc (.cells #[] 4)).alloc (.cells #[] 4)).alloc (.cells #[] 4)) := (((((Below.refl _ W4).alloc (Nat.le_refl _) _).alloc (by simp) _).alloc (by simp; omega) _).alloc (by simp; omega) _).alloc (by simp; omega) _
  generalize (((((W4.alloc (.cells #[] 4)).alloc (.cells #[] 4)).alloc (.cells #[] 4)).alloc (.cells #[] 4)).alloc (.cells #[] 4)) = W5 at *
  go_loopw [14, 15, 16, 17, 18, 19] (fun s0 s1 s2 s3 s4 i wr => ∃ k : Nat, k ≤ n ∧ i = .int .i64 (k : Int) ∧ Five wr W4.heap.size (five5 s0 s1 s2 s3 s4) (five5 ((p.map (fun a => !a)).take k) ((List.zipWith (fun a b => a && b) p q).take k) ((List.zipWith (fun a b => a || b) p q).take k) ((List.zipWith (fun a b => a != b) p q).take k) ((List.zipWith (mx 1) p q).take k)) ∧ Below W4.heap.size W4 wr) (fun _ _ _ _ _ i _ => n - (intOf i).toNat)
  case atStart => exact ⟨0, Nat.zero_le _, rfl, F5, BF⟩
  case round =>
    clear F5 BF
    obtain ⟨k, hk, rfl, FV, BV⟩ := hrel
    by_cases hlt : k < n
    · obtain ⟨bp, hbp⟩ := get_ex (show k < p.length by rw [HPL.out]; exact hlt)
      obtain ⟨bq, hbq⟩ := get_ex (show k < q.length by rw [HQL.out]; exact hlt)
      obtain ⟨b1, o1, hop⟩ := AP.open
      obtain ⟨b2, o2, hoq⟩ := AQ.open
      obtain ⟨rfl, hl1, hcp⟩ := hop (by intro h; subst h; simp at hbp)
      obtain ⟨rfl, hl2, hcq⟩ := hoq (by intro h; subst h; simp at hbq)
      have g1 := hcp k bp hbp
      have g2 := hcq k bq hbq
      clear hop hoq hcp hcq AP AQ
      have hkp : k < p.length := by rw [HPL.out]; exact hlt
      have hkq : k < q.length := by rw [HQL.out]; exact hlt
      have E0 := take_map (f := fun a => !a) hbp
      have hs0 : ((p.map (fun a => !a)).take k).length ≤ 8 := Nat.le_trans (List.length_take_le _ _) (by omega)
      generalize (p.map (fun a => !a)).take k = T0 at *
      have HE0 := Lib.hid E0
      clear E0
      have E1 := take_zip (f := fun a b => a && b) hbp hbq
      have hs1 : ((List.zipWith (fun a b => a && b) p q).take k).length ≤ 8 := Nat.le_trans (List.length_take_le _ _) (by omega)
      generalize (List.zipWith (fun a b => a && b) p q).take k = T1 at *
      have HE1 := Lib.hid E1
      clear E1
      have E2 := take_zip (f := fun a b => a || b) hbp hbq
      have hs2 : ((List.zipWith (fun a b => a || b) p q).take k).length ≤ 8 := Nat.le_trans (List.length_take_le _ _) (by omega)
      generalize (List.zipWith (fun a b => a || b) p q).take k = T2 at *
      have HE2 := Lib.hid E2
      clear E2
      have E3 := take_zip (f := fun a b => a != b) hbp hbq
      have hs3 : ((List.zipWith (fun a b => a != b) p q).take k).length ≤ 8 := Nat.le_trans (List.length_take_le _ _) (by omega)
      generalize (List.zipWith (fun a b => a != b) p q).take k = T3 at *
      have HE3 := Lib.hid E3
      clear E3
      have E4 := take_zip (f := mx 1) hbp hbq
      have hs4 : ((List.zipWith (mx 1) p q).take k).length ≤ 8 := Nat.le_trans (List.length_take_le _ _) (by omega)
      generalize (List.zipWith (mx 1) p q).take k = T4 at *
      have HE4 := Lib.hid E4
      clear E4
      obtain ⟨i0, hi, hz0, hz1, hz2⟩ := parts_of infoBool
      have HBV := Lib.hid BV
      have HFV := Lib.hid FV
      clear BV FV hbp hbq
      cases bp
      · cases bq
        · skip
          go_upto_region 13 with fail
          have d0 := fun pp : Later wr => ((HBV.out.trans (pp.below.mono HBV.out.size)).cell (p := ⟨b1, o1 + k, none⟩) hl1).trans g1
          have d1 := fun pp : Later wr => ((HBV.out.trans (pp.below.mono HBV.out.size)).cell (p := ⟨b2, o2 + k, none⟩) hl2).trans g2
          refine wp_region_plain_tail 6 ?_
          simp only [List.take_succ_cons, List.take_zero, List.drop_succ_cons, List.drop_zero]
          repeat (go_big_quiet_step (fail))
          refine wpQuiet_nil ?_
          intro _ hw'
          obtain ⟨z0, hw''⟩ := hw'
          subst hw''
          have hba0 := z0.below.trans (((Below.refl _ z0.val).alloc (Nat.le_refl _) (.cells #[.bool true] 4)).mono z0.below.size)
          have FA0 := Lib.hid (HFV.out.keep hba0)
          have BA0 := Lib.hid (HBV.out.trans (hba0.mono HBV.out.size))
          clear d0 d1 hba0 HFV HBV
          generalize z0.val = Z0 at *
          go_upto_region 14 with (refine wpList_append_own_at _ rfl _ _ 24 rfl W4.heap.size 4 i0 (.bool false) 1 1 Try.underlying24 hi hz0 hz1 hz2 rfl (by decide) u14 _ _ rfl FA0.out.own0 ⟨Z0.heap.size, 0, none⟩ 1 1 [.bool true] rfl rfl (cell_one_new _ _ _) (by simp [Value.oneCell']) (by unfold maxLen; omega) (by omega) BA0.out.size ?_; intro v0 V0 ho0 hg0 hnil0 hob0)
          have HO0 : OwnB V0 W4.heap.size v0 (T0 ++ [true]) := own_snoc ho0
          have FS0 := Lib.hid (FA0.out.set0 HO0 hg0 hob0)
          have BS0 := Lib.hid (grown_below BA0.out BA0.out.size FA0.out.own0 hg0)
          clear HO0 ho0 hg0 hob0 hnil0 FA0 BA0
          have d0 := fun pp : Later V0 => ((BS0.out.trans (pp.below.mono BS0.out.size)).cell (p := ⟨b1, o1 + k, none⟩) hl1).trans g1
          have d1 := fun pp : Later V0 => ((BS0.out.trans (pp.below.mono BS0.out.size)).cell (p := ⟨b2, o2 + k, none⟩) hl2).trans g2
          refine wp_region_plain_tail 11 ?_
          simp only [List.take_succ_cons, List.take_zero, List.drop_succ_cons, List.drop_zero]
          repeat (go_big_quiet_step (fail))
          refine wpQuiet_nil ?_
          intro _ hw'
          obtain ⟨z1, hw''⟩ := hw'
          subst hw''
          have hba1 := z1.below.trans (((Below.refl _ z1.val).alloc (Nat.le_refl _) (.cells #[.bool false] 4)).mono z1.below.size)
          have FA1 := Lib.hid (FS0.out.keep hba1)
          have BA1 := Lib.hid (BS0.out.trans (hba1.mono BS0.out.size))
          clear d0 d1 hba1 FS0 BS0
          generalize z1.val = Z1 at *
          go_upto_region 15 with (refine wpList_append_own_at _ rfl _ _ 24 rfl W4.heap.size 4 i0 (.bool false) 1 1 Try.underlying24 hi hz0 hz1 hz2 rfl (by decide) u15 _ _ rfl FA1.out.own1 ⟨Z1.heap.size, 0, none⟩ 1 1 [.bool false] rfl rfl (cell_one_new _ _ _) (by simp [Value.oneCell']) (by unfold maxLen; omega) (by omega) BA1.out.size ?_; intro v1 V1 ho1 hg1 hnil1 hob1)
          have HO1 : OwnB V1 W4.heap.size v1 (T1 ++ [false]) := own_snoc ho1
          have FS1 := Lib.hid (FA1.out.set1 HO1 hg1 hob1)
          have BS1 := Lib.hid (grown_below BA1.out BA1.out.size FA1.out.own1 hg1)
          clear HO1 ho1 hg1 hob1 hnil1 FA1 BA1
          have d0 := fun pp : Later V1 => ((BS1.out.trans (pp.below.mono BS1.out.size)).cell (p := ⟨b1, o1 + k, none⟩) hl1).trans g1
          have d1 := fun pp : Later V1 => ((BS1.out.trans (pp.below.mono BS1.out.size)).cell (p := ⟨b2, o2 + k, none⟩) hl2).trans g2
          refine wp_region_plain_tail 11 ?_
          simp only [List.take_succ_cons, List.take_zero, List.drop_succ_cons, List.drop_zero]
          repeat (go_big_quiet_step (fail))
          refine wpQuiet_nil ?_
          intro _ hw'
          obtain ⟨z2, hw''⟩ := hw'
          subst hw''
          have hba2 := z2.below.trans (((Below.refl _ z2.val).alloc (Nat.le_refl _) (.cells #[.bool false] 4)).mono z2.below.size)
          have FA2 := Lib.hid (FS1.out.keep hba2)
          have BA2 := Lib.hid (BS1.out.trans (hba2.mono BS1.out.size))
          clear d0 d1 hba2 FS1 BS1
          generalize z2.val = Z2 at *
          go_upto_region 16 with (refine wpList_append_own_at _ rfl _ _ 24 rfl W4.heap.size 4 i0 (.bool false) 1 1 Try.underlying24 hi hz0 hz1 hz2 rfl (by decide) u16 _ _ rfl FA2.out.own2 ⟨Z2.heap.size, 0, none⟩ 1 1 [.bool false] rfl rfl (cell_one_new _ _ _) (by simp [Value.oneCell']) (by unfold maxLen; omega) (by omega) BA2.out.size ?_; intro v2 V2 ho2 hg2 hnil2 hob2)
          have HO2 : OwnB V2 W4.heap.size v2 (T2 ++ [false]) := own_snoc ho2
          have FS2 := Lib.hid (FA2.out.set2 HO2 hg2 hob2)
          have BS2 := Lib.hid (grown_below BA2.out BA2.out.size FA2.out.own2 hg2)
          clear HO2 ho2 hg2 hob2 hnil2 FA2 BA2
          refine wp_region_free0 (agf := ?fff) 10 (by kernel_rfl) [0] (by kernel_rfl) (fun d _ _ _ _ h => by cases d <;> exact h) ?fff1 ?fff2
          case fff1 =>
            intro W hW
            have d0 := fun pp : Later W => ((BS2.out.trans ((hW.trans (pp.below.mono hW.size)).mono BS2.out.size)).cell (p := ⟨b1, o1 + k, none⟩) hl1).trans g1
            have d1 := fun pp : Later W => ((BS2.out.trans ((hW.trans (pp.below.mono hW.size)).mono BS2.out.size)).cell (p := ⟨b2, o2 + k, none⟩) hl2).trans g2
            simp only [List.take_succ_cons, List.take_zero, ghostL, List.contains_cons, List.contains_nil, Nat.reduceAdd, Nat.reduceBEq, Bool.or_false, Bool.or_true, Bool.true_or, Bool.false_or, Bool.false_eq_true, if_false, if_true, ghostO]
            repeat (go_big_quiet_step (fail))
            refine wpQuiet_nil ?_
            rfl
          case fff2 =>
            intro ZZ hzz
            simp only [List.drop_succ_cons, List.drop_zero, Act.put, List.setIfInBounds_toArray, List.set_cons_succ, List.set_cons_zero]
            obtain ⟨z3, hz3⟩ : ∃ z : Later V2, z.val = ZZ := ⟨⟨ZZ, hzz⟩, rfl⟩
            subst hz3
            clear hzz
            have hba3 := z3.below.trans (((Below.refl _ z3.val).alloc (Nat.le_refl _) (.cells #[.bool false] 4)).mono z3.below.size)
            have FA3 := Lib.hid (FS2.out.keep hba3)
            have BA3 := Lib.hid (BS2.out.trans (hba3.mono BS2.out.size))
            clear hba3 FS2 BS2
            generalize z3.val = Z3 at *
            go_upto_region 17 with (refine wpList_append_own_at _ rfl _ _ 24 rfl W4.heap.size 4 i0 (.bool false) 1 1 Try.underlying24 hi hz0 hz1 hz2 rfl (by decide) u17 _ _ rfl FA3.out.own3 ⟨Z3.heap.size, 0, none⟩ 1 1 [.bool false] rfl rfl (cell_one_new _ _ _) (by simp [Value.oneCell']) (by unfold maxLen; omega) (by omega) BA3.out.size ?_; intro v3 V3 ho3 hg3 hnil3 hob3)
            have HO3 : OwnB V3 W4.heap.size v3 (T3 ++ [false]) := own_snoc ho3
            have FS3 := Lib.hid (FA3.out.set3 HO3 hg3 hob3)
            have BS3 := Lib.hid (grown_below BA3.out BA3.out.size FA3.out.own3 hg3)
            clear HO3 ho3 hg3 hob3 hnil3 FA3 BA3
            have d0 := fun pp : Later V3 => ((BS3.out.trans (pp.below.mono BS3.out.size)).cell (p := ⟨b1, o1 + k, none⟩) hl1).trans g1
            have d1 := fun pp : Later V3 => ((BS3.out.trans (pp.below.mono BS3.out.size)).cell (p := ⟨b2, o2 + k, none⟩) hl2).trans g2
            refine wp_region_plain_tail 19 ?_
            simp only [List.take_succ_cons, List.take_zero, List.drop_succ_cons, List.drop_zero]
            repeat (go_big_quiet_step (fail))
            refine wpQuiet_nil ?_
            intro _ hw'
            obtain ⟨z4, hw''⟩ := hw'
            subst hw''
            have hba4 := z4.below.trans (((Below.refl _ z4.val).alloc (Nat.le_refl _) (.cells #[.bool false] 4)).mono z4.below.size)
            have FA4 := Lib.hid (FS3.out.keep hba4)
            have BA4 := Lib.hid (BS3.out.trans (hba4.mono BS3.out.size))
            clear d0 d1 hba4 FS3 BS3
            generalize z4.val = Z4 at *
            go_upto_region 12 with (refine wpList_append_own_at _ rfl _ _ 24 rfl W4.heap.size 4 i0 (.bool false) 1 1 Try.underlying24 hi hz0 hz1 hz2 rfl (by decide) u18 _ _ rfl FA4.out.own4 ⟨Z4.heap.size, 0, none⟩ 1 1 [.bool false] rfl rfl (cell_one_new _ _ _) (by simp [Value.oneCell']) (by unfold maxLen; omega) (by omega) BA4.out.size ?_; intro v4 V4 ho4 hg4 hnil4 hob4)
            have HO4 : OwnB V4 W4.heap.size v4 (T4 ++ [false]) := own_snoc ho4
            have FS4 := Lib.hid (FA4.out.set4 HO4 hg4 hob4)
            have BS4 := Lib.hid (grown_below BA4.out BA4.out.size FA4.out.own4 hg4)
            clear HO4 ho4 hg4 hob4 hnil4 FA4 BA4
            go_wp2_with fail
            go_roundw
            case rel => exact ⟨k + 1, by omega, by go_num, by rw [HE0.out, HE1.out, HE2.out, HE3.out, HE4.out]; exact FS4.out, BS4.out⟩
            case measure => simp [intOf]; omega
        · skip
          go_upto_region 13 with fail
          have d0 := fun pp : Later wr => ((HBV.out.trans (pp.below.mono HBV.out.size)).cell (p := ⟨b1, o1 + k, none⟩) hl1).trans g1
          have d1 := fun pp : Later wr => ((HBV.out.trans (pp.below.mono HBV.out.size)).cell (p := ⟨b2, o2 + k, none⟩) hl2).trans g2
          refine wp_region_plain_tail 6 ?_
          simp only [List.take_succ_cons, List.take_zero, List.drop_succ_cons, List.drop_zero]
          repeat (go_big_quiet_step (fail))
          refine wpQuiet_nil ?_
          intro _ hw'
          obtain ⟨z0, hw''⟩ := hw'
          subst hw''
          have hba0 := z0.below.trans (((Below.refl _ z0.val).alloc (Nat.le_refl _) (.cells #[.bool true] 4)).mono z0.below.size)
          have FA0 := Lib.hid (HFV.out.keep hba0)
          have BA0 := Lib.hid (HBV.out.trans (hba0.mono HBV.out.size))
          clear d0 d1 hba0 HFV HBV
          generalize z0.val = Z0 at *
          go_upto_region 14 with (refine wpList_append_own_at _ rfl _ _ 24 rfl W4.heap.size 4 i0 (.bool false) 1 1 Try.underlying24 hi hz0 hz1 hz2 rfl (by decide) u14 _ _ rfl FA0.out.own0 ⟨Z0.heap.size, 0, none⟩ 1 1 [.bool true] rfl rfl (cell_one_new _ _ _) (by simp [Value.oneCell']) (by unfold maxLen; omega) (by omega) BA0.out.size ?_; intro v0 V0 ho0 hg0 hnil0 hob0)
          have HO0 : OwnB V0 W4.heap.size v0 (T0 ++ [true]) := own_snoc ho0
          have FS0 := Lib.hid (FA0.out.set0 HO0 hg0 hob0)
          have BS0 := Lib.hid (grown_below BA0.out BA0.out.size FA0.out.own0 hg0)
          clear HO0 ho0 hg0 hob0 hnil0 FA0 BA0
          have d0 := fun pp : Later V0 => ((BS0.out.trans (pp.below.mono BS0.out.size)).cell (p := ⟨b1, o1 + k, none⟩) hl1).trans g1
          have d1 := fun pp : Later V0 => ((BS0.out.trans (pp.below.mono BS0.out.size)).cell (p := ⟨b2, o2 + k, none⟩) hl2).trans g2
          refine wp_region_plain_tail 11 ?_
          simp only [List.take_succ_cons, List.take_zero, List.drop_succ_cons, List.drop_zero]
          repeat (go_big_quiet_step (fail))
          refine wpQuiet_nil ?_
          intro _ hw'
          obtain ⟨z1, hw''⟩ := hw'
          subst hw''
          have hba1 := z1.below.trans (((Below.refl _ z1.val).alloc (Nat.le_refl _) (.cells #[.bool false] 4)).mono z1.below.size)
          have FA1 := Lib.hid (FS0.out.keep hba1)
          have BA1 := Lib.hid (BS0.out.trans (hba1.mono BS0.out.size))
          clear d0 d1 hba1 FS0 BS0
          generalize z1.val = Z1 at *
          go_upto_region 15 with (refine wpList_append_own_at _ rfl _ _ 24 rfl W4.heap.size 4 i0 (.bool false) 1 1 Try.underlying24 hi hz0 hz1 hz2 rfl (by decide) u15 _ _ rfl FA1.out.own1 ⟨Z1.heap.size, 0, none⟩ 1 1 [.bool false] rfl rfl (cell_one_new _ _ _) (by simp [Value.oneCell']) (by unfold maxLen; omega) (by omega) BA1.out.size ?_; intro v1 V1 ho1 hg1 hnil1 hob1)
          have HO1 : OwnB V1 W4.heap.size v1 (T1 ++ [false]) := own_snoc ho1
          have FS1 := Lib.hid (FA1.out.set1 HO1 hg1 hob1)
          have BS1 := Lib.hid (grown_below BA1.out BA1.out.size FA1.out.own1 hg1)
          clear HO1 ho1 hg1 hob1 hnil1 FA1 BA1
          have d0 := fun pp : Later V1 => ((BS1.out.trans (pp.below.mono BS1.out.size)).cell (p := ⟨b1, o1 + k, none⟩) hl1).trans g1
          have d1 := fun pp : Later V1 => ((BS1.out.trans (pp.below.mono BS1.out.size)).cell (p := ⟨b2, o2 + k, none⟩) hl2).trans g2
          refine wp_region_plain_tail 11 ?_
          simp only [List.take_succ_cons, List.take_zero, List.drop_succ_cons, List.drop_zero]
          repeat (go_big_quiet_step (fail))
          refine wpQuiet_nil ?_
          intro _ hw'
          obtain ⟨z2, hw''⟩ := hw'
          subst hw''
          have hba2 := z2.below.trans (((Below.refl _ z2.val).alloc (Nat.le_refl _) (.cells #[.bool true] 4)).mono z2.below.size)
          have FA2 := Lib.hid (FS1.out.keep hba2)
          have BA2 := Lib.hid (BS1.out.trans (hba2.mono BS1.out.size))
          clear d0 d1 hba2 FS1 BS1
          generalize z2.val = Z2 at *
          go_upto_region 16 with (refine wpList_append_own_at _ rfl _ _ 24 rfl W4.heap.size 4 i0 (.bool false) 1 1 Try.underlying24 hi hz0 hz1 hz2 rfl (by decide) u16 _ _ rfl FA2.out.own2 ⟨Z2.heap.size, 0, none⟩ 1 1 [.bool true] rfl rfl (cell_one_new _ _ _) (by simp [Value.oneCell']) (by unfold maxLen; omega) (by omega) BA2.out.size ?_; intro v2 V2 ho2 hg2 hnil2 hob2)
          have HO2 : OwnB V2 W4.heap.size v2 (T2 ++ [true]) := own_snoc ho2
          have FS2 := Lib.hid (FA2.out.set2 HO2 hg2 hob2)
          have BS2 := Lib.hid (grown_below BA2.out BA2.out.size FA2.out.own2 hg2)
          clear HO2 ho2 hg2 hob2 hnil2 FA2 BA2
          refine wp_region_free0 (agf := ?fft) 10 (by kernel_rfl) [0] (by kernel_rfl) (fun d _ _ _ _ h => by cases d <;> exact h) ?fft1 ?fft2
          case fft1 =>
            intro W hW
            have d0 := fun pp : Later W => ((BS2.out.trans ((hW.trans (pp.below.mono hW.size)).mono BS2.out.size)).cell (p := ⟨b1, o1 + k, none⟩) hl1).trans g1
            have d1 := fun pp : Later W => ((BS2.out.trans ((hW.trans (pp.below.mono hW.size)).mono BS2.out.size)).cell (p := ⟨b2, o2 + k, none⟩) hl2).trans g2
            simp only [List.take_succ_cons, List.take_zero, ghostL, List.contains_cons, List.contains_nil, Nat.reduceAdd, Nat.reduceBEq, Bool.or_false, Bool.or_true, Bool.true_or, Bool.false_or, Bool.false_eq_true, if_false, if_true, ghostO]
            repeat (go_big_quiet_step (fail))
            refine wpQuiet_nil ?_
            rfl
          case fft2 =>
            intro ZZ hzz
            simp only [List.drop_succ_cons, List.drop_zero, Act.put, List.setIfInBounds_toArray, List.set_cons_succ, List.set_cons_zero]
            obtain ⟨z3, hz3⟩ : ∃ z : Later V2, z.val = ZZ := ⟨⟨ZZ, hzz⟩, rfl⟩
            subst hz3
            clear hzz
            have hba3 := z3.below.trans (((Below.refl _ z3.val).alloc (Nat.le_refl _) (.cells #[.bool true] 4)).mono z3.below.size)
            have FA3 := Lib.hid (FS2.out.keep hba3)
            have BA3 := Lib.hid (BS2.out.trans (hba3.mono BS2.out.size))
            clear hba3 FS2 BS2
            generalize z3.val = Z3 at *
            go_upto_region 17 with (refine wpList_append_own_at _ rfl _ _ 24 rfl W4.heap.size 4 i0 (.bool false) 1 1 Try.underlying24 hi hz0 hz1 hz2 rfl (by decide) u17 _ _ rfl FA3.out.own3 ⟨Z3.heap.size, 0, none⟩ 1 1 [.bool true] rfl rfl (cell_one_new _ _ _) (by simp [Value.oneCell']) (by unfold maxLen; omega) (by omega) BA3.out.size ?_; intro v3 V3 ho3 hg3 hnil3 hob3)
            have HO3 : OwnB V3 W4.heap.size v3 (T3 ++ [true]) := own_snoc ho3
            have FS3 := Lib.hid (FA3.out.set3 HO3 hg3 hob3)
            have BS3 := Lib.hid (grown_below BA3.out BA3.out.size FA3.out.own3 hg3)
            clear HO3 ho3 hg3 hob3 hnil3 FA3 BA3
            have d0 := fun pp : Later V3 => ((BS3.out.trans (pp.below.mono BS3.out.size)).cell (p := ⟨b1, o1 + k, none⟩) hl1).trans g1
            have d1 := fun pp : Later V3 => ((BS3.out.trans (pp.below.mono BS3.out.size)).cell (p := ⟨b2, o2 + k, none⟩) hl2).trans g2
            refine wp_region_plain_tail 19 ?_
            simp only [List.take_succ_cons, List.take_zero, List.drop_succ_cons, List.drop_zero]
            repeat (go_big_quiet_step (fail))
            refine wpQuiet_nil ?_
            intro _ hw'
            obtain ⟨z4, hw''⟩ := hw'
            subst hw''
            have hba4 := z4.below.trans (((Below.refl _ z4.val).alloc (Nat.le_refl _) (.cells #[.bool false] 4)).mono z4.below.size)
            have FA4 := Lib.hid (FS3.out.keep hba4)
            have BA4 := Lib.hid (BS3.out.trans (hba4.mono BS3.out.size))
            clear d0 d1 hba4 FS3 BS3
            generalize z4.val = Z4 at *
            go_upto_region 12 with (refine wpList_append_own_at _ rfl _ _ 24 rfl W4.heap.size 4 i0 (.bool false) 1 1 Try.underlying24 hi hz0 hz1 hz2 rfl (by decide) u18 _ _ rfl FA4.out.own4 ⟨Z4.heap.size, 0, none⟩ 1 1 [.bool false] rfl rfl (cell_one_new _ _ _) (by simp [Value.oneCell']) (by unfold maxLen; omega) (by omega) BA4.out.size ?_; intro v4 V4 ho4 hg4 hnil4 hob4)
            have HO4 : OwnB V4 W4.heap.size v4 (T4 ++ [false]) := own_snoc ho4
            have FS4 := Lib.hid (FA4.out.set4 HO4 hg4 hob4)
            have BS4 := Lib.hid (grown_below BA4.out BA4.out.size FA4.out.own4 hg4)
            clear HO4 ho4 hg4 hob4 hnil4 FA4 BA4
            go_wp2_with fail
            go_roundw
            case rel => exact ⟨k + 1, by omega, by go_num, by rw [HE0.out, HE1.out, HE2.out, HE3.out, HE4.out]; exact FS4.out, BS4.out⟩
            case measure => simp [intOf]; omega
      · cases bq
        · skip
          go_upto_region 13 with fail
          have d0 := fun pp : Later wr => ((HBV.out.trans (pp.below.mono HBV.out.size)).cell (p := ⟨b1, o1 + k, none⟩) hl1).trans g1
          have d1 := fun pp : Later wr => ((HBV.out.trans (pp.below.mono HBV.out.size)).cell (p := ⟨b2, o2 + k, none⟩) hl2).trans g2
          refine wp_region_plain_tail 6 ?_
          simp only [List.take_succ_cons, List.take_zero, List.drop_succ_cons, List.drop_zero]
          repeat (go_big_quiet_step (fail))
          refine wpQuiet_nil ?_
          intro _ hw'
          obtain ⟨z0, hw''⟩ := hw'
          subst hw''
          have hba0 := z0.below.trans (((Below.refl _ z0.val).alloc (Nat.le_refl _) (.cells #[.bool false] 4)).mono z0.below.size)
          have FA0 := Lib.hid (HFV.out.keep hba0)
          have BA0 := Lib.hid (HBV.out.trans (hba0.mono HBV.out.size))
          clear d0 d1 hba0 HFV HBV
          generalize z0.val = Z0 at *
          go_upto_region 14 with (refine wpList_append_own_at _ rfl _ _ 24 rfl W4.heap.size 4 i0 (.bool false) 1 1 Try.underlying24 hi hz0 hz1 hz2 rfl (by decide) u14 _ _ rfl FA0.out.own0 ⟨Z0.heap.size, 0, none⟩ 1 1 [.bool false] rfl rfl (cell_one_new _ _ _) (by simp [Value.oneCell']) (by unfold maxLen; omega) (by omega) BA0.out.size ?_; intro v0 V0 ho0 hg0 hnil0 hob0)
          have HO0 : OwnB V0 W4.heap.size v0 (T0 ++ [false]) := own_snoc ho0
          have FS0 := Lib.hid (FA0.out.set0 HO0 hg0 hob0)
          have BS0 := Lib.hid (grown_below BA0.out BA0.out.size FA0.out.own0 hg0)
          clear HO0 ho0 hg0 hob0 hnil0 FA0 BA0
          have d0 := fun pp : Later V0 => ((BS0.out.trans (pp.below.mono BS0.out.size)).cell (p := ⟨b1, o1 + k, none⟩) hl1).trans g1
          have d1 := fun pp : Later V0 => ((BS0.out.trans (pp.below.mono BS0.out.size)).cell (p := ⟨b2, o2 + k, none⟩) hl2).trans g2
          refine wp_region_plain_tail 11 ?_
          simp only [List.take_succ_cons, List.take_zero, List.drop_succ_cons, List.drop_zero]
          repeat (go_big_quiet_step (fail))
          refine wpQuiet_nil ?_
          intro _ hw'
          obtain ⟨z1, hw''⟩ := hw'
          subst hw''
          have hba1 := z1.below.trans (((Below.refl _ z1.val).alloc (Nat.le_refl _) (.cells #[.bool false] 4)).mono z1.below.size)
          have FA1 := Lib.hid (FS0.out.keep hba1)
          have BA1 := Lib.hid (BS0.out.trans (hba1.mono BS0.out.size))
          clear d0 d1 hba1 FS0 BS0
          generalize z1.val = Z1 at *
          go_upto_region 15 with (refine wpList_append_own_at _ rfl _ _ 24 rfl W4.heap.size 4 i0 (.bool false) 1 1 Try.underlying24 hi hz0 hz1 hz2 rfl (by decide) u15 _ _ rfl FA1.out.own1 ⟨Z1.heap.size, 0, none⟩ 1 1 [.bool false] rfl rfl (cell_one_new _ _ _) (by simp [Value.oneCell']) (by unfold maxLen; omega) (by omega) BA1.out.size ?_; intro v1 V1 ho1 hg1 hnil1 hob1)
          have HO1 : OwnB V1 W4.heap.size v1 (T1 ++ [false]) := own_snoc ho1
          have FS1 := Lib.hid (FA1.out.set1 HO1 hg1 hob1)
          have BS1 := Lib.hid (grown_below BA1.out BA1.out.size FA1.out.own1 hg1)
          clear HO1 ho1 hg1 hob1 hnil1 FA1 BA1
          have d0 := fun pp : Later V1 => ((BS1.out.trans (pp.below.mono BS1.out.size)).cell (p := ⟨b1, o1 + k, none⟩) hl1).trans g1
          have d1 := fun pp : Later V1 => ((BS1.out.trans (pp.below.mono BS1.out.size)).cell (p := ⟨b2, o2 + k, none⟩) hl2).trans g2
          refine wp_region_plain_tail 11 ?_
          simp only [List.take_succ_cons, List.take_zero, List.drop_succ_cons, List.drop_zero]
          repeat (go_big_quiet_step (fail))
          refine wpQuiet_nil ?_
          intro _ hw'
          obtain ⟨z2, hw''⟩ := hw'
          subst hw''
          have hba2 := z2.below.trans (((Below.refl _ z2.val).alloc (Nat.le_refl _) (.cells #[.bool true] 4)).mono z2.below.size)
          have FA2 := Lib.hid (FS1.out.keep hba2)
          have BA2 := Lib.hid (BS1.out.trans (hba2.mono BS1.out.size))
          clear d0 d1 hba2 FS1 BS1
          generalize z2.val = Z2 at *
          go_upto_region 16 with (refine wpList_append_own_at _ rfl _ _ 24 rfl W4.heap.size 4 i0 (.bool false) 1 1 Try.underlying24 hi hz0 hz1 hz2 rfl (by decide) u16 _ _ rfl FA2.out.own2 ⟨Z2.heap.size, 0, none⟩ 1 1 [.bool true] rfl rfl (cell_one_new _ _ _) (by simp [Value.oneCell']) (by unfold maxLen; omega) (by omega) BA2.out.size ?_; intro v2 V2 ho2 hg2 hnil2 hob2)
          have HO2 : OwnB V2 W4.heap.size v2 (T2 ++ [true]) := own_snoc ho2
          have FS2 := Lib.hid (FA2.out.set2 HO2 hg2 hob2)
          have BS2 := Lib.hid (grown_below BA2.out BA2.out.size FA2.out.own2 hg2)
          clear HO2 ho2 hg2 hob2 hnil2 FA2 BA2
          refine wp_region_free0 (agf := ?ftf) 10 (by kernel_rfl) [0] (by kernel_rfl) (fun d _ _ _ _ h => by cases d <;> exact h) ?ftf1 ?ftf2
          case ftf1 =>
            intro W hW
            have d0 := fun pp : Later W => ((BS2.out.trans ((hW.trans (pp.below.mono hW.size)).mono BS2.out.size)).cell (p := ⟨b1, o1 + k, none⟩) hl1).trans g1
            have d1 := fun pp : Later W => ((BS2.out.trans ((hW.trans (pp.below.mono hW.size)).mono BS2.out.size)).cell (p := ⟨b2, o2 + k, none⟩) hl2).trans g2
            simp only [List.take_succ_cons, List.take_zero, ghostL, List.contains_cons, List.contains_nil, Nat.reduceAdd, Nat.reduceBEq, Bool.or_false, Bool.or_true, Bool.true_or, Bool.false_or, Bool.false_eq_true, if_false, if_true, ghostO]
            repeat (go_big_quiet_step (fail))
            refine wpQuiet_nil ?_
            rfl
          case ftf2 =>
            intro ZZ hzz
            simp only [List.drop_succ_cons, List.drop_zero, Act.put, List.setIfInBounds_toArray, List.set_cons_succ, List.set_cons_zero]
            obtain ⟨z3, hz3⟩ : ∃ z : Later V2, z.val = ZZ := ⟨⟨ZZ, hzz⟩, rfl⟩
            subst hz3
            clear hzz
            have hba3 := z3.below.trans (((Below.refl _ z3.val).alloc (Nat.le_refl _) (.cells #[.bool true] 4)).mono z3.below.size)
            have FA3 := Lib.hid (FS2.out.keep hba3)
            have BA3 := Lib.hid (BS2.out.trans (hba3.mono BS2.out.size))
            clear hba3 FS2 BS2
            generalize z3.val = Z3 at *
            go_upto_region 17 with (refine wpList_append_own_at _ rfl _ _ 24 rfl W4.heap.size 4 i0 (.bool false) 1 1 Try.underlying24 hi hz0 hz1 hz2 rfl (by decide) u17 _ _ rfl FA3.out.own3 ⟨Z3.heap.size, 0, none⟩ 1 1 [.bool true] rfl rfl (cell_one_new _ _ _) (by simp [Value.oneCell']) (by unfold maxLen; omega) (by omega) BA3.out.size ?_; intro v3 V3 ho3 hg3 hnil3 hob3)
            have HO3 : OwnB V3 W4.heap.size v3 (T3 ++ [true]) := own_snoc ho3
            have FS3 := Lib.hid (FA3.out.set3 HO3 hg3 hob3)
            have BS3 := Lib.hid (grown_below BA3.out BA3.out.size FA3.out.own3 hg3)
            clear HO3 ho3 hg3 hob3 hnil3 FA3 BA3
            have d0 := fun pp : Later V3 => ((BS3.out.trans (pp.below.mono BS3.out.size)).cell (p := ⟨b1, o1 + k, none⟩) hl1).trans g1
            have d1 := fun pp : Later V3 => ((BS3.out.trans (pp.below.mono BS3.out.size)).cell (p := ⟨b2, o2 + k, none⟩) hl2).trans g2
            refine wp_region_plain_tail 19 ?_
            simp only [List.take_succ_cons, List.take_zero, List.drop_succ_cons, List.drop_zero]
            repeat (go_big_quiet_step (fail))
            refine wpQuiet_nil ?_
            intro _ hw'
            obtain ⟨z4, hw''⟩ := hw'
            subst hw''
            have hba4 := z4.below.trans (((Below.refl _ z4.val).alloc (Nat.le_refl _) (.cells #[.bool true] 4)).mono z4.below.size)
            have FA4 := Lib.hid (FS3.out.keep hba4)
            have BA4 := Lib.hid (BS3.out.trans (hba4.mono BS3.out.size))
            clear d0 d1 hba4 FS3 BS3
            generalize z4.val = Z4 at *
            go_upto_region 12 with (refine wpList_append_own_at _ rfl _ _ 24 rfl W4.heap.size 4 i0 (.bool false) 1 1 Try.underlying24 hi hz0 hz1 hz2 rfl (by decide) u18 _ _ rfl FA4.out.own4 ⟨Z4.heap.size, 0, none⟩ 1 1 [.bool true] rfl rfl (cell_one_new _ _ _) (by simp [Value.oneCell']) (by unfold maxLen; omega) (by omega) BA4.out.size ?_; intro v4 V4 ho4 hg4 hnil4 hob4)
            have HO4 : OwnB V4 W4.heap.size v4 (T4 ++ [true]) := own_snoc ho4
            have FS4 := Lib.hid (FA4.out.set4 HO4 hg4 hob4)
            have BS4 := Lib.hid (grown_below BA4.out BA4.out.size FA4.out.own4 hg4)
            clear HO4 ho4 hg4 hob4 hnil4 FA4 BA4
            go_wp2_with fail
            go_roundw
            case rel => exact ⟨k + 1, by omega, by go_num, by rw [HE0.out, HE1.out, HE2.out, HE3.out, HE4.out]; exact FS4.out, BS4.out⟩
            case measure => simp [intOf]; omega
        · skip
          go_upto_region 13 with fail
          have d0 := fun pp : Later wr => ((HBV.out.trans (pp.below.mono HBV.out.size)).cell (p := ⟨b1, o1 + k, none⟩) hl1).trans g1
          have d1 := fun pp : Later wr => ((HBV.out.trans (pp.below.mono HBV.out.size)).cell (p := ⟨b2, o2 + k, none⟩) hl2).trans g2
          refine wp_region_plain_tail 6 ?_
          simp only [List.take_succ_cons, List.take_zero, List.drop_succ_cons, List.drop_zero]
          repeat (go_big_quiet_step (fail))
          refine wpQuiet_nil ?_
          intro _ hw'
          obtain ⟨z0, hw''⟩ := hw'
          subst hw''
          have hba0 := z0.below.trans (((Below.refl _ z0.val).alloc (Nat.le_refl _) (.cells #[.bool false] 4)).mono z0.below.size)
          have FA0 := Lib.hid (HFV.out.keep hba0)
          have BA0 := Lib.hid (HBV.out.trans (hba0.mono HBV.out.size))
          clear d0 d1 hba0 HFV HBV
          generalize z0.val = Z0 at *
          go_upto_region 14 with (refine wpList_append_own_at _ rfl _ _ 24 rfl W4.heap.size 4 i0 (.bool false) 1 1 Try.underlying24 hi hz0 hz1 hz2 rfl (by decide) u14 _ _ rfl FA0.out.own0 ⟨Z0.heap.size, 0, none⟩ 1 1 [.bool false] rfl rfl (cell_one_new _ _ _) (by simp [Value.oneCell']) (by unfold maxLen; omega) (by omega) BA0.out.size ?_; intro v0 V0 ho0 hg0 hnil0 hob0)
          have HO0 : OwnB V0 W4.heap.size v0 (T0 ++ [false]) := own_snoc ho0
          have FS0 := Lib.hid (FA0.out.set0 HO0 hg0 hob0)
          have BS0 := Lib.hid (grown_below BA0.out BA0.out.size FA0.out.own0 hg0)
          clear HO0 ho0 hg0 hob0 hnil0 FA0 BA0
          have d0 := fun pp : Later V0 => ((BS0.out.trans (pp.below.mono BS0.out.size)).cell (p := ⟨b1, o1 + k, none⟩) hl1).trans g1
          have d1 := fun pp : Later V0 => ((BS0.out.trans (pp.below.mono BS0.out.size)).cell (p := ⟨b2, o2 + k, none⟩) hl2).trans g2
          refine wp_region_plain_tail 11 ?_
          simp only [List.take_succ_cons, List.take_zero, List.drop_succ_cons, List.drop_zero]
          repeat (go_big_quiet_step (fail))
          refine wpQuiet_nil ?_
          intro _ hw'
          obtain ⟨z1, hw''⟩ := hw'
          subst hw''
          have hba1 := z1.below.trans (((Below.refl _ z1.val).alloc (Nat.le_refl _) (.cells #[.bool true] 4)).mono z1.below.size)
          have FA1 := Lib.hid (FS0.out.keep hba1)
          have BA1 := Lib.hid (BS0.out.trans (hba1.mono BS0.out.size))
          clear d0 d1 hba1 FS0 BS0
          generalize z1.val = Z1 at *
          go_upto_region 15 with (refine wpList_append_own_at _ rfl _ _ 24 rfl W4.heap.size 4 i0 (.bool false) 1 1 Try.underlying24 hi hz0 hz1 hz2 rfl (by decide) u15 _ _ rfl FA1.out.own1 ⟨Z1.heap.size, 0, none⟩ 1 1 [.bool true] rfl rfl (cell_one_new _ _ _) (by simp [Value.oneCell']) (by unfold maxLen; omega) (by omega) BA1.out.size ?_; intro v1 V1 ho1 hg1 hnil1 hob1)
          have HO1 : OwnB V1 W4.heap.size v1 (T1 ++ [true]) := own_snoc ho1
          have FS1 := Lib.hid (FA1.out.set1 HO1 hg1 hob1)
          have BS1 := Lib.hid (grown_below BA1.out BA1.out.size FA1.out.own1 hg1)
          clear HO1 ho1 hg1 hob1 hnil1 FA1 BA1
          have d0 := fun pp : Later V1 => ((BS1.out.trans (pp.below.mono BS1.out.size)).cell (p := ⟨b1, o1 + k, none⟩) hl1).trans g1
          have d1 := fun pp : Later V1 => ((BS1.out.trans (pp.below.mono BS1.out.size)).cell (p := ⟨b2, o2 + k, none⟩) hl2).trans g2
          refine wp_region_plain_tail 11 ?_
          simp only [List.take_succ_cons, List.take_zero, List.drop_succ_cons, List.drop_zero]
          repeat (go_big_quiet_step (fail))
          refine wpQuiet_nil ?_
          intro _ hw'
          obtain ⟨z2, hw''⟩ := hw'
          subst hw''
          have hba2 := z2.below.trans (((Below.refl _ z2.val).alloc (Nat.le_refl _) (.cells #[.bool true] 4)).mono z2.below.size)
          have FA2 := Lib.hid (FS1.out.keep hba2)
          have BA2 := Lib.hid (BS1.out.trans (hba2.mono BS1.out.size))
          clear d0 d1 hba2 FS1 BS1
          generalize z2.val = Z2 at *
          go_upto_region 16 with (refine wpList_append_own_at _ rfl _ _ 24 rfl W4.heap.size 4 i0 (.bool false) 1 1 Try.underlying24 hi hz0 hz1 hz2 rfl (by decide) u16 _ _ rfl FA2.out.own2 ⟨Z2.heap.size, 0, none⟩ 1 1 [.bool true] rfl rfl (cell_one_new _ _ _) (by simp [Value.oneCell']) (by unfold maxLen; omega) (by omega) BA2.out.size ?_; intro v2 V2 ho2 hg2 hnil2 hob2)
          have HO2 : OwnB V2 W4.heap.size v2 (T2 ++ [true]) := own_snoc ho2
          have FS2 := Lib.hid (FA2.out.set2 HO2 hg2 hob2)
          have BS2 := Lib.hid (grown_below BA2.out BA2.out.size FA2.out.own2 hg2)
          clear HO2 ho2 hg2 hob2 hnil2 FA2 BA2
          refine wp_region_free0 (agf := ?ftt) 10 (by kernel_rfl) [0] (by kernel_rfl) (fun d _ _ _ _ h => by cases d <;> exact h) ?ftt1 ?ftt2
          case ftt1 =>
            intro W hW
            have d0 := fun pp : Later W => ((BS2.out.trans ((hW.trans (pp.below.mono hW.size)).mono BS2.out.size)).cell (p := ⟨b1, o1 + k, none⟩) hl1).trans g1
            have d1 := fun pp : Later W => ((BS2.out.trans ((hW.trans (pp.below.mono hW.size)).mono BS2.out.size)).cell (p := ⟨b2, o2 + k, none⟩) hl2).trans g2
            simp only [List.take_succ_cons, List.take_zero, ghostL, List.contains_cons, List.contains_nil, Nat.reduceAdd, Nat.reduceBEq, Bool.or_false, Bool.or_true, Bool.true_or, Bool.false_or, Bool.false_eq_true, if_false, if_true, ghostO]
            repeat (go_big_quiet_step (fail))
            refine wpQuiet_nil ?_
            rfl
          case ftt2 =>
            intro ZZ hzz
            simp only [List.drop_succ_cons, List.drop_zero, Act.put, List.setIfInBounds_toArray, List.set_cons_succ, List.set_cons_zero]
            obtain ⟨z3, hz3⟩ : ∃ z : Later V2, z.val = ZZ := ⟨⟨ZZ, hzz⟩, rfl⟩
            subst hz3
            clear hzz
            have hba3 := z3.below.trans (((Below.refl _ z3.val).alloc (Nat.le_refl _) (.cells #[.bool false] 4)).mono z3.below.size)
            have FA3 := Lib.hid (FS2.out.keep hba3)
            have BA3 := Lib.hid (BS2.out.trans (hba3.mono BS2.out.size))
            clear hba3 FS2 BS2
            generalize z3.val = Z3 at *
            go_upto_region 17 with (refine wpList_append_own_at _ rfl _ _ 24 rfl W4.heap.size 4 i0 (.bool false) 1 1 Try.underlying24 hi hz0 hz1 hz2 rfl (by decide) u17 _ _ rfl FA3.out.own3 ⟨Z3.heap.size, 0, none⟩ 1 1 [.bool false] rfl rfl (cell_one_new _ _ _) (by simp [Value.oneCell']) (by unfold maxLen; omega) (by omega) BA3.out.size ?_; intro v3 V3 ho3 hg3 hnil3 hob3)
            have HO3 : OwnB V3 W4.heap.size v3 (T3 ++ [false]) := own_snoc ho3
            have FS3 := Lib.hid (FA3.out.set3 HO3 hg3 hob3)
            have BS3 := Lib.hid (grown_below BA3.out BA3.out.size FA3.out.own3 hg3)
            clear HO3 ho3 hg3 hob3 hnil3 FA3 BA3
            have d0 := fun pp : Later V3 => ((BS3.out.trans (pp.below.mono BS3.out.size)).cell (p := ⟨b1, o1 + k, none⟩) hl1).trans g1
            have d1 := fun pp : Later V3 => ((BS3.out.trans (pp.below.mono BS3.out.size)).cell (p := ⟨b2, o2 + k, none⟩) hl2).trans g2
            refine wp_region_plain_tail 19 ?_
            simp only [List.take_succ_cons, List.take_zero, List.drop_succ_cons, List.drop_zero]
            repeat (go_big_quiet_step (fail))
            refine wpQuiet_nil ?_
            intro _ hw'
            obtain ⟨z4, hw''⟩ := hw'
            subst hw''
            have hba4 := z4.below.trans (((Below.refl _ z4.val).alloc (Nat.le_refl _) (.cells #[.bool true] 4)).mono z4.below.size)
            have FA4 := Lib.hid (FS3.out.keep hba4)
            have BA4 := Lib.hid (BS3.out.trans (hba4.mono BS3.out.size))
            clear d0 d1 hba4 FS3 BS3
            generalize z4.val = Z4 at *
            go_upto_region 12 with (refine wpList_append_own_at _ rfl _ _ 24 rfl W4.heap.size 4 i0 (.bool false) 1 1 Try.underlying24 hi hz0 hz1 hz2 rfl (by decide) u18 _ _ rfl FA4.out.own4 ⟨Z4.heap.size, 0, none⟩ 1 1 [.bool true] rfl rfl (cell_one_new _ _ _) (by simp [Value.oneCell']) (by unfold maxLen; omega) (by omega) BA4.out.size ?_; intro v4 V4 ho4 hg4 hnil4 hob4)
            have HO4 : OwnB V4 W4.heap.size v4 (T4 ++ [true]) := own_snoc ho4
            have FS4 := Lib.hid (FA4.out.set4 HO4 hg4 hob4)
            have BS4 := Lib.hid (grown_below BA4.out BA4.out.size FA4.out.own4 hg4)
            clear HO4 ho4 hg4 hob4 hnil4 FA4 BA4
            go_wp2_with fail
            go_roundw
            case rel => exact ⟨k + 1, by omega, by go_num, by rw [HE0.out, HE1.out, HE2.out, HE3.out, HE4.out]; exact FS4.out, BS4.out⟩
            case measure => simp [intOf]; omega
    · obtain rfl : k = n := by omega
      have hz : ∀ f : Bool → Bool → Bool, (List.zipWith f p q).length = k := fun f => by rw [List.length_zipWith, HPL.out, HQL.out]; omega
      have hpq : p.length = q.length := by rw [HPL.out, HQL.out]
      have hm0 : (p.map (fun a => !a)).length = k := by rw [List.length_map, HPL.out]
      have jp : jo p = x := by rw [← joi_small (by rw [HPL.out]; omega), HJ1.out]
      have jq : jo q = y := by rw [← joi_small (by rw [HQL.out]; omega), HJ2.out]
      rw [List.take_of_length_le (Nat.le_of_eq hm0), List.take_of_length_le (Nat.le_of_eq (hz _)), List.take_of_length_le (Nat.le_of_eq (hz _)), List.take_of_length_le (Nat.le_of_eq (hz _)), List.take_of_length_le (Nat.le_of_eq (hz _))] at FV
      have R0 : joi (p.map (fun a => !a)) = 2 ^ k - 1 - x := by
        rw [joi_small (by rw [hm0]; omega), jo_not, HPL.out, jp]
      have R1 : joi (List.zipWith (fun a b => a && b) p q) = x &&& y := by
        rw [joi_small (by rw [hz _]; omega), jo_and hpq, jp, jq]
      have R2 : joi (List.zipWith (fun a b => a || b) p q) = x ||| y := by
        rw [joi_small (by rw [hz _]; omega), jo_orr hpq, jp, jq]
      have R3 : joi (List.zipWith (fun a b => a != b) p q) = x ^^^ y := by
        rw [joi_small (by rw [hz _]; omega), jo_xor hpq, jp, jq]
      have R4 : joi (List.zipWith (mx 1) p q) = x := by
        rw [joi_small (by rw [hz _]; omega), jo_mux 1 hpq, jp, jq]; rfl
      have N1 : Hid (∀ W : World, Calls Try.prog 23 #[.int .i64 2, .slice (some ⟨W.heap.size, 0, none⟩) 1 1, .slice (some ⟨W.heap.size + 1, 0, none⟩) 1 1] ((W.alloc (.cells #[.int .i64 (k : Int)] 3)).alloc (.cells #[.int .i64 (x : Int)] 3)) fun e w' => e = .returned (.int .i64 ((2 ^ k - 1 - x : Nat) : Int)) ∧ Below W.heap.size W w') := Lib.hid (fun W => by
        have := app11 2 k x W
        rwa [lv2 HN.out HX.out] at this)
      have S1 := Lib.hid ((two_any 3 k x y).eq (u := .int .i64 ((x &&& y : Nat) : Int)) (by rw [lv3 HN.out HX.out HY.out]))
      have S2 := Lib.hid ((two_any 4 k x y).eq (u := .int .i64 ((x ||| y : Nat) : Int)) (by rw [lv4 HN.out HX.out HY.out]))
      have S3 := Lib.hid ((two_any 5 k x y).eq (u := .int .i64 ((x ^^^ y : Nat) : Int)) (by rw [lv5 HN.out HX.out HY.out]))
      have N2 : Hid (∀ W : World, Calls Try.prog 23 #[.int .i64 10, .slice (some ⟨W.heap.size, 0, none⟩) 3 3, .slice (some ⟨W.heap.size + 1, 0, none⟩) 3 3] ((W.alloc (.cells #[.int .i64 1, .int .i64 (k : Int), .int .i64 (k : Int)] 3)).alloc (.cells #[.int .i64 1, .int .i64 (x : Int), .int .i64 (y : Int)] 3)) fun e w' => e = .returned (.int .i64 ((x : Nat) : Int)) ∧ Below W.heap.size W w') := Lib.hid (fun W => by
        have := app33 10 1 k k 1 x y W
        have hl := lv10 (c := 1) HN.out (by omega) HX.out HY.out
        rw [show (((1 : Nat) : Int)) = 1 from rfl] at hl
        rw [hl] at this
        exact this)
      obtain ⟨D0, d0, hD0, hc0, hm0, ar0, nil0⟩ := own_slice FV.own0
      subst hD0
      have J0 := Lib.hid (fun W (hW : Below wr.heap.size wr W) => join_any D0 (p.map (fun a => !a)) d0 W (ar0.keep hW) nil0 hc0 hm0)
      rw [R0] at J0
      clear ar0 nil0 hc0 hm0 R0
      obtain ⟨D1, d1, hD1, hc1, hm1, ar1, nil1⟩ := own_slice FV.own1
      subst hD1
      have J1 := Lib.hid (fun W (hW : Below wr.heap.size wr W) => join_any D1 (List.zipWith (fun a b => a && b) p q) d1 W (ar1.keep hW) nil1 hc1 hm1)
      rw [R1] at J1
      clear ar1 nil1 hc1 hm1 R1
      obtain ⟨D2, d2, hD2, hc2, hm2, ar2, nil2⟩ := own_slice FV.own2
      subst hD2
      have J2 := Lib.hid (fun W (hW : Below wr.heap.size wr W) => join_any D2 (List.zipWith (fun a b => a || b) p q) d2 W (ar2.keep hW) nil2 hc2 hm2)
      rw [R2] at J2
      clear ar2 nil2 hc2 hm2 R2
      obtain ⟨D3, d3, hD3, hc3, hm3, ar3, nil3⟩ := own_slice FV.own3
      subst hD3
      have J3 := Lib.hid (fun W (hW : Below wr.heap.size wr W) => join_any D3 (List.zipWith (fun a b => a != b) p q) d3 W (ar3.keep hW) nil3 hc3 hm3)
      rw [R3] at J3
      clear ar3 nil3 hc3 hm3 R3
      obtain ⟨D4, d4, hD4, hc4, hm4, ar4, nil4⟩ := own_slice FV.own4
      subst hD4
      have J4 := Lib.hid (fun W (hW : Below wr.heap.size wr W) => join_any D4 (List.zipWith (mx 1) p q) d4 W (ar4.keep hW) nil4 hc4 hm4)
      rw [R4] at J4
      clear ar4 nil4 hc4 hm4 R4
      generalize 2 ^ k - 1 - x = r0 at *
      generalize x &&& y = r1 at *
      generalize x ||| y = r2 at *
      generalize x ^^^ y = r3 at *
      generalize (p.map (fun a => !a)) = M0 at *
      generalize (List.zipWith (fun a b => a && b) p q) = M1 at *
      generalize (List.zipWith (fun a b => a || b) p q) = M2 at *
      generalize (List.zipWith (fun a b => a != b) p q) = M3 at *
      generalize (List.zipWith (mx 1) p q) = M4 at *
      have HB := Lib.hid (B4.trans (BV.mono B4.size))
      have B0 := Below.refl wr.heap.size wr
      clear FV BV hz hpq hm0 jp jq AP AQ HX HY hlt hk
      go_wp2_with fail
      refine (N1.out _).mono ?_
      rintro e X1 ⟨rfl, hb1⟩
      have B1_ := B0.trans (hb1.mono B0.size)
      clear hb1 B0
      go_wp2_with fail
      refine (J0.out _ B1_).mono ?_
      rintro e w' ⟨rfl, rfl⟩
      go_wp2_with fail
      refine (S1.out.at _).mono ?_
      rintro e X2 ⟨rfl, hb2⟩
      have B2_ := B1_.trans (hb2.mono B1_.size)
      clear hb2 B1_
      go_wp2_with fail
      refine (J1.out _ B2_).mono ?_
      rintro e w' ⟨rfl, rfl⟩
      go_wp2_with fail
      refine (S2.out.at _).mono ?_
      rintro e X3 ⟨rfl, hb3⟩
      have B3_ := B2_.trans (hb3.mono B2_.size)
      clear hb3 B2_
      go_wp2_with fail
      refine (J2.out _ B3_).mono ?_
      rintro e w' ⟨rfl, rfl⟩
      go_wp2_with fail
      refine (S3.out.at _).mono ?_
      rintro e X4 ⟨rfl, hb4⟩
      have B4_ := B3_.trans (hb4.mono B3_.size)
      clear hb4 B3_
      go_wp2_with fail
      refine (J3.out _ B4_).mono ?_
      rintro e w' ⟨rfl, rfl⟩
      go_wp2_with fail
      refine (N2.out _).mono ?_
      rintro e X5 ⟨rfl, hb5⟩
      have B5_ := B4_.trans (hb5.mono B4_.size)
      clear hb5 B4_
      go_wp2_with fail
      refine (J4.out _ B5_).mono ?_
      rintro e w' ⟨rfl, rfl⟩
      go_wp2_with fail
      go_ret
      exact ⟨rfl, HB.out.trans (B5_.mono HB.out.size)⟩

theorem bitwise_row (a b k0 k1 : Int) (w : World) (ha : 0 ≤ a ∧ a ≤ 255) (hb : 0 ≤ b ∧ b ≤ 255) (h0 : 0 ≤ k0 ∧ k0 ≤ 255) (h1 : 0 ≤ k1 ∧ k1 ≤ 255) :
    Calls Try.prog 8 #[.int .u8 a, .int .u8 b, .agg #[.int .u8 k0, .int .u8 k1]] w fun e w' => e = .returned (.bool true) ∧ Below w.heap.size w w' := by
  obtain ⟨a, rfl⟩ := Int.eq_ofNat_of_zero_le ha.1
  obtain ⟨b, rfl⟩ := Int.eq_ofNat_of_zero_le hb.1
  obtain ⟨k0, rfl⟩ := Int.eq_ofNat_of_zero_le h0.1
  obtain ⟨k1, rfl⟩ := Int.eq_ofNat_of_zero_le h1.1
  rcases (by omega : (k1 : Int) % 2 = 0 ∨ (k1 : Int) % 2 = 1) with h | h
  · exact bitwise_walk0 a b k0 k1 w (by omega) (by omega) (by omega) (by omega) h
  · exact bitwise_walk1 a b k0 k1 w (by omega) (by omega) (by omega) (by omega) h

end Bt
end Go.Proofs.Ytjfijhchnchfcaa
