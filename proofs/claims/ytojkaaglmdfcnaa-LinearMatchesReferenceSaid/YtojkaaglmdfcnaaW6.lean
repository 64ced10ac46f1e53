/- What quotients of 128 bits by a word return. What narrow returns: the fraction of two integers without a common divisor, or that it is too big. -/
import Derived.Test.YtojkaaglmdfcnaaL0
namespace Go.Proofs.Ytojkaaglmdfcnaa
open Go.RowKit Go.Shelf
namespace Fr
set_option linter.unusedVariables false

/-- The quotient, rounded towards 0. -/
def ov (x d : Int) : Int := x.tdiv d

theorem over_any (x : Int) (d : Int) (w : World) (h : In127 x) (hd0 : 0 < d) (hd1 : d < 18446744073709551616) :
    Calls Try.prog 77 #[.agg #[.int .u64 (hi x), .int .u64 (lo x)], .int .u64 d] w fun e w' => e = .returned (.agg #[.int .u64 (hi (ov x d)), .int .u64 (lo (ov x d))]) ∧ Below w.heap.size w w' := by
  have hi1 := hi_range x.natAbs
  have lo1 := lo_range x.natAbs
  have hb1 : (d == 0) = false := by simp; omega
  have hm0 := Int.emod_nonneg (hi (x.natAbs : Int)) (b := d) (by omega)
  have hm1 := Int.emod_lt_of_pos (hi (x.natAbs : Int)) hd0
  have HL := Lib.hid (lo_div (s := x.natAbs) (d := d) (natAbs_in127 h) (by omega) hd0)
  have HH := Lib.hid (hi_div (s := x.natAbs) (d := d) (natAbs_in127 h) (by omega) hd0)
  have e2 : (hi (x.natAbs : Int)).tmod d = hi (x.natAbs : Int) % d := IntWalk.rem_in _ _ hi1.1
  have e3 : IntKind.u64.wrap ((hi (x.natAbs : Int)).tdiv d) = hi (x.natAbs : Int) / d := IntWalk.u64_quo _ _ (by omega)
  have div := fun (W : World) => div64_any (hi (x.natAbs : Int) % d) (lo (x.natAbs : Int)) d W lo1.1 lo1.2 hm0 hm1 hd1
  rw [HL.out] at div
  have HD := Lib.hid div
  clear div
  have HT : Hid (ov x d = if x < 0 then -((x.natAbs : Int) / d) else (x.natAbs : Int) / d) := Lib.hid (by
    unfold ov
    by_cases h0 : x < 0
    · rw [if_pos h0, show x = -(x.natAbs : Int) by omega, Int.neg_tdiv, Int.tdiv_eq_ediv_of_nonneg (by omega)]
      simp
    · rw [if_neg h0, Int.tdiv_eq_ediv_of_nonneg (by omega), show (x.natAbs : Int) = x by omega])
  go_enter Try.func77, Try.ntmps77
  go_wp2_with fail
  refine (wsize_any x _ h).mono ?_
  rintro e w1 ⟨rfl, hb⟩
  have x0 := ((Box2.new w (.int .u64 (hi x)) (.int .u64 (lo x)) 106).alloc (.cells #[.int .u64 0, .int .u64 0] 106)).keep hb
  have r0 := (Box2.newAt (W := w.alloc (.cells #[.int .u64 (hi x), .int .u64 (lo x)] 106)) (B := w.heap.size + 1) (by simp) (.int .u64 0) (.int .u64 0) 106).keep hb
  have B1 := (((Below.refl _ w).alloc (Nat.le_refl _) (.cells #[.int .u64 (hi x), .int .u64 (lo x)] 106)).alloc (by simp) (.cells #[.int .u64 0, .int .u64 0] 106)).trans (hb.mono (by simp; omega))
  clear hb
  go_wp2_with fail
  have s1 := Box2.new w1 (.int .u64 (hi (x.natAbs : Int))) (.int .u64 (lo (x.natAbs : Int))) 106
  obtain ⟨k0, k1⟩ := s1.later
  have x1 := x0.alloc (.cells #[.int .u64 (hi (x.natAbs : Int)), .int .u64 (lo (x.natAbs : Int))] 106)
  have r1 := r0.alloc (.cells #[.int .u64 (hi (x.natAbs : Int)), .int .u64 (lo (x.natAbs : Int))] 106)
  have B2 := B1.alloc B1.size (.cells #[.int .u64 (hi (x.natAbs : Int)), .int .u64 (lo (x.natAbs : Int))] 106)
  clear x0 r0 s1 B1
  refine wp_region_later (by kernel_rfl) (by kernel_rfl) ?_
  repeat (go_big_quiet_step ((first | (go_at_call 96; exact later_of (HD.out _)))))
  refine wpQuiet_nil ?_
  intro _ hw'
  obtain ⟨q, hw''⟩ := hw'
  subst hw''
  have B3 := B2.trans (q.below.mono B2.size)
  have x2 := (x1.keep q.below).alloc (.cells #[.int .u64 (hi (x.natAbs : Int) / d), .int .u64 (lo ((x.natAbs : Int) / d))] 106)
  have r2 := (r1.keep q.below).alloc (.cells #[.int .u64 (hi (x.natAbs : Int) / d), .int .u64 (lo ((x.natAbs : Int) / d))] 106)
  have q2 := Box2.new q.val (.int .u64 (hi (x.natAbs : Int) / d)) (.int .u64 (lo ((x.natAbs : Int) / d))) 106
  have B4 := B3.alloc B3.size (.cells #[.int .u64 (hi (x.natAbs : Int) / d), .int .u64 (lo ((x.natAbs : Int) / d))] 106)
  have k2 := x2.c0
  have k3 := x2.c1
  clear B2 x1 r1 B3
  go_wp2_with fail
  clear k2 k3 k0 k1
  have hneg := negative_any x (q.val.alloc (.cells #[.int .u64 (hi (x.natAbs : Int) / d), .int .u64 (lo ((x.natAbs : Int) / d))] 106)) h
  by_cases h0 : x < 0
  · rw [decide_eq_true h0] at hneg
    refine hneg.mono ?_
    rintro e w5 ⟨rfl, hb5⟩
    clear hneg
    have r3 := r2.keep hb5
    have q3 := q2.keep hb5
    have B5 := B4.trans (hb5.mono B4.size)
    have c0 := q3.c0
    have c1 := q3.c1
    clear r2 q2 x2 B4 hb5
    go_wp2_with fail
    rw [HH.out]
    refine (negated_any ((x.natAbs : Int) / d) _).mono ?_
    rintro e w6 ⟨rfl, hb6⟩
    have r4 := r3.keep hb6
    have d0 := r4.c0
    have d1 := r4.c1
    have f0 := r4.f0
    have f1 := r4.f1
    have B6 := B5.trans (hb6.mono B5.size)
    clear c0 c1 r3 q3 B5 hb6
    go_wp2
    rw [HT.out, if_pos h0]
    refine bodyPost_ret (v := .agg #[.int .u64 (hi (-((x.natAbs : Int) / d))), .int .u64 (lo (-((x.natAbs : Int) / d)))]) (by simp [results, Try.results77, go_sem, d0, d1]) rfl ⟨rfl, below_set2 B6 (by omega) _ _⟩
  · rw [decide_eq_false h0] at hneg
    refine hneg.mono ?_
    rintro e w5 ⟨rfl, hb5⟩
    clear hneg
    have r3 := r2.keep hb5
    have q3 := q2.keep hb5
    have B5 := B4.trans (hb5.mono B4.size)
    have c0 := q3.c0
    have c1 := q3.c1
    have d0 := r3.c0
    have d1 := r3.c1
    have f0 := r3.f0
    have f1 := r3.f1
    clear r2 q2 x2 B4 hb5
    go_wp2
    rw [HT.out, if_neg (by omega), ← HH.out]
    refine bodyPost_ret (v := .agg #[.int .u64 (hi (x.natAbs : Int) / d), .int .u64 (lo ((x.natAbs : Int) / d))]) (by simp [results, Try.results77, go_sem, d0, d1]) rfl ⟨rfl, below_set2 B5 (by omega) _ _⟩

end Fr
end Go.Proofs.Ytojkaaglmdfcnaa

namespace Go.Proofs.Ytojkaaglmdfcnaa
open Go.RowKit Go.Shelf
namespace Fr
set_option linter.unusedVariables false

theorem low_i64 {N : Int} (h : fitB N = true) : IntKind.i64.wrap (lo N) = N := by
  unfold fitB at h
  rw [decide_eq_true_eq] at h
  rw [IntKind.wrap_i64]
  unfold lo
  omega

theorem fitB_neg (n : Int) : fitB (-n) = fitB n := by unfold fitB; rw [Int.natAbs_neg]
theorem in127_neg {n : Int} (h : In127 n) : In127 (-n) := by unfold In127 at *; omega

/-- Two boxes are filled anew; a third one stays. -/
theorem set_pair {W : World} {a b c : Nat} {u v x y s t : Value} (ha : Box2 W a u v) (hb : Box2 W b x y) (hc : Box2 W c s t) (u' v' x' y' : Value) (h1 : a ≠ b) (h2 : a ≠ c) (h3 : b ≠ c) :
    Box2 ((((W.setCell ⟨a, 0, none⟩ u').setCell ⟨a, 1, none⟩ v').setCell ⟨b, 0, none⟩ x').setCell ⟨b, 1, none⟩ y') a u' v' ∧ Box2 ((((W.setCell ⟨a, 0, none⟩ u').setCell ⟨a, 1, none⟩ v').setCell ⟨b, 0, none⟩ x').setCell ⟨b, 1, none⟩ y') b x' y' ∧
      Box2 ((((W.setCell ⟨a, 0, none⟩ u').setCell ⟨a, 1, none⟩ v').setCell ⟨b, 0, none⟩ x').setCell ⟨b, 1, none⟩ y') c s t :=
  ⟨((ha.set u' v').far (Ne.symm h1) _).far (Ne.symm h1) _, ((hb.far h1 _).far h1 _).set x' y', (((hc.far h2 _).far h2 _).far h3 _).far h3 _⟩

theorem narrow_pos_ok (n d : Int) (w : World) (hn : In127 n) (hd : In127 d) (h0 : 0 < d) (hfn : fitB n = true) (hfd : fitB d = true) :
    Calls Try.prog 79 #[.agg #[.int .u64 (hi n), .int .u64 (lo n)], .agg #[.int .u64 (hi d), .int .u64 (lo d)]] w fun e w' => e = .returned (.tuple #[.agg #[.int .i64 n, .int .i64 d], .int .i64 0]) ∧ Below w.heap.size w w' := by
  have hln : IntKind.i64.wrap (lo n) = n := low_i64 (by exact hfn)
  have hld : IntKind.i64.wrap (lo d) = d := low_i64 (by exact hfd)
  have HFN : Hid (∀ W : World, Calls Try.prog 98 #[.agg #[.int .u64 (hi n), .int .u64 (lo n)]] W fun e w' => e = .returned (.bool true) ∧ Below W.heap.size W w') := Lib.hid (fun W => by
    have := fits_any (n) W hn
    rwa [show fitB (n) = true by assumption] at this)
  have HFD : Hid (∀ W : World, Calls Try.prog 98 #[.agg #[.int .u64 (hi d), .int .u64 (lo d)]] W fun e w' => e = .returned (.bool true) ∧ Below W.heap.size W w') := Lib.hid (fun W => by
    have := fits_any (d) W hd
    rwa [show fitB (d) = true by assumption] at this)
  clear hfn hfd
  go_enter Try.func79, Try.ntmps79
  go_wp2_with fail
  refine (negative_no d _ hd (by omega)).mono ?_
  rintro e w1 ⟨rfl, hb⟩
  have n0 := (((Box2.new w (.int .u64 (hi n)) (.int .u64 (lo n)) 106).alloc (.cells #[.int .u64 (hi d), .int .u64 (lo d)] 106)).alloc (.cells #[.int .i64 0, .int .i64 0] 23)).keep hb
  have d0 := ((Box2.newAt (W := w.alloc (.cells #[.int .u64 (hi n), .int .u64 (lo n)] 106)) (B := w.heap.size + 1) (by simp) (.int .u64 (hi d)) (.int .u64 (lo d)) 106).alloc (.cells #[.int .i64 0, .int .i64 0] 23)).keep hb
  have r0 := (Box2.newAt (W := (w.alloc (.cells #[.int .u64 (hi n), .int .u64 (lo n)] 106)).alloc (.cells #[.int .u64 (hi d), .int .u64 (lo d)] 106)) (B := w.heap.size + 1 + 1) (by simp) (.int .i64 0) (.int .i64 0) 23).keep hb
  have B1 := ((((Below.refl _ w).alloc (Nat.le_refl _) (.cells #[.int .u64 (hi n), .int .u64 (lo n)] 106)).alloc (by simp) (.cells #[.int .u64 (hi d), .int .u64 (lo d)] 106)).alloc (by simp; omega) (.cells #[.int .i64 0, .int .i64 0] 23)).trans (hb.mono (by simp; omega))
  clear hb
  have b0 := n0.c0
  have b1 := n0.c1
  go_wp2_with fail
  refine (HFN.out _).mono ?_
  rintro e w5 ⟨rfl, hb⟩
  clear b0 b1
  have n5 := n0.keep hb
  have d5 := d0.keep hb
  have r5 := r0.keep hb
  have B5 := B1.trans (hb.mono B1.size)
  clear n0 d0 r0 B1 hb
  have b0 := d5.c0
  have b1 := d5.c1
  go_wp2_with fail
  refine (HFD.out _).mono ?_
  rintro e w6 ⟨rfl, hb⟩
  clear b0 b1
  have n6 := n5.keep hb
  have d6 := d5.keep hb
  have r6 := r5.keep hb
  have B6 := B5.trans (hb.mono B5.size)
  clear n5 d5 r5 B5 hb
  have b1 := n6.c1
  have b2 := d6.c1
  have b3 := r6.c0
  have b4 := r6.c1
  have b5 := r6.f0
  have b6 := r6.f1
  go_wp2_with fail
  have rr := r6.set (.int .i64 n) (.int .i64 d)
  have s0 := rr.c0
  have s1 := rr.c1
  refine bodyPost_ret (v := .tuple #[.agg #[.int .i64 n, .int .i64 d], .int .i64 0]) (by simp [results, Try.results79, go_sem, s0, s1]) rfl ⟨rfl, below_set2 B6 (by omega) _ _⟩

theorem narrow_pos_den (n d : Int) (w : World) (hn : In127 n) (hd : In127 d) (h0 : 0 < d) (hfn : fitB n = true) (hfd : fitB d = false) :
    Calls Try.prog 79 #[.agg #[.int .u64 (hi n), .int .u64 (lo n)], .agg #[.int .u64 (hi d), .int .u64 (lo d)]] w fun e w' => e = .returned (.tuple #[.agg #[.int .i64 0, .int .i64 0], .int .i64 2]) ∧ Below w.heap.size w w' := by
  have HFN : Hid (∀ W : World, Calls Try.prog 98 #[.agg #[.int .u64 (hi n), .int .u64 (lo n)]] W fun e w' => e = .returned (.bool true) ∧ Below W.heap.size W w') := Lib.hid (fun W => by
    have := fits_any (n) W hn
    rwa [show fitB (n) = true by assumption] at this)
  have HFD : Hid (∀ W : World, Calls Try.prog 98 #[.agg #[.int .u64 (hi d), .int .u64 (lo d)]] W fun e w' => e = .returned (.bool false) ∧ Below W.heap.size W w') := Lib.hid (fun W => by
    have := fits_any (d) W hd
    rwa [show fitB (d) = false by assumption] at this)
  clear hfn hfd
  go_enter Try.func79, Try.ntmps79
  go_wp2_with fail
  refine (negative_no d _ hd (by omega)).mono ?_
  rintro e w1 ⟨rfl, hb⟩
  have n0 := (((Box2.new w (.int .u64 (hi n)) (.int .u64 (lo n)) 106).alloc (.cells #[.int .u64 (hi d), .int .u64 (lo d)] 106)).alloc (.cells #[.int .i64 0, .int .i64 0] 23)).keep hb
  have d0 := ((Box2.newAt (W := w.alloc (.cells #[.int .u64 (hi n), .int .u64 (lo n)] 106)) (B := w.heap.size + 1) (by simp) (.int .u64 (hi d)) (.int .u64 (lo d)) 106).alloc (.cells #[.int .i64 0, .int .i64 0] 23)).keep hb
  have r0 := (Box2.newAt (W := (w.alloc (.cells #[.int .u64 (hi n), .int .u64 (lo n)] 106)).alloc (.cells #[.int .u64 (hi d), .int .u64 (lo d)] 106)) (B := w.heap.size + 1 + 1) (by simp) (.int .i64 0) (.int .i64 0) 23).keep hb
  have B1 := ((((Below.refl _ w).alloc (Nat.le_refl _) (.cells #[.int .u64 (hi n), .int .u64 (lo n)] 106)).alloc (by simp) (.cells #[.int .u64 (hi d), .int .u64 (lo d)] 106)).alloc (by simp; omega) (.cells #[.int .i64 0, .int .i64 0] 23)).trans (hb.mono (by simp; omega))
  clear hb
  have b0 := n0.c0
  have b1 := n0.c1
  go_wp2_with fail
  refine (HFN.out _).mono ?_
  rintro e w5 ⟨rfl, hb⟩
  clear b0 b1
  have n5 := n0.keep hb
  have d5 := d0.keep hb
  have r5 := r0.keep hb
  have B5 := B1.trans (hb.mono B1.size)
  clear n0 d0 r0 B1 hb
  have b0 := d5.c0
  have b1 := d5.c1
  go_wp2_with fail
  refine (HFD.out _).mono ?_
  rintro e w6 ⟨rfl, hb⟩
  clear b0 b1
  have n6 := n5.keep hb
  have d6 := d5.keep hb
  have r6 := r5.keep hb
  have B6 := B5.trans (hb.mono B5.size)
  clear n5 d5 r5 B5 hb
  have b1 := n6.c1
  have b2 := d6.c1
  have b3 := r6.c0
  have b4 := r6.c1
  have b5 := r6.f0
  have b6 := r6.f1
  go_wp2_with fail
  have rr := r6.set (.int .i64 0) (.int .i64 0)
  have s0 := rr.c0
  have s1 := rr.c1
  refine bodyPost_ret (v := .tuple #[.agg #[.int .i64 0, .int .i64 0], .int .i64 2]) (by simp [results, Try.results79, go_sem, s0, s1]) rfl ⟨rfl, below_set2 B6 (by omega) _ _⟩

theorem narrow_pos_num (n d : Int) (w : World) (hn : In127 n) (hd : In127 d) (h0 : 0 < d) (hfn : fitB n = false) :
    Calls Try.prog 79 #[.agg #[.int .u64 (hi n), .int .u64 (lo n)], .agg #[.int .u64 (hi d), .int .u64 (lo d)]] w fun e w' => e = .returned (.tuple #[.agg #[.int .i64 0, .int .i64 0], .int .i64 2]) ∧ Below w.heap.size w w' := by
  have HFN : Hid (∀ W : World, Calls Try.prog 98 #[.agg #[.int .u64 (hi n), .int .u64 (lo n)]] W fun e w' => e = .returned (.bool false) ∧ Below W.heap.size W w') := Lib.hid (fun W => by
    have := fits_any (n) W hn
    rwa [show fitB (n) = false by assumption] at this)
  clear hfn
  go_enter Try.func79, Try.ntmps79
  go_wp2_with fail
  refine (negative_no d _ hd (by omega)).mono ?_
  rintro e w1 ⟨rfl, hb⟩
  have n0 := (((Box2.new w (.int .u64 (hi n)) (.int .u64 (lo n)) 106).alloc (.cells #[.int .u64 (hi d), .int .u64 (lo d)] 106)).alloc (.cells #[.int .i64 0, .int .i64 0] 23)).keep hb
  have d0 := ((Box2.newAt (W := w.alloc (.cells #[.int .u64 (hi n), .int .u64 (lo n)] 106)) (B := w.heap.size + 1) (by simp) (.int .u64 (hi d)) (.int .u64 (lo d)) 106).alloc (.cells #[.int .i64 0, .int .i64 0] 23)).keep hb
  have r0 := (Box2.newAt (W := (w.alloc (.cells #[.int .u64 (hi n), .int .u64 (lo n)] 106)).alloc (.cells #[.int .u64 (hi d), .int .u64 (lo d)] 106)) (B := w.heap.size + 1 + 1) (by simp) (.int .i64 0) (.int .i64 0) 23).keep hb
  have B1 := ((((Below.refl _ w).alloc (Nat.le_refl _) (.cells #[.int .u64 (hi n), .int .u64 (lo n)] 106)).alloc (by simp) (.cells #[.int .u64 (hi d), .int .u64 (lo d)] 106)).alloc (by simp; omega) (.cells #[.int .i64 0, .int .i64 0] 23)).trans (hb.mono (by simp; omega))
  clear hb
  have b0 := n0.c0
  have b1 := n0.c1
  go_wp2_with fail
  refine (HFN.out _).mono ?_
  rintro e w5 ⟨rfl, hb⟩
  clear b0 b1
  have n5 := n0.keep hb
  have d5 := d0.keep hb
  have r5 := r0.keep hb
  have B5 := B1.trans (hb.mono B1.size)
  clear n0 d0 r0 B1 hb
  have b1 := n5.c1
  have b2 := d5.c1
  have b3 := r5.c0
  have b4 := r5.c1
  have b5 := r5.f0
  have b6 := r5.f1
  go_wp2_with fail
  have rr := r5.set (.int .i64 0) (.int .i64 0)
  have s0 := rr.c0
  have s1 := rr.c1
  refine bodyPost_ret (v := .tuple #[.agg #[.int .i64 0, .int .i64 0], .int .i64 2]) (by simp [results, Try.results79, go_sem, s0, s1]) rfl ⟨rfl, below_set2 B5 (by omega) _ _⟩

theorem narrow_neg_ok (n d : Int) (w : World) (hn : In127 n) (hd : In127 d) (h0 : d < 0) (hfn : fitB n = true) (hfd : fitB d = true) :
    Calls Try.prog 79 #[.agg #[.int .u64 (hi n), .int .u64 (lo n)], .agg #[.int .u64 (hi d), .int .u64 (lo d)]] w fun e w' => e = .returned (.tuple #[.agg #[.int .i64 (-n), .int .i64 (-d)], .int .i64 0]) ∧ Below w.heap.size w w' := by
  have hln : IntKind.i64.wrap (lo (-n)) = (-n) := low_i64 (by rw [fitB_neg]; exact hfn)
  have hld : IntKind.i64.wrap (lo (-d)) = (-d) := low_i64 (by rw [fitB_neg]; exact hfd)
  have HFN : Hid (∀ W : World, Calls Try.prog 98 #[.agg #[.int .u64 (hi (-n)), .int .u64 (lo (-n))]] W fun e w' => e = .returned (.bool true) ∧ Below W.heap.size W w') := Lib.hid (fun W => by
    have := fits_any ((-n)) W (in127_neg hn)
    rwa [show fitB ((-n)) = true by rw [fitB_neg]; assumption] at this)
  have HFD : Hid (∀ W : World, Calls Try.prog 98 #[.agg #[.int .u64 (hi (-d)), .int .u64 (lo (-d))]] W fun e w' => e = .returned (.bool true) ∧ Below W.heap.size W w') := Lib.hid (fun W => by
    have := fits_any ((-d)) W (in127_neg hd)
    rwa [show fitB ((-d)) = true by rw [fitB_neg]; assumption] at this)
  clear hfn hfd
  go_enter Try.func79, Try.ntmps79
  go_wp2_with fail
  refine (negative_yes d _ hd (by omega)).mono ?_
  rintro e w1 ⟨rfl, hb⟩
  have n0 := (((Box2.new w (.int .u64 (hi n)) (.int .u64 (lo n)) 106).alloc (.cells #[.int .u64 (hi d), .int .u64 (lo d)] 106)).alloc (.cells #[.int .i64 0, .int .i64 0] 23)).keep hb
  have d0 := ((Box2.newAt (W := w.alloc (.cells #[.int .u64 (hi n), .int .u64 (lo n)] 106)) (B := w.heap.size + 1) (by simp) (.int .u64 (hi d)) (.int .u64 (lo d)) 106).alloc (.cells #[.int .i64 0, .int .i64 0] 23)).keep hb
  have r0 := (Box2.newAt (W := (w.alloc (.cells #[.int .u64 (hi n), .int .u64 (lo n)] 106)).alloc (.cells #[.int .u64 (hi d), .int .u64 (lo d)] 106)) (B := w.heap.size + 1 + 1) (by simp) (.int .i64 0) (.int .i64 0) 23).keep hb
  have B1 := ((((Below.refl _ w).alloc (Nat.le_refl _) (.cells #[.int .u64 (hi n), .int .u64 (lo n)] 106)).alloc (by simp) (.cells #[.int .u64 (hi d), .int .u64 (lo d)] 106)).alloc (by simp; omega) (.cells #[.int .i64 0, .int .i64 0] 23)).trans (hb.mono (by simp; omega))
  clear hb
  have k0 := n0.later
  have k1 := d0.later
  obtain ⟨k00, k01⟩ := k0
  obtain ⟨k10, k11⟩ := k1
  go_wp2_with fail
  refine wp_region_later_tail 4 (by kernel_rfl) (by kernel_rfl) ?_
  simp only [List.take_succ_cons, List.take_zero, List.drop_succ_cons, List.drop_zero]
  repeat (go_big_quiet_step ((first | (go_at_call 82; exact later_of (negated_any _ _)))))
  refine wpQuiet_nil ?_
  intro _ hw'
  obtain ⟨q, hw''⟩ := hw'
  subst hw''
  have n1 := n0.keep q.below
  have d1 := d0.keep q.below
  have r1 := r0.keep q.below
  have B2 := B1.trans (q.below.mono B1.size)
  clear k00 k01 k10 k11 n0 d0 r0 B1
  generalize q.val = w9 at *
  obtain ⟨n2, d2, r2⟩ := set_pair n1 d1 r1 (.int .u64 (hi (-n))) (.int .u64 (lo (-n))) (.int .u64 (hi (-d))) (.int .u64 (lo (-d))) (by omega) (by omega) (by omega)
  have B3 := below_set2 (below_set2 B2 (b := w.heap.size) (Nat.le_refl _) (.int .u64 (hi (-n))) (.int .u64 (lo (-n)))) (b := w.heap.size + 1) (by omega) (.int .u64 (hi (-d))) (.int .u64 (lo (-d)))
  have a0 := n1.c0
  have a1 := n1.c1
  have a2 := d1.c0
  have a3 := d1.c1
  have a4 := n1.f0
  have a5 := n1.f1
  have a6 := d1.f0
  have a7 := d1.f1
  go_wp2_with fail
  clear a0 a1 a2 a3 a4 a5 a6 a7 n1 d1 r1 B2
  have b0 := n2.c0
  have b1 := n2.c1
  go_wp2_with fail
  refine (HFN.out _).mono ?_
  rintro e w5 ⟨rfl, hb⟩
  clear b0 b1
  have n5 := n2.keep hb
  have d5 := d2.keep hb
  have r5 := r2.keep hb
  have B5 := B3.trans (hb.mono B3.size)
  clear n2 d2 r2 B3 hb
  have b0 := d5.c0
  have b1 := d5.c1
  go_wp2_with fail
  refine (HFD.out _).mono ?_
  rintro e w6 ⟨rfl, hb⟩
  clear b0 b1
  have n6 := n5.keep hb
  have d6 := d5.keep hb
  have r6 := r5.keep hb
  have B6 := B5.trans (hb.mono B5.size)
  clear n5 d5 r5 B5 hb
  have b1 := n6.c1
  have b2 := d6.c1
  have b3 := r6.c0
  have b4 := r6.c1
  have b5 := r6.f0
  have b6 := r6.f1
  go_wp2_with fail
  have rr := r6.set (.int .i64 (-n)) (.int .i64 (-d))
  have s0 := rr.c0
  have s1 := rr.c1
  refine bodyPost_ret (v := .tuple #[.agg #[.int .i64 (-n), .int .i64 (-d)], .int .i64 0]) (by simp [results, Try.results79, go_sem, s0, s1]) rfl ⟨rfl, below_set2 B6 (by omega) _ _⟩

theorem narrow_neg_den (n d : Int) (w : World) (hn : In127 n) (hd : In127 d) (h0 : d < 0) (hfn : fitB n = true) (hfd : fitB d = false) :
    Calls Try.prog 79 #[.agg #[.int .u64 (hi n), .int .u64 (lo n)], .agg #[.int .u64 (hi d), .int .u64 (lo d)]] w fun e w' => e = .returned (.tuple #[.agg #[.int .i64 0, .int .i64 0], .int .i64 2]) ∧ Below w.heap.size w w' := by
  have HFN : Hid (∀ W : World, Calls Try.prog 98 #[.agg #[.int .u64 (hi (-n)), .int .u64 (lo (-n))]] W fun e w' => e = .returned (.bool true) ∧ Below W.heap.size W w') := Lib.hid (fun W => by
    have := fits_any ((-n)) W (in127_neg hn)
    rwa [show fitB ((-n)) = true by rw [fitB_neg]; assumption] at this)
  have HFD : Hid (∀ W : World, Calls Try.prog 98 #[.agg #[.int .u64 (hi (-d)), .int .u64 (lo (-d))]] W fun e w' => e = .returned (.bool false) ∧ Below W.heap.size W w') := Lib.hid (fun W => by
    have := fits_any ((-d)) W (in127_neg hd)
    rwa [show fitB ((-d)) = false by rw [fitB_neg]; assumption] at this)
  clear hfn hfd
  go_enter Try.func79, Try.ntmps79
  go_wp2_with fail
  refine (negative_yes d _ hd (by omega)).mono ?_
  rintro e w1 ⟨rfl, hb⟩
  have n0 := (((Box2.new w (.int .u64 (hi n)) (.int .u64 (lo n)) 106).alloc (.cells #[.int .u64 (hi d), .int .u64 (lo d)] 106)).alloc (.cells #[.int .i64 0, .int .i64 0] 23)).keep hb
  have d0 := ((Box2.newAt (W := w.alloc (.cells #[.int .u64 (hi n), .int .u64 (lo n)] 106)) (B := w.heap.size + 1) (by simp) (.int .u64 (hi d)) (.int .u64 (lo d)) 106).alloc (.cells #[.int .i64 0, .int .i64 0] 23)).keep hb
  have r0 := (Box2.newAt (W := (w.alloc (.cells #[.int .u64 (hi n), .int .u64 (lo n)] 106)).alloc (.cells #[.int .u64 (hi d), .int .u64 (lo d)] 106)) (B := w.heap.size + 1 + 1) (by simp) (.int .i64 0) (.int .i64 0) 23).keep hb
  have B1 := ((((Below.refl _ w).alloc (Nat.le_refl _) (.cells #[.int .u64 (hi n), .int .u64 (lo n)] 106)).alloc (by simp) (.cells #[.int .u64 (hi d), .int .u64 (lo d)] 106)).alloc (by simp; omega) (.cells #[.int .i64 0, .int .i64 0] 23)).trans (hb.mono (by simp; omega))
  clear hb
  have k0 := n0.later
  have k1 := d0.later
  obtain ⟨k00, k01⟩ := k0
  obtain ⟨k10, k11⟩ := k1
  go_wp2_with fail
  refine wp_region_later_tail 4 (by kernel_rfl) (by kernel_rfl) ?_
  simp only [List.take_succ_cons, List.take_zero, List.drop_succ_cons, List.drop_zero]
  repeat (go_big_quiet_step ((first | (go_at_call 82; exact later_of (negated_any _ _)))))
  refine wpQuiet_nil ?_
  intro _ hw'
  obtain ⟨q, hw''⟩ := hw'
  subst hw''
  have n1 := n0.keep q.below
  have d1 := d0.keep q.below
  have r1 := r0.keep q.below
  have B2 := B1.trans (q.below.mono B1.size)
  clear k00 k01 k10 k11 n0 d0 r0 B1
  generalize q.val = w9 at *
  obtain ⟨n2, d2, r2⟩ := set_pair n1 d1 r1 (.int .u64 (hi (-n))) (.int .u64 (lo (-n))) (.int .u64 (hi (-d))) (.int .u64 (lo (-d))) (by omega) (by omega) (by omega)
  have B3 := below_set2 (below_set2 B2 (b := w.heap.size) (Nat.le_refl _) (.int .u64 (hi (-n))) (.int .u64 (lo (-n)))) (b := w.heap.size + 1) (by omega) (.int .u64 (hi (-d))) (.int .u64 (lo (-d)))
  have a0 := n1.c0
  have a1 := n1.c1
  have a2 := d1.c0
  have a3 := d1.c1
  have a4 := n1.f0
  have a5 := n1.f1
  have a6 := d1.f0
  have a7 := d1.f1
  go_wp2_with fail
  clear a0 a1 a2 a3 a4 a5 a6 a7 n1 d1 r1 B2
  have b0 := n2.c0
  have b1 := n2.c1
  go_wp2_with fail
  refine (HFN.out _).mono ?_
  rintro e w5 ⟨rfl, hb⟩
  clear b0 b1
  have n5 := n2.keep hb
  have d5 := d2.keep hb
  have r5 := r2.keep hb
  have B5 := B3.trans (hb.mono B3.size)
  clear n2 d2 r2 B3 hb
  have b0 := d5.c0
  have b1 := d5.c1
  go_wp2_with fail
  refine (HFD.out _).mono ?_
  rintro e w6 ⟨rfl, hb⟩
  clear b0 b1
  have n6 := n5.keep hb
  have d6 := d5.keep hb
  have r6 := r5.keep hb
  have B6 := B5.trans (hb.mono B5.size)
  clear n5 d5 r5 B5 hb
  have b1 := n6.c1
  have b2 := d6.c1
  have b3 := r6.c0
  have b4 := r6.c1
  have b5 := r6.f0
  have b6 := r6.f1
  go_wp2_with fail
  have rr := r6.set (.int .i64 0) (.int .i64 0)
  have s0 := rr.c0
  have s1 := rr.c1
  refine bodyPost_ret (v := .tuple #[.agg #[.int .i64 0, .int .i64 0], .int .i64 2]) (by simp [results, Try.results79, go_sem, s0, s1]) rfl ⟨rfl, below_set2 B6 (by omega) _ _⟩

theorem narrow_neg_num (n d : Int) (w : World) (hn : In127 n) (hd : In127 d) (h0 : d < 0) (hfn : fitB n = false) :
    Calls Try.prog 79 #[.agg #[.int .u64 (hi n), .int .u64 (lo n)], .agg #[.int .u64 (hi d), .int .u64 (lo d)]] w fun e w' => e = .returned (.tuple #[.agg #[.int .i64 0, .int .i64 0], .int .i64 2]) ∧ Below w.heap.size w w' := by
  have HFN : Hid (∀ W : World, Calls Try.prog 98 #[.agg #[.int .u64 (hi (-n)), .int .u64 (lo (-n))]] W fun e w' => e = .returned (.bool false) ∧ Below W.heap.size W w') := Lib.hid (fun W => by
    have := fits_any ((-n)) W (in127_neg hn)
    rwa [show fitB ((-n)) = false by rw [fitB_neg]; assumption] at this)
  clear hfn
  go_enter Try.func79, Try.ntmps79
  go_wp2_with fail
  refine (negative_yes d _ hd (by omega)).mono ?_
  rintro e w1 ⟨rfl, hb⟩
  have n0 := (((Box2.new w (.int .u64 (hi n)) (.int .u64 (lo n)) 106).alloc (.cells #[.int .u64 (hi d), .int .u64 (lo d)] 106)).alloc (.cells #[.int .i64 0, .int .i64 0] 23)).keep hb
  have d0 := ((Box2.newAt (W := w.alloc (.cells #[.int .u64 (hi n), .int .u64 (lo n)] 106)) (B := w.heap.size + 1) (by simp) (.int .u64 (hi d)) (.int .u64 (lo d)) 106).alloc (.cells #[.int .i64 0, .int .i64 0] 23)).keep hb
  have r0 := (Box2.newAt (W := (w.alloc (.cells #[.int .u64 (hi n), .int .u64 (lo n)] 106)).alloc (.cells #[.int .u64 (hi d), .int .u64 (lo d)] 106)) (B := w.heap.size + 1 + 1) (by simp) (.int .i64 0) (.int .i64 0) 23).keep hb
  have B1 := ((((Below.refl _ w).alloc (Nat.le_refl _) (.cells #[.int .u64 (hi n), .int .u64 (lo n)] 106)).alloc (by simp) (.cells #[.int .u64 (hi d), .int .u64 (lo d)] 106)).alloc (by simp; omega) (.cells #[.int .i64 0, .int .i64 0] 23)).trans (hb.mono (by simp; omega))
  clear hb
  have k0 := n0.later
  have k1 := d0.later
  obtain ⟨k00, k01⟩ := k0
  obtain ⟨k10, k11⟩ := k1
  go_wp2_with fail
  refine wp_region_later_tail 4 (by kernel_rfl) (by kernel_rfl) ?_
  simp only [List.take_succ_cons, List.take_zero, List.drop_succ_cons, List.drop_zero]
  repeat (go_big_quiet_step ((first | (go_at_call 82; exact later_of (negated_any _ _)))))
  refine wpQuiet_nil ?_
  intro _ hw'
  obtain ⟨q, hw''⟩ := hw'
  subst hw''
  have n1 := n0.keep q.below
  have d1 := d0.keep q.below
  have r1 := r0.keep q.below
  have B2 := B1.trans (q.below.mono B1.size)
  clear k00 k01 k10 k11 n0 d0 r0 B1
  generalize q.val = w9 at *
  obtain ⟨n2, d2, r2⟩ := set_pair n1 d1 r1 (.int .u64 (hi (-n))) (.int .u64 (lo (-n))) (.int .u64 (hi (-d))) (.int .u64 (lo (-d))) (by omega) (by omega) (by omega)
  have B3 := below_set2 (below_set2 B2 (b := w.heap.size) (Nat.le_refl _) (.int .u64 (hi (-n))) (.int .u64 (lo (-n)))) (b := w.heap.size + 1) (by omega) (.int .u64 (hi (-d))) (.int .u64 (lo (-d)))
  have a0 := n1.c0
  have a1 := n1.c1
  have a2 := d1.c0
  have a3 := d1.c1
  have a4 := n1.f0
  have a5 := n1.f1
  have a6 := d1.f0
  have a7 := d1.f1
  go_wp2_with fail
  clear a0 a1 a2 a3 a4 a5 a6 a7 n1 d1 r1 B2
  have b0 := n2.c0
  have b1 := n2.c1
  go_wp2_with fail
  refine (HFN.out _).mono ?_
  rintro e w5 ⟨rfl, hb⟩
  clear b0 b1
  have n5 := n2.keep hb
  have d5 := d2.keep hb
  have r5 := r2.keep hb
  have B5 := B3.trans (hb.mono B3.size)
  clear n2 d2 r2 B3 hb
  have b1 := n5.c1
  have b2 := d5.c1
  have b3 := r5.c0
  have b4 := r5.c1
  have b5 := r5.f0
  have b6 := r5.f1
  go_wp2_with fail
  have rr := r5.set (.int .i64 0) (.int .i64 0)
  have s0 := rr.c0
  have s1 := rr.c1
  refine bodyPost_ret (v := .tuple #[.agg #[.int .i64 0, .int .i64 0], .int .i64 2]) (by simp [results, Try.results79, go_sem, s0, s1]) rfl ⟨rfl, below_set2 B5 (by omega) _ _⟩

end Fr
end Go.Proofs.Ytojkaaglmdfcnaa
