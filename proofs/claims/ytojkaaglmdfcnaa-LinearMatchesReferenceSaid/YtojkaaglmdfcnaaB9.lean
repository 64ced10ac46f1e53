/- The reference's products of fractions. -/
import Derived.Test.YtojkaaglmdfcnaaB8
import Derived.Deep.RegionHeld3
namespace Go.Proofs.Ytojkaaglmdfcnaa
open Go.RowKit Sl
namespace Fr
set_option linter.unusedVariables false

theorem quo_nat (a g : Nat) (ha : a ≤ 4611686018427387904) (hg : 0 < g) : ∃ q : Nat, a / g = q ∧ q ≤ 4611686018427387904 ∧ (a : Int) / (g : Int) = (q : Int) ∧ (a : Int).tdiv (g : Int) = (q : Int) :=
  ⟨a / g, rfl, Nat.le_trans (Nat.div_le_self _ _) ha, by simp, by rw [Int.tdiv_eq_ediv_of_nonneg (by omega)]; simp⟩
theorem quo_int (a : Int) (g : Nat) (ha : a.natAbs ≤ 4611686018427387904) (hg : 0 < g) : ∃ q : Int, a.tdiv g = q ∧ q.natAbs ≤ 4611686018427387904 :=
  ⟨_, rfl, by rw [Int.natAbs_tdiv]; exact Nat.le_trans (Nat.div_le_self _ _) ha⟩

set_option maxRecDepth 100000 in
set_option maxHeartbeats 4000000 in
theorem rmul_walk (aN bN : Int) (p q : Nat) (w : World) (h1 : aN.natAbs ≤ 4611686018427387904) (h2 : p ≤ 4611686018427387904) (h3 : bN.natAbs ≤ 4611686018427387904) (h4 : q ≤ 4611686018427387904) (hp : 0 < p) (hq : 0 < q) (hz1 : aN ≠ 0) (hz2 : bN ≠ 0)
    (N D E : Int) (hmd : ∀ n x d : Nat, True) (hres : let g := Nat.gcd aN.natAbs q; let h := Nat.gcd bN.natAbs p; mdN (decide (aN.tdiv g < 0) != decide (bN.tdiv h < 0)) ((aN.tdiv g).natAbs * (bN.tdiv h).natAbs) ((p / h) * (q / g)) = N ∧ mdD ((aN.tdiv g).natAbs * (bN.tdiv h).natAbs) ((p / h) * (q / g)) = D ∧ mdE ((aN.tdiv g).natAbs * (bN.tdiv h).natAbs) ((p / h) * (q / g)) = E) :
    Calls Try.prog 60 #[.agg #[.int .i64 aN, .int .i64 (p : Int)], .agg #[.int .i64 bN, .int .i64 (q : Int)]] w (RetR N D E w) := by
  have HG := Lib.hid (fun W => rgcd_any aN.natAbs q W (by omega) (by omega))
  have HH := Lib.hid (fun W => rgcd_any bN.natAbs p W (by omega) (by omega))
  have HS1 := Lib.hid (fun W => rsize_any aN W (by omega) (by omega))
  have HS2 := Lib.hid (fun W => rsize_any bN W (by omega) (by omega))
  have hg0 : 0 < Nat.gcd aN.natAbs q := Nat.gcd_pos_of_pos_right _ hq
  have hh0 : 0 < Nat.gcd bN.natAbs p := Nat.gcd_pos_of_pos_right _ hp
  have hgq : Nat.gcd aN.natAbs q ≤ q := Nat.gcd_le_right _ hq
  have hhp : Nat.gcd bN.natAbs p ≤ p := Nat.gcd_le_right _ hp
  simp only at hres
  generalize Nat.gcd aN.natAbs q = g at *
  generalize Nat.gcd bN.natAbs p = h at *
  obtain ⟨a', ea, la⟩ := quo_int aN g h1 hg0
  obtain ⟨b', eb, lb⟩ := quo_int bN h h3 hh0
  obtain ⟨p', ep, lp, ep2, ep3⟩ := quo_nat p h h2 hh0
  obtain ⟨q', eq, lq, eq2, eq3⟩ := quo_nat q g h4 hg0
  rw [ea, eb, ep, eq] at hres
  have HP := Lib.hid (fun W => rproduct_any a' b' W la lb)
  have HB1 := Lib.hid (fun W => bits_any p' W (by omega))
  have HB2 := Lib.hid (fun W => bits_any q' W (by omega))
  have hTl : ∀ (x : Nat), x ≤ 4611686018427387904 → ∀ k, Tight x k → k ≤ 100 := fun x hx k hT => by have := hT.le (m := 63) (by omega); omega
  have HT1 := Lib.hid (hTl p' lp)
  have HT2 := Lib.hid (hTl q' lq)
  have hT3 : ∀ k, Tight (a'.natAbs * b'.natAbs) k → k ≤ 500 := fun k hT => by
    have h5 := Nat.mul_le_mul la lb
    have := hT.le (m := 130) (Nat.lt_of_le_of_lt h5 (by decide))
    omega
  have hT4 : ∀ k, Tight (p' * q') k → k ≤ 500 := fun k hT => by
    have h5 := Nat.mul_le_mul lp lq
    have := hT.le (m := 130) (Nat.lt_of_le_of_lt h5 (by decide))
    omega
  have HT3 := Lib.hid hT3
  have HT4 := Lib.hid hT4
  clear hTl hT3 hT4
  have HRES := Lib.hid hres
  clear hres hmd ep eq
  have n1 : (aN == 0) = false := by simp [hz1]
  have n2 : (bN == 0) = false := by simp [hz2]
  have A0 := Args3.start w (.int .i64 aN) (.int .i64 (p : Int)) (.int .i64 bN) (.int .i64 (q : Int)) (.int .i64 0) (.int .i64 0) (.int .i64 0) 23 23 51
  clear hz1 hz2
  go_enter Try.func60, Try.ntmps60
  go_wp2_with fail
  generalize ((w.alloc (.cells #[.int .i64 aN, .int .i64 (p : Int)] 23)).alloc (.cells #[.int .i64 bN, .int .i64 (q : Int)] 23)).alloc (.cells #[.int .i64 0, .int .i64 0, .int .i64 0] 51) = W0 at *
  obtain ⟨x0, x1⟩ := A0.a.later
  obtain ⟨y0, y1⟩ := A0.b.later
  refine wp_region_later (by kernel_rfl) (by kernel_rfl) ?_
  repeat (go_big_quiet_step (first | (go_at_call 72; with_reducible exact later_same (HS1.out _)) | (go_at_call 71; with_reducible exact later_same (HG.out _))))
  refine wpQuiet_nil ?_
  intro _ hw'
  obtain ⟨r, hw''⟩ := hw'
  subst hw''
  have A1 := A0.keep r.below
  generalize r.val = W1 at *
  clear x0 x1 y0 y1 A0 r HS1 HG
  go_wp2_with fail
  obtain ⟨x0, x1⟩ := A1.a.later
  obtain ⟨y0, y1⟩ := A1.b.later
  refine wp_region_later (by kernel_rfl) (by kernel_rfl) ?_
  repeat (go_big_quiet_step (first | (go_at_call 72; with_reducible exact later_same (HS2.out _)) | (go_at_call 71; with_reducible exact later_same (HH.out _))))
  refine wpQuiet_nil ?_
  intro _ hw'
  obtain ⟨r, hw''⟩ := hw'
  subst hw''
  have A2 := A1.keep r.below
  generalize r.val = W2 at *
  clear x0 x1 y0 y1 A1 r HS2 HH
  have x0 := A2.a.c0
  have x1 := A2.a.c1
  have y0 := A2.b.c0
  have y1 := A2.b.c1
  go_wp2_with fail
  have HA := Lib.hid A2
  have hg3 : ¬ g = 0 := by omega
  have hh3 : ¬ h = 0 := by omega
  have w1 : IntKind.i64.wrap a' = a' := IntWalk.i64_in _ (by omega)
  have w2 : IntKind.i64.wrap b' = b' := IntWalk.i64_in _ (by omega)
  have w3 : IntKind.i64.wrap (p' : Int) = (p' : Int) := IntWalk.i64_in _ (by omega)
  have w4 : IntKind.i64.wrap (q' : Int) = (q' : Int) := IntWalk.i64_in _ (by omega)
  clear A2
  go_region_held3 (fun w' => w'.cell? ⟨w.heap.size, 0, none⟩ = some (.int .i64 aN) ∧ w'.cell? ⟨w.heap.size, 1, none⟩ = some (.int .i64 (p : Int)) ∧ w'.cell? ⟨w.heap.size + 1, 0, none⟩ = some (.int .i64 bN) ∧ w'.cell? ⟨w.heap.size + 1, 1, none⟩ = some (.int .i64 (q : Int)))
    (first | exact ⟨A9.a.c0, A9.a.c1, A9.b.c0, A9.b.c1⟩ | exact ⟨(((A9.a.far (by omega) _).far (by omega) _).far (by omega) _).c0, (((A9.a.far (by omega) _).far (by omega) _).far (by omega) _).c1, (((A9.b.far (by omega) _).far (by omega) _).far (by omega) _).c0, (((A9.b.far (by omega) _).far (by omega) _).far (by omega) _).c1⟩ | exact ⟨A8.a.c0, A8.a.c1, A8.b.c0, A8.b.c1⟩ | exact ⟨A7.a.c0, A7.a.c1, A7.b.c0, A7.b.c1⟩ | exact ⟨A6.a.c0, A6.a.c1, A6.b.c0, A6.b.c1⟩ | exact ⟨A5.a.c0, A5.a.c1, A5.b.c0, A5.b.c1⟩ | go_keep)
    (first
      | (go_at_call 84; refine (HP.out _).mono ?_; rintro e w5 ⟨v5, k5, rfl, hh5, hT5, hb5, hn5⟩; have A5 := HA.out.keep ((Below.refl _ _).drew.trans hb5); have H5 := Lib.hid hh5; have T5 := Lib.hid hT5; clear hh5 hT5 hn5)
      | (go_at_call_of 89 (Value.int .i64 (p' : Int)); refine (HB1.out _).mono ?_; rintro e w6 ⟨v6, k6, rfl, hh6, hT6, hb6, hn6⟩; have A6 := A5.keep hb6; have H56 := Lib.hid (H5.out.keep hb6); have H6 := Lib.hid hh6; have T6 := Lib.hid hT6; clear hh6 hT6 hn6)
      | (go_at_call_of 89 (Value.int .i64 (q' : Int)); refine (HB2.out _).mono ?_; rintro e w7 ⟨v7, k7, rfl, hh7, hT7, hb7, hn7⟩; have A7 := A6.keep hb7; have H57 := Lib.hid (H56.out.keep hb7); obtain ⟨g6, c6, rfl, hc6, hg6, hI6⟩ := H6.out.keep hb7; obtain ⟨g7, c7, rfl, hc7, hg7, hI7⟩ := hh7; have HTM := Lib.hid (times_bits g6 p' q' k6 k7 c6 c7 (some ⟨g7, 0, none⟩) w7 hI6 hI7 T6.out.1 hT7.1 (HT1.out k6 T6.out) (HT2.out k7 hT7)); clear hI6 hI7 hT7 hn7)
      | (go_at_call 88; refine HTM.out.mono ?_; rintro e w8 ⟨v8, k8, rfl, hh8, hT8, hb8, hn8⟩; have A8 := A7.keep hb8; have HMD := Lib.hid (rmade_any (decide (a' < 0) != decide (b' < 0)) _ _ v5 v8 k5 k8 w8 (H57.out.keep hb8) hh8 T5.out hT8 (HT3.out k5 T5.out) (HT4.out k8 hT8)); clear hh8 hT8 hn8)
      | (go_at_call 87; refine HMD.out.mono ?_; rintro e w9 ⟨rfl, hb9⟩; have A9 := A8.keep hb9; have r0 := A9.r.c0; have r1 := A9.r.c1; have r2 := A9.r.c2; have q0 := A9.r.f0; have q1 := A9.r.f1; have q2 := A9.r.f2))
  all_goals
    have HN := Lib.hid (A9.r.set (.int .i64 (mdN (decide (a' < 0) != decide (b' < 0)) (a'.natAbs * b'.natAbs) (p' * q'))) (.int .i64 (mdD (a'.natAbs * b'.natAbs) (p' * q'))) (.int .i64 (mdE (a'.natAbs * b'.natAbs) (p' * q'))))
    have HB9 := Lib.hid A9.below
    clear r0 r1 r2 q0 q1 q2 A9
    go_wp2_with fail
    have c0 := HN.out.c0
    have c1 := HN.out.c1
    have c2 := HN.out.c2
    refine bodyPost_ret (v := .agg #[.int .i64 (mdN (decide (a' < 0) != decide (b' < 0)) (a'.natAbs * b'.natAbs) (p' * q')), .int .i64 (mdD (a'.natAbs * b'.natAbs) (p' * q')), .int .i64 (mdE (a'.natAbs * b'.natAbs) (p' * q'))]) (by simp [results, Try.results60, go_sem, c0, c1, c2]) rfl ?_
    obtain ⟨e1, e2, e3⟩ := HRES.out
    exact ⟨by rw [e1, e2, e3], below_set3 HB9.out (by omega) _ _ _⟩

end Fr
end Go.Proofs.Ytojkaaglmdfcnaa
