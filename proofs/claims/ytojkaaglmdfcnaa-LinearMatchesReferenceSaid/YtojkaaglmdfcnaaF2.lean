/- What the products of fractions return. -/
import Derived.Test.YtojkaaglmdfcnaaF1
namespace Go.Proofs.Ytojkaaglmdfcnaa
open Go.RowKit Go.Shelf
namespace Fr
set_option linter.unusedVariables false

set_option maxHeartbeats 1000000 in
theorem mul_any (aN aD bN bD : Int) (w : World) (h1 : I64 aN) (h2 : I64 aD) (h3 : I64 bN) (h4 : I64 bD) (ha : aD ≠ 0) (hb : bD ≠ 0) (hca : Nat.Coprime aN.natAbs aD.natAbs) (hcb : Nat.Coprime bN.natAbs bD.natAbs) :
    Calls Try.prog 45 #[.agg #[.int .i64 aN, .int .i64 aD], .agg #[.int .i64 bN, .int .i64 bD]] w fun e w' => e = .returned (.tuple #[.agg #[.int .i64 (rN (Rat.divInt aN aD * Rat.divInt bN bD)), .int .i64 (rD (Rat.divInt aN aD * Rat.divInt bN bD))], .int .i64 (rE (Rat.divInt aN aD * Rat.divInt bN bD))]) ∧ Below w.heap.size w w' := by
  obtain ⟨m1, m2, m3⟩ := mul_core ha hb hca hcb
  have hp1 : In127 (aN * bN) := mul_in127 (by unfold I64 at *; omega) (by unfold I64 at *; omega)
  have hp2 : In127 (aD * bD) := mul_in127 (by unfold I64 at *; omega) (by unfold I64 at *; omega)
  obtain ⟨g0, g1⟩ := gcd_small (x := aN.natAbs) (y := bD.natAbs) (by unfold I64 at *; omega) (by unfold I64 at *; omega) (.inr (by omega))
  obtain ⟨k0, k1⟩ := gcd_small (x := bN.natAbs) (y := aD.natAbs) (by unfold I64 at *; omega) (by unfold I64 at *; omega) (.inr (by omega))
  have HG := Lib.hid (fun W => gcd_new aN.natAbs bD.natAbs W (by unfold I64 at *; omega) (by unfold I64 at *; omega) (.inr (by omega)))
  have HK := Lib.hid (fun W => gcd_new bN.natAbs aD.natAbs W (by unfold I64 at *; omega) (by unfold I64 at *; omega) (.inr (by omega)))
  have S1 := Lib.hid (fun W => size_any aN W h1.1 h1.2)
  have S2 := Lib.hid (fun W => size_any aD W h2.1 h2.2)
  have S3 := Lib.hid (fun W => size_any bN W h3.1 h3.2)
  have S4 := Lib.hid (fun W => size_any bD W h4.1 h4.2)
  have P1 := Lib.hid (fun W => product_any aN bN W h1.1 h1.2 h3.1 h3.2)
  have P2 := Lib.hid (fun W => product_any aD bD W h2.1 h2.2 h4.1 h4.2)
  generalize Nat.gcd aN.natAbs bD.natAbs = g at *
  generalize Nat.gcd bN.natAbs aD.natAbs = k at *
  have O1 := Lib.hid (fun W => over_nat (aN * bN) g W hp1 g0 g1)
  have O2 := Lib.hid (fun W => over_nat (ov (aN * bN) g) k W (ov_in127 hp1) k0 k1)
  have O3 := Lib.hid (fun W => over_nat (aD * bD) g W hp2 g0 g1)
  have O4 := Lib.hid (fun W => over_nat (ov (aD * bD) g) k W (ov_in127 hp2) k0 k1)
  have N1 := Lib.hid (fun W => narrow_out (ov (ov (aN * bN) g) k) (ov (ov (aD * bD) g) k) W (ov_in127 (ov_in127 hp1)) (ov_in127 (ov_in127 hp2)) m1 m2 _ m3)
  clear m1 m2 m3 hp1 hp2 g0 g1 k0 k1 h1 h2 h3 h4 ha hb hca hcb
  go_enter Try.func45, Try.ntmps45
  go_wp2_with fail
  have A0 := Args.start w (.int .i64 aN) (.int .i64 aD) (.int .i64 bN) (.int .i64 bD) (.int .i64 0) (.int .i64 0) 23 23 23
  generalize ((w.alloc (.cells #[.int .i64 aN, .int .i64 aD] 23)).alloc (.cells #[.int .i64 bN, .int .i64 bD] 23)).alloc (.cells #[.int .i64 0, .int .i64 0] 23) = W0 at *
  obtain ⟨x0, x1⟩ := A0.a.later
  obtain ⟨y0, y1⟩ := A0.b.later
  refine wp_region_later_tail 6 (by kernel_rfl) (by kernel_rfl) ?_
  simp only [List.take_succ_cons, List.take_zero, List.drop_succ_cons, List.drop_zero]
  repeat (go_big_quiet_step ((first | (go_at_call 74; with_reducible exact later_same (S1.out _)) | (go_at_call 74; with_reducible exact later_same (S4.out _)))))
  refine wpQuiet_nil ?_
  intro _ hw'
  obtain ⟨q, hw''⟩ := hw'
  subst hw''
  have A1 := A0.keep q.below
  generalize q.val = W1 at *
  clear x0 x1 y0 y1 A0 q
  go_wp2_with fail
  refine (HG.out _).mono ?_
  rintro e W2 ⟨rfl, hb⟩
  have A2 := (A1.alloc _).keep hb
  clear A1 hb HG
  go_wp2_with fail
  obtain ⟨x0, x1⟩ := A2.a.later
  obtain ⟨y0, y1⟩ := A2.b.later
  refine wp_region_later_tail 6 (by kernel_rfl) (by kernel_rfl) ?_
  simp only [List.take_succ_cons, List.take_zero, List.drop_succ_cons, List.drop_zero]
  repeat (go_big_quiet_step ((first | (go_at_call 74; with_reducible exact later_same (S3.out _)) | (go_at_call 74; with_reducible exact later_same (S2.out _)))))
  refine wpQuiet_nil ?_
  intro _ hw'
  obtain ⟨q, hw''⟩ := hw'
  subst hw''
  have A3 := A2.keep q.below
  generalize q.val = W3 at *
  clear x0 x1 y0 y1 A2 q
  go_wp2_with fail
  refine (HK.out _).mono ?_
  rintro e W4 ⟨rfl, hb⟩
  have A4 := (A3.alloc _).keep hb
  clear A3 hb HK S1 S2 S3 S4
  go_wp2_with fail
  obtain ⟨x0, x1⟩ := A4.a.later
  obtain ⟨y0, y1⟩ := A4.b.later
  refine wp_region_later_tail 21 (by kernel_rfl) (by kernel_rfl) ?_
  simp only [List.take_succ_cons, List.take_zero, List.drop_succ_cons, List.drop_zero]
  repeat (go_big_quiet_step ((first | (go_at_call 75; first | with_reducible exact later_of (P1.out _) | with_reducible exact later_of (P2.out _)) | (go_at_call 77; first | with_reducible exact later_of (O1.out _) | with_reducible exact later_of (O2.out _) | with_reducible exact later_of (O3.out _) | with_reducible exact later_of (O4.out _)) | (go_at_call 79; with_reducible exact later_of (N1.out _)))))
  refine wpQuiet_nil ?_
  intro _ hw'
  obtain ⟨q, hw''⟩ := hw'
  subst hw''
  have A5 := A4.keep q.below
  generalize q.val = W5 at *
  clear x0 x1 y0 y1 A4 q
  have r0 := A5.r.c0
  have r1 := A5.r.c1
  have f0 := A5.r.f0
  have f1 := A5.r.f1
  go_wp2_with fail
  have A6 := A5.r.set (.int .i64 (rN (Rat.divInt aN aD * Rat.divInt bN bD))) (.int .i64 (rD (Rat.divInt aN aD * Rat.divInt bN bD)))
  have s0 := A6.c0
  have s1 := A6.c1
  refine bodyPost_ret (v := .tuple #[.agg #[.int .i64 (rN (Rat.divInt aN aD * Rat.divInt bN bD)), .int .i64 (rD (Rat.divInt aN aD * Rat.divInt bN bD))], .int .i64 (rE (Rat.divInt aN aD * Rat.divInt bN bD))]) (by simp [results, Try.results45, go_sem, s0, s1]) rfl ⟨rfl, below_set2 A5.below (by omega) _ _⟩

end Fr
end Go.Proofs.Ytojkaaglmdfcnaa
