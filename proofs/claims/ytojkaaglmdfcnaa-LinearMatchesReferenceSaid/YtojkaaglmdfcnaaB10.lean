/- The reference's MulIn and DivIn return what the rational numbers say. -/
import Derived.Test.YtojkaaglmdfcnaaB9
namespace Go.Proofs.Ytojkaaglmdfcnaa
open Go.RowKit Sl
namespace Fr
set_option linter.unusedVariables false

set_option maxRecDepth 100000 in
set_option maxHeartbeats 4000000 in
theorem rmul_zero (aN bN : Int) (p q : Nat) (w : World) (h1 : aN.natAbs ≤ 4611686018427387904) (h2 : p ≤ 4611686018427387904) (h3 : bN.natAbs ≤ 4611686018427387904) (h4 : q ≤ 4611686018427387904) (hp : 0 < p) (hq : 0 < q) (hz : aN = 0 ∨ bN = 0) :
    Calls Try.prog 60 #[.agg #[.int .i64 aN, .int .i64 (p : Int)], .agg #[.int .i64 bN, .int .i64 (q : Int)]] w (RetR 0 1 0 w) := by
  have HG := Lib.hid (fun W => rgcd_any aN.natAbs q W (by omega) (by omega))
  have HH := Lib.hid (fun W => rgcd_any bN.natAbs p W (by omega) (by omega))
  have HS1 := Lib.hid (fun W => rsize_any aN W (by omega) (by omega))
  have HS2 := Lib.hid (fun W => rsize_any bN W (by omega) (by omega))
  generalize Nat.gcd aN.natAbs q = g at *
  generalize Nat.gcd bN.natAbs p = h at *
  have ways : (aN == 0) = true ∨ ((aN == 0) = false ∧ (bN == 0) = true) := by
    by_cases e : aN = 0
    · exact .inl (by simp [e])
    · exact .inr ⟨by simp [e], by rcases hz with hz | hz; exact absurd hz e; simp [hz]⟩
  have A0 := Args3.start w (.int .i64 aN) (.int .i64 (p : Int)) (.int .i64 bN) (.int .i64 (q : Int)) (.int .i64 0) (.int .i64 0) (.int .i64 0) 23 23 51
  clear hz
  go_enter Try.func60, Try.ntmps60
  go_wp2_with fail
  generalize ((w.alloc (.cells #[.int .i64 aN, .int .i64 (p : Int)] 23)).alloc (.cells #[.int .i64 bN, .int .i64 (q : Int)] 23)).alloc (.cells #[.int .i64 0, .int .i64 0, .int .i64 0] 51) = W0 at *
  obtain ⟨x0, x1⟩ := A0.a.later
  obtain ⟨y0, y1⟩ := A0.b.later
  refine wp_region_later (by kernel_rfl) (by kernel_rfl) ?_
  repeat (go_big_quiet_step (first | (go_at_call 72; with_reducible exact later_same (HS1.out _)) | (go_at_call 71; with_reducible exact later_same (HG.out _))))
  refine wpQuiet_nil ?_
  intro _ hw'
  obtain ⟨r, hw''⟩ := hw'
  subst hw''
  have A1 := A0.keep r.below
  generalize r.val = W1 at *
  clear x0 x1 y0 y1 A0 r HS1 HG
  go_wp2_with fail
  obtain ⟨x0, x1⟩ := A1.a.later
  obtain ⟨y0, y1⟩ := A1.b.later
  refine wp_region_later (by kernel_rfl) (by kernel_rfl) ?_
  repeat (go_big_quiet_step (first | (go_at_call 72; with_reducible exact later_same (HS2.out _)) | (go_at_call 71; with_reducible exact later_same (HH.out _))))
  refine wpQuiet_nil ?_
  intro _ hw'
  obtain ⟨r, hw''⟩ := hw'
  subst hw''
  have A2 := A1.keep r.below
  generalize r.val = W2 at *
  clear x0 x1 y0 y1 A1 r HS2 HH
  have x0 := A2.a.c0
  have x1 := A2.a.c1
  have y0 := A2.b.c0
  have y1 := A2.b.c1
  have r0 := A2.r.c0
  have r1 := A2.r.c1
  have r2 := A2.r.c2
  have q0 := A2.r.f0
  have q1 := A2.r.f1
  have q2 := A2.r.f2
  have HN := Lib.hid (A2.r.set (.int .i64 0) (.int .i64 1) (.int .i64 0))
  have HB := Lib.hid A2.below
  clear A2
  rcases ways with n1 | ⟨n1, n2⟩
  all_goals
    go_wp2_with fail
    have c0 := HN.out.c0
    have c1 := HN.out.c1
    have c2 := HN.out.c2
    clear r0 r1 r2 q0 q1 q2 x0 x1 y0 y1
    refine bodyPost_ret (v := .agg #[.int .i64 0, .int .i64 1, .int .i64 0]) (by simp [results, Try.results60, go_sem, c0, c1, c2]) rfl ?_
    exact ⟨rfl, below_set3 HB.out (by omega) _ _ _⟩

theorem r_zero : rN 0 = 0 ∧ rD 0 = 1 ∧ rE 0 = 0 := by decide +kernel

theorem split_mul {a b g h a' b' : Int} (hg : g ≠ 0) (hh : h ≠ 0) (ha : g ∣ a) (hb : h ∣ b) (ea : a.tdiv g = a') (eb : b.tdiv h = b') : ((a * b).tdiv g).tdiv h = a' * b' := by
  obtain ⟨x, rfl⟩ := ha
  obtain ⟨y, rfl⟩ := hb
  rw [Int.mul_tdiv_cancel_left _ hg] at ea
  rw [Int.mul_tdiv_cancel_left _ hh] at eb
  subst ea eb
  rw [Int.mul_assoc, Int.mul_tdiv_cancel_left _ hg, Int.mul_left_comm, Int.mul_tdiv_cancel_left _ hh]

theorem rmul_any (aN bN : Int) (p q : Nat) (w : World) (h1 : aN.natAbs ≤ 4611686018427387904) (h2 : p ≤ 4611686018427387904) (h3 : bN.natAbs ≤ 4611686018427387904) (h4 : q ≤ 4611686018427387904) (hp : 0 < p) (hq : 0 < q) (hca : Nat.Coprime aN.natAbs p) (hcb : Nat.Coprime bN.natAbs q) :
    Calls Try.prog 60 #[.agg #[.int .i64 aN, .int .i64 (p : Int)], .agg #[.int .i64 bN, .int .i64 (q : Int)]] w
      (RetR (rN (Rat.divInt aN p * Rat.divInt bN q)) (rD (Rat.divInt aN p * Rat.divInt bN q)) (rE (Rat.divInt aN p * Rat.divInt bN q)) w) := by
  by_cases hz : aN = 0 ∨ bN = 0
  · have e : Rat.divInt aN p * Rat.divInt bN q = 0 := by
      rcases hz with rfl | rfl
      · rw [Rat.zero_divInt, Rat.zero_mul]
      · rw [Rat.zero_divInt, Rat.mul_zero]
    rw [e, r_zero.1, r_zero.2.1, r_zero.2.2]
    exact rmul_zero aN bN p q w h1 h2 h3 h4 hp hq hz
  · have hz1 : aN ≠ 0 := fun e => hz (.inl e)
    have hz2 : bN ≠ 0 := fun e => hz (.inr e)
    refine rmul_walk aN bN p q w h1 h2 h3 h4 hp hq hz1 hz2 _ _ _ (fun _ _ _ => trivial) ?_
    intro g h
    obtain ⟨m1, m2, m3⟩ := mul_core (aN := aN) (aD := p) (bN := bN) (bD := q) (by omega) (by omega) (by simpa using hca) (by simpa using hcb)
    simp only [Int.natAbs_natCast] at m1 m2 m3
    have hg0 : 0 < g := Nat.gcd_pos_of_pos_right _ hq
    have hh0 : 0 < h := Nat.gcd_pos_of_pos_right _ hp
    have dg : (g : Int) ∣ aN := Int.ofNat_dvd_left.2 (Nat.gcd_dvd_left _ _)
    have dh : (h : Int) ∣ bN := Int.ofNat_dvd_left.2 (Nat.gcd_dvd_left _ _)
    have dq : (g : Int) ∣ (q : Int) := Int.natCast_dvd_natCast.2 (Nat.gcd_dvd_right _ _)
    have dp : (h : Int) ∣ (p : Int) := Int.natCast_dvd_natCast.2 (Nat.gcd_dvd_right _ _)
    have e1 : ((aN * bN).tdiv (g : Int)).tdiv (h : Int) = aN.tdiv g * bN.tdiv h := split_mul (by omega) (by omega) dg dh rfl rfl
    have e2 : (((p : Int) * (q : Int)).tdiv (g : Int)).tdiv (h : Int) = ((p / h * (q / g) : Nat) : Int) := by
      rw [Int.mul_comm, split_mul (a := (q : Int)) (b := (p : Int)) (g := g) (h := h) (by omega) (by omega) dq dp rfl rfl, Int.tdiv_eq_ediv_of_nonneg (by omega), Int.tdiv_eq_ediv_of_nonneg (by omega), Int.mul_comm]
      simp
    have e1' : ((aN * bN).tdiv ((Nat.gcd aN.natAbs q : Nat) : Int)).tdiv ((Nat.gcd bN.natAbs p : Nat) : Int) = aN.tdiv g * bN.tdiv h := e1
    have e2' : (((p : Int) * (q : Int)).tdiv ((Nat.gcd aN.natAbs q : Nat) : Int)).tdiv ((Nat.gcd bN.natAbs p : Nat) : Int) = ((p / h * (q / g) : Nat) : Int) := e2
    rw [e1', e2'] at m2 m3
    rw [e2'] at m1
    have hpos : (0 : Int) < ((p / h * (q / g) : Nat) : Int) := by omega
    refine made_rat ?_ ?_
    · rw [prod_val, ← m3, divInt_num hpos m2]
    · have := divInt_den hpos m2
      rw [m3] at this
      exact_mod_cast this

end Fr
end Go.Proofs.Ytojkaaglmdfcnaa
