/- What Cmp, Min, Max, Floor and Ceil return. -/
import Derived.Test.YtojkaaglmdfcnaaF5
namespace Go.Proofs.Ytojkaaglmdfcnaa
open Go.RowKit Go.Shelf
namespace Fr
set_option linter.unusedVariables false

/-- The order of two rational numbers. -/
def cmpI (q r : Rat) : Int := if q = r then 0 else if q < r then -1 else 1

theorem lt_cross {q r : Rat} {n d m k : Int} (ha : IsF q n d) (hb : IsF r m k) : (q < r) ↔ n * k + -(m * d) < 0 := by
  rw [Rat.lt_iff, ha.num, hb.num, ha.den, hb.den]
  omega

theorem cmp_q {q r : Rat} {n d m k : Int} (ha : IsF q n d) (hb : IsF r m k) (w : World) :
    Calls Try.prog 50 #[.agg #[.int .i64 n, .int .i64 d], .agg #[.int .i64 m, .int .i64 k]] w fun o w' => o = .returned (.int .i64 (cmpI q r)) ∧ Below w.heap.size w w' := by
  by_cases h0 : q = r
  · have e1 : n = m := by rw [← ha.num, ← hb.num, h0]
    have e2 : d = k := by rw [← ha.den, ← hb.den, h0]
    have hc : cmpI q r = 0 := by unfold cmpI; rw [if_pos h0]
    rw [hc]
    subst e1 e2
    clear ha hb h0 hc
    go_enter Try.func50, Try.ntmps50
    go_wp2_with fail
    go_ret
    exact ⟨rfl, ((Below.refl _ w).alloc (Nat.le_refl _) _).alloc (by simp) _⟩
  · have hne : (n == m) = false ∨ (n == m) = true ∧ (d == k) = false := by
      by_cases e1 : n = m
      · right
        refine ⟨by simpa using e1, ?_⟩
        simp only [beq_eq_false_iff_ne, ne_eq]
        intro e2
        exact h0 (isF_unique ha (by rw [e1, e2]; exact hb))
      · left; simpa using e1
    have hx := lt_cross ha hb
    have n1 := ha.n62
    have n2 := ha.d62
    have n3 := hb.n62
    have n4 := hb.d62
    have p1 := mul_small n1 n4
    have p2 := mul_small n3 n2
    have hin : In127 (n * k + -(m * d)) := by unfold In127; omega
    have P1 := Lib.hid (fun W => product_any n k W (by unfold I62 at *; omega) (by unfold I62 at *; omega) (by unfold I62 at *; omega) (by unfold I62 at *; omega))
    have P2 := Lib.hid (fun W => product_any m d W (by unfold I62 at *; omega) (by unfold I62 at *; omega) (by unfold I62 at *; omega) (by unfold I62 at *; omega))
    have N1 := Lib.hid (fun W => negated_any (m * d) W)
    have L1 : Hid (∀ W, _) := Lib.hid (fun W => plus_any (n * k) (-(m * d)) W)
    unfold wd at L1
    have G1 := Lib.hid (fun W => negative_any (n * k + -(m * d)) W hin)
    have HR : Hid (cmpI q r = if n * k + -(m * d) < 0 then -1 else 1) := Lib.hid (by unfold cmpI; rw [if_neg h0]; by_cases h : q < r <;> simp [h, hx.symm])
    rw [HR.out]
    generalize n * k + -(m * d) = x at *
    clear ha hb h0 hx n1 n2 n3 n4 p1 p2 hin HR
    rcases hne with hn1 | ⟨hn1, hn2⟩
    · by_cases hs : x < 0
      · rw [if_pos hs]
        rw [decide_eq_true hs] at G1
        clear hs
        go_enter Try.func50, Try.ntmps50
        go_wp2_with fail
        have a0 := (Box2.new w (.int .i64 n) (.int .i64 d) 23).alloc (.cells #[.int .i64 m, .int .i64 k] 23)
        have b0 := Box2.newAt (W := w.alloc (.cells #[.int .i64 n, .int .i64 d] 23)) (B := w.heap.size + 1) (by simp) (.int .i64 m) (.int .i64 k) 23
        have B0 := ((Below.refl _ w).alloc (Nat.le_refl _) (.cells #[.int .i64 n, .int .i64 d] 23)).alloc (by simp) (.cells #[.int .i64 m, .int .i64 k] 23)
        generalize (w.alloc (.cells #[.int .i64 n, .int .i64 d] 23)).alloc (.cells #[.int .i64 m, .int .i64 k] 23) = W0 at *
        obtain ⟨x0, x1⟩ := a0.later
        obtain ⟨y0, y1⟩ := b0.later
        refine wp_region_later (by kernel_rfl) (by kernel_rfl) ?_
        repeat (go_big_quiet_step ((first | (go_at_call 75; first | with_reducible exact later_of (P1.out _) | with_reducible exact later_of (P2.out _)) | (go_at_call 82; with_reducible exact later_of (N1.out _)) | (go_at_call 76; with_reducible exact later_of (L1.out _)) | (go_at_call 83; with_reducible exact later_of (G1.out _)))))
        refine wpQuiet_nil ?_
        intro _ hw'
        obtain ⟨z, hw''⟩ := hw'
        subst hw''
        have B1 := B0.trans (z.below.mono B0.size)
        go_wp2_with fail
        go_ret
        exact ⟨rfl, B1⟩
      · rw [if_neg hs]
        rw [decide_eq_false hs] at G1
        clear hs
        go_enter Try.func50, Try.ntmps50
        go_wp2_with fail
        have a0 := (Box2.new w (.int .i64 n) (.int .i64 d) 23).alloc (.cells #[.int .i64 m, .int .i64 k] 23)
        have b0 := Box2.newAt (W := w.alloc (.cells #[.int .i64 n, .int .i64 d] 23)) (B := w.heap.size + 1) (by simp) (.int .i64 m) (.int .i64 k) 23
        have B0 := ((Below.refl _ w).alloc (Nat.le_refl _) (.cells #[.int .i64 n, .int .i64 d] 23)).alloc (by simp) (.cells #[.int .i64 m, .int .i64 k] 23)
        generalize (w.alloc (.cells #[.int .i64 n, .int .i64 d] 23)).alloc (.cells #[.int .i64 m, .int .i64 k] 23) = W0 at *
        obtain ⟨x0, x1⟩ := a0.later
        obtain ⟨y0, y1⟩ := b0.later
        refine wp_region_later (by kernel_rfl) (by kernel_rfl) ?_
        repeat (go_big_quiet_step ((first | (go_at_call 75; first | with_reducible exact later_of (P1.out _) | with_reducible exact later_of (P2.out _)) | (go_at_call 82; with_reducible exact later_of (N1.out _)) | (go_at_call 76; with_reducible exact later_of (L1.out _)) | (go_at_call 83; with_reducible exact later_of (G1.out _)))))
        refine wpQuiet_nil ?_
        intro _ hw'
        obtain ⟨z, hw''⟩ := hw'
        subst hw''
        have B1 := B0.trans (z.below.mono B0.size)
        go_wp2_with fail
        go_ret
        exact ⟨rfl, B1⟩
    · by_cases hs : x < 0
      · rw [if_pos hs]
        rw [decide_eq_true hs] at G1
        clear hs
        go_enter Try.func50, Try.ntmps50
        go_wp2_with fail
        have a0 := (Box2.new w (.int .i64 n) (.int .i64 d) 23).alloc (.cells #[.int .i64 m, .int .i64 k] 23)
        have b0 := Box2.newAt (W := w.alloc (.cells #[.int .i64 n, .int .i64 d] 23)) (B := w.heap.size + 1) (by simp) (.int .i64 m) (.int .i64 k) 23
        have B0 := ((Below.refl _ w).alloc (Nat.le_refl _) (.cells #[.int .i64 n, .int .i64 d] 23)).alloc (by simp) (.cells #[.int .i64 m, .int .i64 k] 23)
        generalize (w.alloc (.cells #[.int .i64 n, .int .i64 d] 23)).alloc (.cells #[.int .i64 m, .int .i64 k] 23) = W0 at *
        obtain ⟨x0, x1⟩ := a0.later
        obtain ⟨y0, y1⟩ := b0.later
        refine wp_region_later (by kernel_rfl) (by kernel_rfl) ?_
        repeat (go_big_quiet_step ((first | (go_at_call 75; first | with_reducible exact later_of (P1.out _) | with_reducible exact later_of (P2.out _)) | (go_at_call 82; with_reducible exact later_of (N1.out _)) | (go_at_call 76; with_reducible exact later_of (L1.out _)) | (go_at_call 83; with_reducible exact later_of (G1.out _)))))
        refine wpQuiet_nil ?_
        intro _ hw'
        obtain ⟨z, hw''⟩ := hw'
        subst hw''
        have B1 := B0.trans (z.below.mono B0.size)
        go_wp2_with fail
        go_ret
        exact ⟨rfl, B1⟩
      · rw [if_neg hs]
        rw [decide_eq_false hs] at G1
        clear hs
        go_enter Try.func50, Try.ntmps50
        go_wp2_with fail
        have a0 := (Box2.new w (.int .i64 n) (.int .i64 d) 23).alloc (.cells #[.int .i64 m, .int .i64 k] 23)
        have b0 := Box2.newAt (W := w.alloc (.cells #[.int .i64 n, .int .i64 d] 23)) (B := w.heap.size + 1) (by simp) (.int .i64 m) (.int .i64 k) 23
        have B0 := ((Below.refl _ w).alloc (Nat.le_refl _) (.cells #[.int .i64 n, .int .i64 d] 23)).alloc (by simp) (.cells #[.int .i64 m, .int .i64 k] 23)
        generalize (w.alloc (.cells #[.int .i64 n, .int .i64 d] 23)).alloc (.cells #[.int .i64 m, .int .i64 k] 23) = W0 at *
        obtain ⟨x0, x1⟩ := a0.later
        obtain ⟨y0, y1⟩ := b0.later
        refine wp_region_later (by kernel_rfl) (by kernel_rfl) ?_
        repeat (go_big_quiet_step ((first | (go_at_call 75; first | with_reducible exact later_of (P1.out _) | with_reducible exact later_of (P2.out _)) | (go_at_call 82; with_reducible exact later_of (N1.out _)) | (go_at_call 76; with_reducible exact later_of (L1.out _)) | (go_at_call 83; with_reducible exact later_of (G1.out _)))))
        refine wpQuiet_nil ?_
        intro _ hw'
        obtain ⟨z, hw''⟩ := hw'
        subst hw''
        have B1 := B0.trans (z.below.mono B0.size)
        go_wp2_with fail
        go_ret
        exact ⟨rfl, B1⟩

end Fr
end Go.Proofs.Ytojkaaglmdfcnaa
