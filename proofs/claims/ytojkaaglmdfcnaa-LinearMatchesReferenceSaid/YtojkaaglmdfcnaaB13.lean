/- Statement FractionMatchesReference: what the reference's Min, Max, Floor and Ceil return; the walk. -/
import Derived.Test.YtojkaaglmdfcnaaB14
import Derived.Deep.DeepCutAuto
namespace Go.Proofs.Ytojkaaglmdfcnaa
open Go.RowKit Go.Shelf
namespace Fr
set_option linter.unusedVariables false

theorem rmin_second {q r : Rat} {n d m k : Int} (ha : IsF q n d) (hb : IsF r m k) (h : r < q) (w : World) :
    Calls Try.prog 54 #[.agg #[.int .i64 n, .int .i64 d], .agg #[.int .i64 m, .int .i64 k]] w fun o w' => o = .returned (.agg #[.int .i64 m, .int .i64 k]) ∧ Below w.heap.size w w' := by
  have HC : Hid (∀ W : World, _) := Lib.hid (fun W => rcmp_q hb ha W)
  rw [cmpI_lt h] at HC
  clear ha hb
  go_enter Try.func54, Try.ntmps54
  go_wp2_with fail
  have A0 := Args.start w (.int .i64 n) (.int .i64 d) (.int .i64 m) (.int .i64 k) (.int .i64 0) (.int .i64 0) 23 23 23
  refine (HC.out _).mono ?_
  rintro o w1 ⟨rfl, hb⟩
  have A1 := A0.keep hb
  clear A0 hb HC
  have a0 := A1.a.c0
  have a1 := A1.a.c1
  have b0 := A1.b.c0
  have b1 := A1.b.c1
  have r0 := A1.r.c0
  have r1 := A1.r.c1
  have f0 := A1.r.f0
  have f1 := A1.r.f1
  go_wp2_with fail
  have A2 := A1.r.set (.int .i64 m) (.int .i64 k)
  have s0 := A2.c0
  have s1 := A2.c1
  refine bodyPost_ret (v := .agg #[.int .i64 m, .int .i64 k]) (by simp [results, Try.results54, go_sem, s0, s1]) rfl ⟨rfl, below_set2 A1.below (by omega) _ _⟩

theorem rmin_first {q r : Rat} {n d m k : Int} (ha : IsF q n d) (hb : IsF r m k) (h : ¬ r < q) (w : World) :
    Calls Try.prog 54 #[.agg #[.int .i64 n, .int .i64 d], .agg #[.int .i64 m, .int .i64 k]] w fun o w' => o = .returned (.agg #[.int .i64 n, .int .i64 d]) ∧ Below w.heap.size w w' := by
  have HC : Hid (∀ W : World, _) := Lib.hid (fun W => rcmp_q hb ha W)
  obtain ⟨x, hx, hx0⟩ : ∃ x : Int, cmpI r q = x ∧ 0 ≤ x := by
    rcases cmpI_three r q with h1 | h1 | h1
    · exact absurd h1.1 h
    · exact ⟨_, h1.2, by decide⟩
    · exact ⟨_, h1.2, by decide⟩
  rw [hx] at HC
  clear hx
  clear ha hb
  go_enter Try.func54, Try.ntmps54
  go_wp2_with fail
  have A0 := Args.start w (.int .i64 n) (.int .i64 d) (.int .i64 m) (.int .i64 k) (.int .i64 0) (.int .i64 0) 23 23 23
  refine (HC.out _).mono ?_
  rintro o w1 ⟨rfl, hb⟩
  have A1 := A0.keep hb
  clear A0 hb HC
  have a0 := A1.a.c0
  have a1 := A1.a.c1
  have b0 := A1.b.c0
  have b1 := A1.b.c1
  have r0 := A1.r.c0
  have r1 := A1.r.c1
  have f0 := A1.r.f0
  have f1 := A1.r.f1
  go_wp2_with fail
  have A2 := A1.r.set (.int .i64 n) (.int .i64 d)
  have s0 := A2.c0
  have s1 := A2.c1
  refine bodyPost_ret (v := .agg #[.int .i64 n, .int .i64 d]) (by simp [results, Try.results54, go_sem, s0, s1]) rfl ⟨rfl, below_set2 A1.below (by omega) _ _⟩

theorem rmax_second {q r : Rat} {n d m k : Int} (ha : IsF q n d) (hb : IsF r m k) (h : q < r) (w : World) :
    Calls Try.prog 55 #[.agg #[.int .i64 n, .int .i64 d], .agg #[.int .i64 m, .int .i64 k]] w fun o w' => o = .returned (.agg #[.int .i64 m, .int .i64 k]) ∧ Below w.heap.size w w' := by
  have HC : Hid (∀ W : World, _) := Lib.hid (fun W => rcmp_q hb ha W)
  rw [cmpI_gt h] at HC
  clear ha hb
  go_enter Try.func55, Try.ntmps55
  go_wp2_with fail
  have A0 := Args.start w (.int .i64 n) (.int .i64 d) (.int .i64 m) (.int .i64 k) (.int .i64 0) (.int .i64 0) 23 23 23
  refine (HC.out _).mono ?_
  rintro o w1 ⟨rfl, hb⟩
  have A1 := A0.keep hb
  clear A0 hb HC
  have a0 := A1.a.c0
  have a1 := A1.a.c1
  have b0 := A1.b.c0
  have b1 := A1.b.c1
  have r0 := A1.r.c0
  have r1 := A1.r.c1
  have f0 := A1.r.f0
  have f1 := A1.r.f1
  go_wp2_with fail
  have A2 := A1.r.set (.int .i64 m) (.int .i64 k)
  have s0 := A2.c0
  have s1 := A2.c1
  refine bodyPost_ret (v := .agg #[.int .i64 m, .int .i64 k]) (by simp [results, Try.results55, go_sem, s0, s1]) rfl ⟨rfl, below_set2 A1.below (by omega) _ _⟩

theorem rmax_first {q r : Rat} {n d m k : Int} (ha : IsF q n d) (hb : IsF r m k) (h : ¬ q < r) (w : World) :
    Calls Try.prog 55 #[.agg #[.int .i64 n, .int .i64 d], .agg #[.int .i64 m, .int .i64 k]] w fun o w' => o = .returned (.agg #[.int .i64 n, .int .i64 d]) ∧ Below w.heap.size w w' := by
  have HC : Hid (∀ W : World, _) := Lib.hid (fun W => rcmp_q hb ha W)
  obtain ⟨x, hx, hx0⟩ : ∃ x : Int, cmpI r q = x ∧ x ≤ 0 := by
    rcases cmpI_three r q with h1 | h1 | h1
    · exact ⟨_, h1.2, by decide⟩
    · exact ⟨_, h1.2, by decide⟩
    · exact absurd h1.1 h
  rw [hx] at HC
  clear hx
  clear ha hb
  go_enter Try.func55, Try.ntmps55
  go_wp2_with fail
  have A0 := Args.start w (.int .i64 n) (.int .i64 d) (.int .i64 m) (.int .i64 k) (.int .i64 0) (.int .i64 0) 23 23 23
  refine (HC.out _).mono ?_
  rintro o w1 ⟨rfl, hb⟩
  have A1 := A0.keep hb
  clear A0 hb HC
  have a0 := A1.a.c0
  have a1 := A1.a.c1
  have b0 := A1.b.c0
  have b1 := A1.b.c1
  have r0 := A1.r.c0
  have r1 := A1.r.c1
  have f0 := A1.r.f0
  have f1 := A1.r.f1
  go_wp2_with fail
  have A2 := A1.r.set (.int .i64 n) (.int .i64 d)
  have s0 := A2.c0
  have s1 := A2.c1
  refine bodyPost_ret (v := .agg #[.int .i64 n, .int .i64 d]) (by simp [results, Try.results55, go_sem, s0, s1]) rfl ⟨rfl, below_set2 A1.below (by omega) _ _⟩

/-- A fraction that fits is valid. -/
theorem mt_own {q : Rat} {n d : Int} (h : IsF q n d) (W : World) : Calls Try.prog 49 #[.agg #[.int .i64 n, .int .i64 d]] W fun o w' => o = .returned (.bool true) ∧ Below W.heap.size W w' := by
  have := valid_any n d W h.n62.i64 h.d62.i64
  rwa [(validB_iff n d).2 ⟨q, h⟩] at this


set_option maxHeartbeats 1000000 in
theorem rvalid_low (n d : Int) (w : World) (h : decide (1 ≤ d) = false ∨ decide (1 ≤ d) = true ∧ decide (d ≤ 4611686018427387904) = false ∨ decide (1 ≤ d) = true ∧ decide (d ≤ 4611686018427387904) = true ∧ decide (-4611686018427387904 ≤ n) = false) :
    Calls Try.prog 41 #[.agg #[.int .i64 n, .int .i64 d]] w fun o w' => o = .returned (.bool false) ∧ Below w.heap.size w w' := by
  have hm : IntKind.i64.wrap (-4611686018427387904) = -4611686018427387904 := by decide
  rcases h with h | ⟨h1, h⟩ | ⟨h1, h2, h⟩
  all_goals
    go_enter Try.func41, Try.ntmps41
    go_wp2_with fail
    have A0 := Box2.new w (.int .i64 n) (.int .i64 d) 23
    have B0 := (Below.refl w.heap.size w).alloc (Nat.le_refl _) (.cells #[.int .i64 n, .int .i64 d] 23)
    generalize w.alloc (.cells #[.int .i64 n, .int .i64 d] 23) = W0 at *
    obtain ⟨x0, x1⟩ := A0.later
    clear A0
    refine wp_region_later (by kernel_rfl) (by kernel_rfl) ?_
    repeat (go_big_quiet_step ((first | (go_at_call 70; with_reducible exact later_same (most_any _)))))
    refine wpQuiet_nil ?_
    intro _ hw'
    obtain ⟨z, hw''⟩ := hw'
    subst hw''
    have B1 := B0.trans (z.below.mono B0.size)
    go_wp2_with fail
    go_ret
    exact ⟨rfl, B1⟩

theorem rvalid_all (n d : Int) (w : World) (h1 : I64 n) (h2 : I64 d) :
    Calls Try.prog 41 #[.agg #[.int .i64 n, .int .i64 d]] w fun o w' => o = .returned (.bool (validB n d)) ∧ Below w.heap.size w w' := by
  unfold I64 at h1 h2
  by_cases h : -9223372036854775808 < n ∧ 1 ≤ d
  · exact rvalid_any n d w ⟨h.1, h1.2⟩ ⟨by omega, h2.2⟩
  · rw [validB_false (by omega)]
    refine rvalid_low n d w ?_
    by_cases hd : 1 ≤ d
    · by_cases hd2 : d ≤ 4611686018427387904
      · exact .inr (.inr ⟨by simpa using hd, by simpa using hd2, by simp; omega⟩)
      · exact .inr (.inl ⟨by simpa using hd, by simpa using hd2⟩)
    · exact .inl (by simpa using hd)

section
variable {A B : Rat} {an ad bn bd : Int}
theorem mt_cmp (ha : IsF A an ad) (hb : IsF B bn bd) : ∃ N : Int, (∀ W : World, Calls Try.prog 50 #[.agg #[.int .i64 an, .int .i64 ad], .agg #[.int .i64 bn, .int .i64 bd]] W fun o w' => o = .returned (.int .i64 N) ∧ Below W.heap.size W w') ∧ (∀ W : World, Calls Try.prog 51 #[.agg #[.int .i64 an, .int .i64 ad], .agg #[.int .i64 bn, .int .i64 bd]] W fun o w' => o = .returned (.int .i64 N) ∧ Below W.heap.size W w') :=
  ⟨cmpI A B, cmp_q ha hb, rcmp_q ha hb⟩
theorem mt_min (ha : IsF A an ad) (hb : IsF B bn bd) : ∃ N D : Int, (∀ W : World, Calls Try.prog 67 #[.agg #[.int .i64 an, .int .i64 ad], .agg #[.int .i64 bn, .int .i64 bd]] W fun o w' => o = .returned (.agg #[.int .i64 N, .int .i64 D]) ∧ Below W.heap.size W w') ∧ (∀ W : World, Calls Try.prog 54 #[.agg #[.int .i64 an, .int .i64 ad], .agg #[.int .i64 bn, .int .i64 bd]] W fun o w' => o = .returned (.agg #[.int .i64 N, .int .i64 D]) ∧ Below W.heap.size W w') := by
  by_cases h : B < A
  · exact ⟨bn, bd, min_second ha hb h, rmin_second ha hb h⟩
  · exact ⟨an, ad, min_first ha hb h, rmin_first ha hb h⟩
theorem mt_max (ha : IsF A an ad) (hb : IsF B bn bd) : ∃ N D : Int, (∀ W : World, Calls Try.prog 68 #[.agg #[.int .i64 an, .int .i64 ad], .agg #[.int .i64 bn, .int .i64 bd]] W fun o w' => o = .returned (.agg #[.int .i64 N, .int .i64 D]) ∧ Below W.heap.size W w') ∧ (∀ W : World, Calls Try.prog 55 #[.agg #[.int .i64 an, .int .i64 ad], .agg #[.int .i64 bn, .int .i64 bd]] W fun o w' => o = .returned (.agg #[.int .i64 N, .int .i64 D]) ∧ Below W.heap.size W w') := by
  by_cases h : A < B
  · exact ⟨bn, bd, max_second ha hb h, rmax_second ha hb h⟩
  · exact ⟨an, ad, max_first ha hb h, rmax_first ha hb h⟩
end
theorem mt_valid (n d : Int) (h1 : I64 n) (h2 : I64 d) : ∃ b : Bool, (∀ W : World, Calls Try.prog 49 #[.agg #[.int .i64 n, .int .i64 d]] W fun o w' => o = .returned (.bool b) ∧ Below W.heap.size W w') ∧ (∀ W : World, Calls Try.prog 41 #[.agg #[.int .i64 n, .int .i64 d]] W fun o w' => o = .returned (.bool b) ∧ Below W.heap.size W w') :=
  ⟨validB n d, fun W => valid_any n d W h1 h2, fun W => rvalid_all n d W h1 h2⟩

end Fr
end Go.Proofs.Ytojkaaglmdfcnaa
