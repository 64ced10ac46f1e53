/- What Min, Max, Floor and Ceil return. -/
import Derived.Test.YtojkaaglmdfcnaaF6
namespace Go.Proofs.Ytojkaaglmdfcnaa
open Go.RowKit Go.Shelf
namespace Fr
set_option linter.unusedVariables false

theorem cmpI_lt {q r : Rat} (h : q < r) : cmpI q r = -1 := by
  unfold cmpI
  rw [if_neg (fun e => by rw [e] at h; exact Rat.lt_irrefl h), if_pos h]
theorem cmpI_gt {q r : Rat} (h : r < q) : cmpI q r = 1 := by
  unfold cmpI
  rw [if_neg (fun e => by rw [e] at h; exact Rat.lt_irrefl h), if_neg (Rat.not_lt.2 (Rat.le_of_lt h))]
theorem cmpI_self (q : Rat) : cmpI q q = 0 := by unfold cmpI; rw [if_pos rfl]
theorem cmpI_three (q r : Rat) : q < r ∧ cmpI q r = -1 ∨ q = r ∧ cmpI q r = 0 ∨ r < q ∧ cmpI q r = 1 := by
  by_cases h : q = r
  · exact .inr (.inl ⟨h, by rw [h]; exact cmpI_self r⟩)
  · by_cases h2 : q < r
    · exact .inl ⟨h2, cmpI_lt h2⟩
    · refine .inr (.inr ?_)
      have h3 : r < q := Rat.lt_of_le_of_ne (Rat.not_lt.1 h2) (Ne.symm h)
      exact ⟨h3, cmpI_gt h3⟩

theorem min_second {q r : Rat} {n d m k : Int} (ha : IsF q n d) (hb : IsF r m k) (h : r < q) (w : World) :
    Calls Try.prog 67 #[.agg #[.int .i64 n, .int .i64 d], .agg #[.int .i64 m, .int .i64 k]] w fun o w' => o = .returned (.agg #[.int .i64 m, .int .i64 k]) ∧ Below w.heap.size w w' := by
  have HC : Hid (∀ W : World, _) := Lib.hid (fun W => cmp_q hb ha W)
  rw [cmpI_lt h] at HC
  clear ha hb
  go_enter Try.func67, Try.ntmps67
  go_wp2_with fail
  have A0 := Args.start w (.int .i64 n) (.int .i64 d) (.int .i64 m) (.int .i64 k) (.int .i64 0) (.int .i64 0) 23 23 23
  refine (HC.out _).mono ?_
  rintro o w1 ⟨rfl, hb⟩
  have A1 := A0.keep hb
  clear A0 hb HC
  have a0 := A1.a.c0
  have a1 := A1.a.c1
  have b0 := A1.b.c0
  have b1 := A1.b.c1
  have r0 := A1.r.c0
  have r1 := A1.r.c1
  have f0 := A1.r.f0
  have f1 := A1.r.f1
  go_wp2_with fail
  have A2 := A1.r.set (.int .i64 m) (.int .i64 k)
  have s0 := A2.c0
  have s1 := A2.c1
  refine bodyPost_ret (v := .agg #[.int .i64 m, .int .i64 k]) (by simp [results, Try.results67, go_sem, s0, s1]) rfl ⟨rfl, below_set2 A1.below (by omega) _ _⟩

theorem min_first {q r : Rat} {n d m k : Int} (ha : IsF q n d) (hb : IsF r m k) (h : ¬ r < q) (w : World) :
    Calls Try.prog 67 #[.agg #[.int .i64 n, .int .i64 d], .agg #[.int .i64 m, .int .i64 k]] w fun o w' => o = .returned (.agg #[.int .i64 n, .int .i64 d]) ∧ Below w.heap.size w w' := by
  have HC : Hid (∀ W : World, _) := Lib.hid (fun W => cmp_q hb ha W)
  obtain ⟨x, hx, hx0⟩ : ∃ x : Int, cmpI r q = x ∧ 0 ≤ x := by
    rcases cmpI_three r q with h1 | h1 | h1
    · exact absurd h1.1 h
    · exact ⟨_, h1.2, by decide⟩
    · exact ⟨_, h1.2, by decide⟩
  rw [hx] at HC
  clear hx
  clear ha hb
  go_enter Try.func67, Try.ntmps67
  go_wp2_with fail
  have A0 := Args.start w (.int .i64 n) (.int .i64 d) (.int .i64 m) (.int .i64 k) (.int .i64 0) (.int .i64 0) 23 23 23
  refine (HC.out _).mono ?_
  rintro o w1 ⟨rfl, hb⟩
  have A1 := A0.keep hb
  clear A0 hb HC
  have a0 := A1.a.c0
  have a1 := A1.a.c1
  have b0 := A1.b.c0
  have b1 := A1.b.c1
  have r0 := A1.r.c0
  have r1 := A1.r.c1
  have f0 := A1.r.f0
  have f1 := A1.r.f1
  go_wp2_with fail
  have A2 := A1.r.set (.int .i64 n) (.int .i64 d)
  have s0 := A2.c0
  have s1 := A2.c1
  refine bodyPost_ret (v := .agg #[.int .i64 n, .int .i64 d]) (by simp [results, Try.results67, go_sem, s0, s1]) rfl ⟨rfl, below_set2 A1.below (by omega) _ _⟩

theorem max_second {q r : Rat} {n d m k : Int} (ha : IsF q n d) (hb : IsF r m k) (h : q < r) (w : World) :
    Calls Try.prog 68 #[.agg #[.int .i64 n, .int .i64 d], .agg #[.int .i64 m, .int .i64 k]] w fun o w' => o = .returned (.agg #[.int .i64 m, .int .i64 k]) ∧ Below w.heap.size w w' := by
  have HC : Hid (∀ W : World, _) := Lib.hid (fun W => cmp_q hb ha W)
  rw [cmpI_gt h] at HC
  clear ha hb
  go_enter Try.func68, Try.ntmps68
  go_wp2_with fail
  have A0 := Args.start w (.int .i64 n) (.int .i64 d) (.int .i64 m) (.int .i64 k) (.int .i64 0) (.int .i64 0) 23 23 23
  refine (HC.out _).mono ?_
  rintro o w1 ⟨rfl, hb⟩
  have A1 := A0.keep hb
  clear A0 hb HC
  have a0 := A1.a.c0
  have a1 := A1.a.c1
  have b0 := A1.b.c0
  have b1 := A1.b.c1
  have r0 := A1.r.c0
  have r1 := A1.r.c1
  have f0 := A1.r.f0
  have f1 := A1.r.f1
  go_wp2_with fail
  have A2 := A1.r.set (.int .i64 m) (.int .i64 k)
  have s0 := A2.c0
  have s1 := A2.c1
  refine bodyPost_ret (v := .agg #[.int .i64 m, .int .i64 k]) (by simp [results, Try.results68, go_sem, s0, s1]) rfl ⟨rfl, below_set2 A1.below (by omega) _ _⟩

theorem max_first {q r : Rat} {n d m k : Int} (ha : IsF q n d) (hb : IsF r m k) (h : ¬ q < r) (w : World) :
    Calls Try.prog 68 #[.agg #[.int .i64 n, .int .i64 d], .agg #[.int .i64 m, .int .i64 k]] w fun o w' => o = .returned (.agg #[.int .i64 n, .int .i64 d]) ∧ Below w.heap.size w w' := by
  have HC : Hid (∀ W : World, _) := Lib.hid (fun W => cmp_q hb ha W)
  obtain ⟨x, hx, hx0⟩ : ∃ x : Int, cmpI r q = x ∧ x ≤ 0 := by
    rcases cmpI_three r q with h1 | h1 | h1
    · exact ⟨_, h1.2, by decide⟩
    · exact ⟨_, h1.2, by decide⟩
    · exact absurd h1.1 h
  rw [hx] at HC
  clear hx
  clear ha hb
  go_enter Try.func68, Try.ntmps68
  go_wp2_with fail
  have A0 := Args.start w (.int .i64 n) (.int .i64 d) (.int .i64 m) (.int .i64 k) (.int .i64 0) (.int .i64 0) 23 23 23
  refine (HC.out _).mono ?_
  rintro o w1 ⟨rfl, hb⟩
  have A1 := A0.keep hb
  clear A0 hb HC
  have a0 := A1.a.c0
  have a1 := A1.a.c1
  have b0 := A1.b.c0
  have b1 := A1.b.c1
  have r0 := A1.r.c0
  have r1 := A1.r.c1
  have f0 := A1.r.f0
  have f1 := A1.r.f1
  go_wp2_with fail
  have A2 := A1.r.set (.int .i64 n) (.int .i64 d)
  have s0 := A2.c0
  have s1 := A2.c1
  refine bodyPost_ret (v := .agg #[.int .i64 n, .int .i64 d]) (by simp [results, Try.results68, go_sem, s0, s1]) rfl ⟨rfl, below_set2 A1.below (by omega) _ _⟩

end Fr
end Go.Proofs.Ytojkaaglmdfcnaa
