/- What the law's powers of 2 return; their products, quotients and sums. -/
import Derived.Test.YtcecdmooojkmoaaDoorM4
import Derived.Test.YtcecdmooojkmoaaDoorP5
namespace Go.Proofs.YtcecdmooojkmoaaDoor
open Go.RowKit Go.Shelf Go.Sort
namespace Fr
set_option linter.unusedVariables false

theorem in_range {n : Int} (h : -62 ≤ n ∧ n ≤ 62) : ∃ i, i ∈ List.range 125 ∧ ((i : Int) - 62) = n := ⟨(n + 62).toNat, by rw [List.mem_range]; omega, by omega⟩
theorem isF_pw {n : Int} (h : -62 ≤ n ∧ n ≤ 62) : IsF (pw n) (wN n) (wD n) := by
  obtain ⟨i, hi, rfl⟩ := in_range h
  have := List.all_eq_true.1 chkF_all i hi
  simp only [chkF, Bool.and_eq_true, beq_iff_eq, decide_eq_true_eq] at this
  exact ⟨this.1.1, this.1.2, by unfold Fit; omega⟩
theorem chk2_at {a b : Int} (ha : -62 ≤ a ∧ a ≤ 62) (hb : -62 ≤ b ∧ b ≤ 62) : chk2 a b = true := by
  obtain ⟨i, hi, rfl⟩ := in_range ha
  obtain ⟨j, hj, rfl⟩ := in_range hb
  exact List.all_eq_true.1 (List.all_eq_true.1 chk2_all i hi) j hj

/-- A result that is a power of 2, or too great. -/
theorem chkP_cases {x : Rat} {s : Int} (h : chkP x s = true) : (decide (-62 ≤ s) = true ∧ decide (s ≤ 62) = true ∧ rE x = 0 ∧ rN x = wN s ∧ rD x = wD s ∧ -62 ≤ s ∧ s ≤ 62) ∨ (decide (-62 ≤ s) = false ∧ rE x = 2) ∨ (decide (-62 ≤ s) = true ∧ decide (s ≤ 62) = false ∧ rE x = 2) := by
  unfold chkP inB at h
  by_cases h1 : -62 ≤ s
  · by_cases h2 : s ≤ 62
    · simp [h1, h2] at h
      exact .inl ⟨by simpa using h1, by simpa using h2, h.1.1, h.1.2, h.2, h1, h2⟩
    · simp [h1, h2] at h
      exact .inr (.inr ⟨by simpa using h1, by simp; omega, h⟩)
  · simp [h1] at h
    exact .inr (.inl ⟨by simp; omega, h⟩)

theorem pw_small : ∀ m : Nat, m ≤ 62 → IntKind.i64.wrap (2 ^ m) = 2 ^ m := by
  intro m h
  have h1 : (2 : Nat) ^ m ≤ 2 ^ 62 := Nat.pow_le_pow_right (by decide) h
  have h2 : (0 : Nat) < 2 ^ m := Nat.pow_pos (by decide)
  have h3 : ((2 ^ m : Nat) : Int) = (2 : Int) ^ m := Int.natCast_pow 2 m
  exact IntWalk.i64_in _ (by omega)

theorem power_neg (m : Nat) (h1 : 1 ≤ m) (h2 : m ≤ 62) (w : World) :
    Calls Tryd.prog 27 #[.int .i64 (-m)] w fun o w' => o = .returned (.agg #[.int .i64 1, .int .i64 (2 ^ m)]) ∧ Below w.heap.size w w' := by
  have hp := pw_small m h2
  have hn : IntKind.i64.wrap (-(-(m : Int))) = m := by rw [Int.neg_neg]; exact IntWalk.i64_in _ (by omega)
  have hlt : decide (-(m : Int) < 0) = true := by simp; omega
  go_enter Tryd.func27, Tryd.ntmps27
  go_wp2_with fail
  have A2 := Box2.new w (.int .i64 1) (.int .i64 (2 ^ m)) 25
  have s0 := A2.c0
  have s1 := A2.c1
  refine bodyPost_ret (v := .agg #[.int .i64 1, .int .i64 (2 ^ m)]) (by simp [results, Tryd.results27, go_sem, s0, s1]) rfl ⟨rfl, (Below.refl _ w).alloc (Nat.le_refl _) _⟩

theorem power_pos (m : Nat) (h2 : m ≤ 62) (w : World) :
    Calls Tryd.prog 27 #[.int .i64 m] w fun o w' => o = .returned (.agg #[.int .i64 (2 ^ m), .int .i64 1]) ∧ Below w.heap.size w w' := by
  have hp := pw_small m h2
  have hlt : decide ((m : Int) < 0) = false := by simp
  go_enter Tryd.func27, Tryd.ntmps27
  go_wp2_with fail
  have A2 := Box2.new w (.int .i64 (2 ^ m)) (.int .i64 1) 25
  have s0 := A2.c0
  have s1 := A2.c1
  refine bodyPost_ret (v := .agg #[.int .i64 (2 ^ m), .int .i64 1]) (by simp [results, Tryd.results27, go_sem, s0, s1]) rfl ⟨rfl, (Below.refl _ w).alloc (Nat.le_refl _) _⟩

theorem power_any {n : Int} (h : -62 ≤ n ∧ n ≤ 62) (w : World) :
    Calls Tryd.prog 27 #[.int .i64 n] w fun o w' => o = .returned (.agg #[.int .i64 (wN n), .int .i64 (wD n)]) ∧ Below w.heap.size w w' := by
  unfold wN wD
  by_cases h0 : n < 0
  · rw [if_pos h0, if_pos h0]
    have := power_neg (-n).toNat (by omega) (by omega) w
    have e : -(((-n).toNat : Nat) : Int) = n := by omega
    rwa [e] at this
  · rw [if_neg h0, if_neg h0]
    have := power_pos n.toNat (by omega) w
    have e : ((n.toNat : Nat) : Int) = n := by omega
    rwa [e] at this

end Fr
end Go.Proofs.YtcecdmooojkmoaaDoor
