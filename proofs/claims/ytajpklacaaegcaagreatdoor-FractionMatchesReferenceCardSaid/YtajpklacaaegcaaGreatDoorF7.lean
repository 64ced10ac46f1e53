/- What Min, Max, Floor and Ceil return. -/
import Derived.Test.YtajpklacaaegcaaGreatDoorF6
namespace Go.Proofs.YtajpklacaaegcaaGreatDoor
open Go.RowKit Go.Shelf
namespace Fr
set_option linter.unusedVariables false

theorem cmpI_lt {q r : Rat} (h : q < r) : cmpI q r = -1 := by
  unfold cmpI
  rw [if_neg (fun e => by rw [e] at h; exact Rat.lt_irrefl h), if_pos h]
theorem cmpI_gt {q r : Rat} (h : r < q) : cmpI q r = 1 := by
  unfold cmpI
  rw [if_neg (fun e => by rw [e] at h; exact Rat.lt_irrefl h), if_neg (Rat.not_lt.2 (Rat.le_of_lt h))]
theorem cmpI_self (q : Rat) : cmpI q q = 0 := by unfold cmpI; rw [if_pos rfl]
theorem cmpI_three (q r : Rat) : q < r ∧ cmpI q r = -1 ∨ q = r ∧ cmpI q r = 0 ∨ r < q ∧ cmpI q r = 1 := by
  by_cases h : q = r
  · exact .inr (.inl ⟨h, by rw [h]; exact cmpI_self r⟩)
  · by_cases h2 : q < r
    · exact .inl ⟨h2, cmpI_lt h2⟩
    · refine .inr (.inr ?_)
      have h3 : r < q := Rat.lt_of_le_of_ne (Rat.not_lt.1 h2) (Ne.symm h)
      exact ⟨h3, cmpI_gt h3⟩

theorem min_second {q r : Rat} {n d m k : Int} (ha : IsF q n d) (hb : IsF r m k) (h : r < q) (w : World) :
    Calls Tryz.prog 26 #[.agg #[.int .i64 n, .int .i64 d], .agg #[.int .i64 m, .int .i64 k]] w fun o w' => o = .returned (.agg #[.int .i64 m, .int .i64 k]) ∧ Below w.heap.size w w' := by
  have HC : Hid (∀ W : World, _) := Lib.hid (fun W => cmp_q hb ha W)
  rw [cmpI_lt h] at HC
  clear ha hb
  go_enter Tryz.func26, Tryz.ntmps26
  go_wp2_with fail
  have A0 := Args.start w (.int .i64 n) (.int .i64 d) (.int .i64 m) (.int .i64 k) (.int .i64 0) (.int .i64 0) 25 25 25
  refine (HC.out _).mono ?_
  rintro o w1 ⟨rfl, hb⟩
  have A1 := A0.keep hb
  clear A0 hb HC
  have a0 := A1.a.c0
  have a1 := A1.a.c1
  have b0 := A1.b.c0
  have b1 := A1.b.c1
  have r0 := A1.r.c0
  have r1 := A1.r.c1
  have f0 := A1.r.f0
  have f1 := A1.r.f1
  go_wp2_with fail
  have A2 := A1.r.set (.int .i64 m) (.int .i64 k)
  have s0 := A2.c0
  have s1 := A2.c1
  refine bodyPost_ret (v := .agg #[.int .i64 m, .int .i64 k]) (by simp [results, Tryz.results26, go_sem, s0, s1]) rfl ⟨rfl, below_set2 A1.below (by omega) _ _⟩

theorem min_first {q r : Rat} {n d m k : Int} (ha : IsF q n d) (hb : IsF r m k) (h : ¬ r < q) (w : World) :
    Calls Tryz.prog 26 #[.agg #[.int .i64 n, .int .i64 d], .agg #[.int .i64 m, .int .i64 k]] w fun o w' => o = .returned (.agg #[.int .i64 n, .int .i64 d]) ∧ Below w.heap.size w w' := by
  have HC : Hid (∀ W : World, _) := Lib.hid (fun W => cmp_q hb ha W)
  obtain ⟨x, hx, hx0⟩ : ∃ x : Int, cmpI r q = x ∧ 0 ≤ x := by
    rcases cmpI_three r q with h1 | h1 | h1
    · exact absurd h1.1 h
    · exact ⟨_, h1.2, by decide⟩
    · exact ⟨_, h1.2, by decide⟩
  rw [hx] at HC
  clear hx
  clear ha hb
  go_enter Tryz.func26, Tryz.ntmps26
  go_wp2_with fail
  have A0 := Args.start w (.int .i64 n) (.int .i64 d) (.int .i64 m) (.int .i64 k) (.int .i64 0) (.int .i64 0) 25 25 25
  refine (HC.out _).mono ?_
  rintro o w1 ⟨rfl, hb⟩
  have A1 := A0.keep hb
  clear A0 hb HC
  have a0 := A1.a.c0
  have a1 := A1.a.c1
  have b0 := A1.b.c0
  have b1 := A1.b.c1
  have r0 := A1.r.c0
  have r1 := A1.r.c1
  have f0 := A1.r.f0
  have f1 := A1.r.f1
  go_wp2_with fail
  have A2 := A1.r.set (.int .i64 n) (.int .i64 d)
  have s0 := A2.c0
  have s1 := A2.c1
  refine bodyPost_ret (v := .agg #[.int .i64 n, .int .i64 d]) (by simp [results, Tryz.results26, go_sem, s0, s1]) rfl ⟨rfl, below_set2 A1.below (by omega) _ _⟩

theorem max_second {q r : Rat} {n d m k : Int} (ha : IsF q n d) (hb : IsF r m k) (h : q < r) (w : World) :
    Calls Tryz.prog 28 #[.agg #[.int .i64 n, .int .i64 d], .agg #[.int .i64 m, .int .i64 k]] w fun o w' => o = .returned (.agg #[.int .i64 m, .int .i64 k]) ∧ Below w.heap.size w w' := by
  have HC : Hid (∀ W : World, _) := Lib.hid (fun W => cmp_q hb ha W)
  rw [cmpI_gt h] at HC
  clear ha hb
  go_enter Tryz.func28, Tryz.ntmps28
  go_wp2_with fail
  have A0 := Args.start w (.int .i64 n) (.int .i64 d) (.int .i64 m) (.int .i64 k) (.int .i64 0) (.int .i64 0) 25 25 25
  refine (HC.out _).mono ?_
  rintro o w1 ⟨rfl, hb⟩
  have A1 := A0.keep hb
  clear A0 hb HC
  have a0 := A1.a.c0
  have a1 := A1.a.c1
  have b0 := A1.b.c0
  have b1 := A1.b.c1
  have r0 := A1.r.c0
  have r1 := A1.r.c1
  have f0 := A1.r.f0
  have f1 := A1.r.f1
  go_wp2_with fail
  have A2 := A1.r.set (.int .i64 m) (.int .i64 k)
  have s0 := A2.c0
  have s1 := A2.c1
  refine bodyPost_ret (v := .agg #[.int .i64 m, .int .i64 k]) (by simp [results, Tryz.results28, go_sem, s0, s1]) rfl ⟨rfl, below_set2 A1.below (by omega) _ _⟩

theorem max_first {q r : Rat} {n d m k : Int} (ha : IsF q n d) (hb : IsF r m k) (h : ¬ q < r) (w : World) :
    Calls Tryz.prog 28 #[.agg #[.int .i64 n, .int .i64 d], .agg #[.int .i64 m, .int .i64 k]] w fun o w' => o = .returned (.agg #[.int .i64 n, .int .i64 d]) ∧ Below w.heap.size w w' := by
  have HC : Hid (∀ W : World, _) := Lib.hid (fun W => cmp_q hb ha W)
  obtain ⟨x, hx, hx0⟩ : ∃ x : Int, cmpI r q = x ∧ x ≤ 0 := by
    rcases cmpI_three r q with h1 | h1 | h1
    · exact ⟨_, h1.2, by decide⟩
    · exact ⟨_, h1.2, by decide⟩
    · exact absurd h1.1 h
  rw [hx] at HC
  clear hx
  clear ha hb
  go_enter Tryz.func28, Tryz.ntmps28
  go_wp2_with fail
  have A0 := Args.start w (.int .i64 n) (.int .i64 d) (.int .i64 m) (.int .i64 k) (.int .i64 0) (.int .i64 0) 25 25 25
  refine (HC.out _).mono ?_
  rintro o w1 ⟨rfl, hb⟩
  have A1 := A0.keep hb
  clear A0 hb HC
  have a0 := A1.a.c0
  have a1 := A1.a.c1
  have b0 := A1.b.c0
  have b1 := A1.b.c1
  have r0 := A1.r.c0
  have r1 := A1.r.c1
  have f0 := A1.r.f0
  have f1 := A1.r.f1
  go_wp2_with fail
  have A2 := A1.r.set (.int .i64 n) (.int .i64 d)
  have s0 := A2.c0
  have s1 := A2.c1
  refine bodyPost_ret (v := .agg #[.int .i64 n, .int .i64 d]) (by simp [results, Tryz.results28, go_sem, s0, s1]) rfl ⟨rfl, below_set2 A1.below (by omega) _ _⟩

theorem floor_any (n d : Int) (w : World) (hn : I64 n) (hd : 0 < d) (hd2 : d ≤ 9223372036854775807) (hlow : -9223372036854775808 < n) :
    Calls Tryz.prog 20 #[.agg #[.int .i64 n, .int .i64 d]] w fun o w' => o = .returned (.int .i64 (n / d)) ∧ Below w.heap.size w w' := by
  have hmax : max d 1 = d := by omega
  have hb0 : (d == 0) = false := by simp; omega
  have hq := Int.tdiv_eq_ediv (a := n) (b := d)
  have hr := Int.tmod_eq_emod (a := n) (b := d)
  have hm0 := Int.emod_nonneg n (b := d) (by omega)
  have hm1 := Int.emod_lt_of_pos n hd
  have hs : d.sign = 1 := Int.sign_eq_one_of_pos hd
  have hab : (d.natAbs : Int) = d := by omega
  have hbound : -9223372036854775807 ≤ n / d ∧ n / d ≤ 9223372036854775807 := by
    unfold I64 at hn
    by_cases h0 : 0 ≤ n
    · exact ⟨by have := Int.ediv_nonneg h0 (by omega : 0 ≤ d); omega, by have := Int.ediv_le_self d h0; omega⟩
    · have h1 : n / d < 0 := Int.ediv_neg_of_neg_of_pos (by omega) hd
      have h2 : n ≤ n / d := by
        refine Int.le_ediv_of_mul_le hd ?_
        have : n * d ≤ n * 1 := Int.mul_le_mul_of_nonpos_left (by omega) (by omega)
        omega
      omega
  by_cases hc : 0 ≤ n ∨ d ∣ n
  · rw [if_pos hc] at hq hr
    have hqw : IntKind.i64.wrap (n.tdiv d) = n / d := by rw [hq, Int.add_zero]; exact IntWalk.i64_in _ (by omega)
    have hrr : n.tmod d = n % d := by omega
    have HR : Hid (0 ≤ n % d ∧ n % d < d) := Lib.hid ⟨hm0, hm1⟩
    obtain ⟨Q, hQ⟩ : ∃ Q, n / d = Q := ⟨_, rfl⟩
    obtain ⟨R, hR⟩ : ∃ R, n % d = R := ⟨_, rfl⟩
    rw [hQ] at hqw hbound ⊢
    rw [hR] at hrr hm0 hm1
    clear hq hr hs hab hc hn hd hQ hR HR hlow
    go_enter Tryz.func20, Tryz.ntmps20
    go_wp2
    go_ret
    exact ⟨rfl, (Below.refl _ w).alloc (Nat.le_refl _) _⟩
  · rw [if_neg hc] at hq hr
    have hpos : 0 < n % d := by
      have : n % d ≠ 0 := fun h => hc (.inr (Int.dvd_of_emod_eq_zero h))
      omega
    have hneg : n / d < 0 := Int.ediv_neg_of_neg_of_pos (by omega) hd
    have hqw : IntKind.i64.wrap (n.tdiv d) = n / d + 1 := by
      rw [hq, hs]
      generalize n / d = Q at *
      exact IntWalk.i64_in _ (by omega)
    have hrr : n.tmod d = n % d - d := by omega
    obtain ⟨Q, hQ⟩ : ∃ Q, n / d = Q := ⟨_, rfl⟩
    obtain ⟨R, hR⟩ : ∃ R, n % d - d = R := ⟨_, rfl⟩
    have hRneg : R < 0 := by omega
    have hRlow : -9223372036854775807 ≤ R := by omega
    rw [hQ] at hqw hbound hneg ⊢
    rw [hR] at hrr
    clear hq hr hs hab hc hn hd hQ hR hlow hm0 hm1 hpos
    go_enter Tryz.func20, Tryz.ntmps20
    go_wp2
    go_ret
    exact ⟨ret_int (by omega), (Below.refl _ w).alloc (Nat.le_refl _) _⟩

theorem ceil_any (n d : Int) (w : World) (hn : I62 n) (hd : 0 < d) (hd2 : d ≤ 9223372036854775807) :
    Calls Tryz.prog 22 #[.agg #[.int .i64 n, .int .i64 d]] w fun o w' => o = .returned (.int .i64 (-((-n) / d))) ∧ Below w.heap.size w w' := by
  have HF : Hid (∀ W : World, _) := Lib.hid (fun W => floor_any (-n) d W (by unfold I62 at hn; unfold I64; omega) hd hd2 (by unfold I62 at hn; omega))
  have hnw : IntKind.i64.wrap (-n) = -n := IntWalk.i64_in _ (by unfold I62 at hn; omega)
  have hbound : -4611686018427387904 ≤ (-n) / d ∧ (-n) / d ≤ 4611686018427387904 := by
    unfold I62 at hn
    by_cases h0 : 0 ≤ -n
    · exact ⟨by have := Int.ediv_nonneg h0 (by omega : 0 ≤ d); omega, by have := Int.ediv_le_self d h0; omega⟩
    · have h1 : (-n) / d < 0 := Int.ediv_neg_of_neg_of_pos (by omega) hd
      have h2 : -n ≤ (-n) / d := by
        refine Int.le_ediv_of_mul_le hd ?_
        have : (-n) * d ≤ (-n) * 1 := Int.mul_le_mul_of_nonpos_left (by omega) (by omega)
        omega
      omega
  obtain ⟨Q, hQ⟩ : ∃ Q, (-n) / d = Q := ⟨_, rfl⟩
  rw [hQ] at HF hbound ⊢
  unfold I62 at hn
  clear hQ hd hd2
  go_enter Tryz.func22, Tryz.ntmps22
  go_wp2_with fail
  refine (HF.out _).mono ?_
  rintro o w1 ⟨rfl, hb⟩
  go_wp2_with fail
  go_ret
  exact ⟨ret_int (by omega), ((Below.refl _ w).alloc (Nat.le_refl _) _).trans (hb.mono (by simp))⟩

end Fr
end Go.Proofs.YtajpklacaaegcaaGreatDoor
