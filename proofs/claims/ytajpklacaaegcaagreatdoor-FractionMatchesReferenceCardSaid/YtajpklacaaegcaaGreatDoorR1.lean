/- Statement FractionMatchesReference: what the reference's Min, Max, Floor and Ceil return; the walk. -/
import Derived.Test.YtajpklacaaegcaaGreatDoorB12
import Derived.Test.YtajpklacaaegcaaGreatDoorP7
import Derived.Test.YtajpklacaaegcaaGreatDoorP5
import Derived.Deep.DeepCutAuto
namespace Go.Proofs.YtajpklacaaegcaaGreatDoor
open Go.RowKit Go.Shelf Go.Sort
namespace Fr
set_option linter.unusedVariables false

theorem rmin_second {q r : Rat} {n d m k : Int} (ha : IsF q n d) (hb : IsF r m k) (h : r < q) (w : World) :
    Calls Tryz.prog 27 #[.agg #[.int .i64 n, .int .i64 d], .agg #[.int .i64 m, .int .i64 k]] w fun o w' => o = .returned (.agg #[.int .i64 m, .int .i64 k]) ∧ Below w.heap.size w w' := by
  have HC : Hid (∀ W : World, _) := Lib.hid (fun W => rcmp_q hb ha W)
  rw [cmpI_lt h] at HC
  clear ha hb
  go_enter Tryz.func27, Tryz.ntmps27
  go_wp2_with fail
  have A0 := Args.start w (.int .i64 n) (.int .i64 d) (.int .i64 m) (.int .i64 k) (.int .i64 0) (.int .i64 0) 25 25 25
  refine (HC.out _).mono ?_
  rintro o w1 ⟨rfl, hb⟩
  have A1 := A0.keep hb
  clear A0 hb HC
  have a0 := A1.a.c0
  have a1 := A1.a.c1
  have b0 := A1.b.c0
  have b1 := A1.b.c1
  have r0 := A1.r.c0
  have r1 := A1.r.c1
  have f0 := A1.r.f0
  have f1 := A1.r.f1
  go_wp2_with fail
  have A2 := A1.r.set (.int .i64 m) (.int .i64 k)
  have s0 := A2.c0
  have s1 := A2.c1
  refine bodyPost_ret (v := .agg #[.int .i64 m, .int .i64 k]) (by simp [results, Tryz.results27, go_sem, s0, s1]) rfl ⟨rfl, below_set2 A1.below (by omega) _ _⟩

theorem rmin_first {q r : Rat} {n d m k : Int} (ha : IsF q n d) (hb : IsF r m k) (h : ¬ r < q) (w : World) :
    Calls Tryz.prog 27 #[.agg #[.int .i64 n, .int .i64 d], .agg #[.int .i64 m, .int .i64 k]] w fun o w' => o = .returned (.agg #[.int .i64 n, .int .i64 d]) ∧ Below w.heap.size w w' := by
  have HC : Hid (∀ W : World, _) := Lib.hid (fun W => rcmp_q hb ha W)
  obtain ⟨x, hx, hx0⟩ : ∃ x : Int, cmpI r q = x ∧ 0 ≤ x := by
    rcases cmpI_three r q with h1 | h1 | h1
    · exact absurd h1.1 h
    · exact ⟨_, h1.2, by decide⟩
    · exact ⟨_, h1.2, by decide⟩
  rw [hx] at HC
  clear hx
  clear ha hb
  go_enter Tryz.func27, Tryz.ntmps27
  go_wp2_with fail
  have A0 := Args.start w (.int .i64 n) (.int .i64 d) (.int .i64 m) (.int .i64 k) (.int .i64 0) (.int .i64 0) 25 25 25
  refine (HC.out _).mono ?_
  rintro o w1 ⟨rfl, hb⟩
  have A1 := A0.keep hb
  clear A0 hb HC
  have a0 := A1.a.c0
  have a1 := A1.a.c1
  have b0 := A1.b.c0
  have b1 := A1.b.c1
  have r0 := A1.r.c0
  have r1 := A1.r.c1
  have f0 := A1.r.f0
  have f1 := A1.r.f1
  go_wp2_with fail
  have A2 := A1.r.set (.int .i64 n) (.int .i64 d)
  have s0 := A2.c0
  have s1 := A2.c1
  refine bodyPost_ret (v := .agg #[.int .i64 n, .int .i64 d]) (by simp [results, Tryz.results27, go_sem, s0, s1]) rfl ⟨rfl, below_set2 A1.below (by omega) _ _⟩

theorem rmax_second {q r : Rat} {n d m k : Int} (ha : IsF q n d) (hb : IsF r m k) (h : q < r) (w : World) :
    Calls Tryz.prog 29 #[.agg #[.int .i64 n, .int .i64 d], .agg #[.int .i64 m, .int .i64 k]] w fun o w' => o = .returned (.agg #[.int .i64 m, .int .i64 k]) ∧ Below w.heap.size w w' := by
  have HC : Hid (∀ W : World, _) := Lib.hid (fun W => rcmp_q hb ha W)
  rw [cmpI_gt h] at HC
  clear ha hb
  go_enter Tryz.func29, Tryz.ntmps29
  go_wp2_with fail
  have A0 := Args.start w (.int .i64 n) (.int .i64 d) (.int .i64 m) (.int .i64 k) (.int .i64 0) (.int .i64 0) 25 25 25
  refine (HC.out _).mono ?_
  rintro o w1 ⟨rfl, hb⟩
  have A1 := A0.keep hb
  clear A0 hb HC
  have a0 := A1.a.c0
  have a1 := A1.a.c1
  have b0 := A1.b.c0
  have b1 := A1.b.c1
  have r0 := A1.r.c0
  have r1 := A1.r.c1
  have f0 := A1.r.f0
  have f1 := A1.r.f1
  go_wp2_with fail
  have A2 := A1.r.set (.int .i64 m) (.int .i64 k)
  have s0 := A2.c0
  have s1 := A2.c1
  refine bodyPost_ret (v := .agg #[.int .i64 m, .int .i64 k]) (by simp [results, Tryz.results29, go_sem, s0, s1]) rfl ⟨rfl, below_set2 A1.below (by omega) _ _⟩

theorem rmax_first {q r : Rat} {n d m k : Int} (ha : IsF q n d) (hb : IsF r m k) (h : ¬ q < r) (w : World) :
    Calls Tryz.prog 29 #[.agg #[.int .i64 n, .int .i64 d], .agg #[.int .i64 m, .int .i64 k]] w fun o w' => o = .returned (.agg #[.int .i64 n, .int .i64 d]) ∧ Below w.heap.size w w' := by
  have HC : Hid (∀ W : World, _) := Lib.hid (fun W => rcmp_q hb ha W)
  obtain ⟨x, hx, hx0⟩ : ∃ x : Int, cmpI r q = x ∧ x ≤ 0 := by
    rcases cmpI_three r q with h1 | h1 | h1
    · exact ⟨_, h1.2, by decide⟩
    · exact ⟨_, h1.2, by decide⟩
    · exact absurd h1.1 h
  rw [hx] at HC
  clear hx
  clear ha hb
  go_enter Tryz.func29, Tryz.ntmps29
  go_wp2_with fail
  have A0 := Args.start w (.int .i64 n) (.int .i64 d) (.int .i64 m) (.int .i64 k) (.int .i64 0) (.int .i64 0) 25 25 25
  refine (HC.out _).mono ?_
  rintro o w1 ⟨rfl, hb⟩
  have A1 := A0.keep hb
  clear A0 hb HC
  have a0 := A1.a.c0
  have a1 := A1.a.c1
  have b0 := A1.b.c0
  have b1 := A1.b.c1
  have r0 := A1.r.c0
  have r1 := A1.r.c1
  have f0 := A1.r.f0
  have f1 := A1.r.f1
  go_wp2_with fail
  have A2 := A1.r.set (.int .i64 n) (.int .i64 d)
  have s0 := A2.c0
  have s1 := A2.c1
  refine bodyPost_ret (v := .agg #[.int .i64 n, .int .i64 d]) (by simp [results, Tryz.results29, go_sem, s0, s1]) rfl ⟨rfl, below_set2 A1.below (by omega) _ _⟩

theorem rfloor_any (n d : Int) (w : World) (hn : I64 n) (hd : 0 < d) (hd2 : d ≤ 9223372036854775807) (hlow : -9223372036854775808 < n) :
    Calls Tryz.prog 21 #[.agg #[.int .i64 n, .int .i64 d]] w fun o w' => o = .returned (.int .i64 (n / d)) ∧ Below w.heap.size w w' := by
  have hmax : max d 1 = d := by omega
  have hb0 : (d == 0) = false := by simp; omega
  have hq := Int.tdiv_eq_ediv (a := n) (b := d)
  have hr := Int.tmod_eq_emod (a := n) (b := d)
  have hm0 := Int.emod_nonneg n (b := d) (by omega)
  have hm1 := Int.emod_lt_of_pos n hd
  have hs : d.sign = 1 := Int.sign_eq_one_of_pos hd
  have hab : (d.natAbs : Int) = d := by omega
  have hbound : -9223372036854775807 ≤ n / d ∧ n / d ≤ 9223372036854775807 := by
    unfold I64 at hn
    by_cases h0 : 0 ≤ n
    · exact ⟨by have := Int.ediv_nonneg h0 (by omega : 0 ≤ d); omega, by have := Int.ediv_le_self d h0; omega⟩
    · have h1 : n / d < 0 := Int.ediv_neg_of_neg_of_pos (by omega) hd
      have h2 : n ≤ n / d := by
        refine Int.le_ediv_of_mul_le hd ?_
        have : n * d ≤ n * 1 := Int.mul_le_mul_of_nonpos_left (by omega) (by omega)
        omega
      omega
  by_cases hc : 0 ≤ n ∨ d ∣ n
  · rw [if_pos hc] at hq hr
    have hqw : IntKind.i64.wrap (n.tdiv d) = n / d := by rw [hq, Int.add_zero]; exact IntWalk.i64_in _ (by omega)
    have hrr : n.tmod d = n % d := by omega
    have HR : Hid (0 ≤ n % d ∧ n % d < d) := Lib.hid ⟨hm0, hm1⟩
    obtain ⟨Q, hQ⟩ : ∃ Q, n / d = Q := ⟨_, rfl⟩
    obtain ⟨R, hR⟩ : ∃ R, n % d = R := ⟨_, rfl⟩
    rw [hQ] at hqw hbound ⊢
    rw [hR] at hrr hm0 hm1
    clear hq hr hs hab hc hn hd hQ hR HR hlow
    go_enter Tryz.func21, Tryz.ntmps21
    go_wp2
    go_ret
    exact ⟨rfl, (Below.refl _ w).alloc (Nat.le_refl _) _⟩
  · rw [if_neg hc] at hq hr
    have hpos : 0 < n % d := by
      have : n % d ≠ 0 := fun h => hc (.inr (Int.dvd_of_emod_eq_zero h))
      omega
    have hneg : n / d < 0 := Int.ediv_neg_of_neg_of_pos (by omega) hd
    have hqw : IntKind.i64.wrap (n.tdiv d) = n / d + 1 := by
      rw [hq, hs]
      generalize n / d = Q at *
      exact IntWalk.i64_in _ (by omega)
    have hrr : n.tmod d = n % d - d := by omega
    obtain ⟨Q, hQ⟩ : ∃ Q, n / d = Q := ⟨_, rfl⟩
    obtain ⟨R, hR⟩ : ∃ R, n % d - d = R := ⟨_, rfl⟩
    have hRneg : R < 0 := by omega
    have hRlow : -9223372036854775807 ≤ R := by omega
    rw [hQ] at hqw hbound hneg ⊢
    rw [hR] at hrr
    clear hq hr hs hab hc hn hd hQ hR hlow hm0 hm1 hpos
    go_enter Tryz.func21, Tryz.ntmps21
    go_wp2
    go_ret
    exact ⟨ret_int (by omega), (Below.refl _ w).alloc (Nat.le_refl _) _⟩

theorem rceil_any (n d : Int) (w : World) (hn : I62 n) (hd : 0 < d) (hd2 : d ≤ 9223372036854775807) :
    Calls Tryz.prog 23 #[.agg #[.int .i64 n, .int .i64 d]] w fun o w' => o = .returned (.int .i64 (-((-n) / d))) ∧ Below w.heap.size w w' := by
  have HF : Hid (∀ W : World, _) := Lib.hid (fun W => rfloor_any (-n) d W (by unfold I62 at hn; unfold I64; omega) hd hd2 (by unfold I62 at hn; omega))
  have hnw : IntKind.i64.wrap (-n) = -n := IntWalk.i64_in _ (by unfold I62 at hn; omega)
  have hbound : -4611686018427387904 ≤ (-n) / d ∧ (-n) / d ≤ 4611686018427387904 := by
    unfold I62 at hn
    by_cases h0 : 0 ≤ -n
    · exact ⟨by have := Int.ediv_nonneg h0 (by omega : 0 ≤ d); omega, by have := Int.ediv_le_self d h0; omega⟩
    · have h1 : (-n) / d < 0 := Int.ediv_neg_of_neg_of_pos (by omega) hd
      have h2 : -n ≤ (-n) / d := by
        refine Int.le_ediv_of_mul_le hd ?_
        have : (-n) * d ≤ (-n) * 1 := Int.mul_le_mul_of_nonpos_left (by omega) (by omega)
        omega
      omega
  obtain ⟨Q, hQ⟩ : ∃ Q, (-n) / d = Q := ⟨_, rfl⟩
  rw [hQ] at HF hbound ⊢
  unfold I62 at hn
  clear hQ hd hd2
  go_enter Tryz.func23, Tryz.ntmps23
  go_wp2_with fail
  refine (HF.out _).mono ?_
  rintro o w1 ⟨rfl, hb⟩
  go_wp2_with fail
  go_ret
  exact ⟨ret_int (by omega), ((Below.refl _ w).alloc (Nat.le_refl _) _).trans (hb.mono (by simp))⟩

/-- A fraction that fits is valid. -/
theorem mt_own {q : Rat} {n d : Int} (h : IsF q n d) (W : World) : Calls Tryz.prog 7 #[.agg #[.int .i64 n, .int .i64 d]] W fun o w' => o = .returned (.bool true) ∧ Below W.heap.size W w' := by
  have := valid_any n d W h.n62.i64 h.d62.i64
  rwa [(validB_iff n d).2 ⟨q, h⟩] at this


set_option maxHeartbeats 1000000 in
theorem rvalid_low (n d : Int) (w : World) (h : decide (1 ≤ d) = false ∨ decide (1 ≤ d) = true ∧ decide (d ≤ 4611686018427387904) = false ∨ decide (1 ≤ d) = true ∧ decide (d ≤ 4611686018427387904) = true ∧ decide (-4611686018427387904 ≤ n) = false) :
    Calls Tryz.prog 8 #[.agg #[.int .i64 n, .int .i64 d]] w fun o w' => o = .returned (.bool false) ∧ Below w.heap.size w w' := by
  have hm : IntKind.i64.wrap (-4611686018427387904) = -4611686018427387904 := by decide
  rcases h with h | ⟨h1, h⟩ | ⟨h1, h2, h⟩
  all_goals
    go_enter Tryz.func8, Tryz.ntmps8
    go_wp2_with fail
    have A0 := Box2.new w (.int .i64 n) (.int .i64 d) 25
    have B0 := (Below.refl w.heap.size w).alloc (Nat.le_refl _) (.cells #[.int .i64 n, .int .i64 d] 25)
    generalize w.alloc (.cells #[.int .i64 n, .int .i64 d] 25) = W0 at *
    obtain ⟨x0, x1⟩ := A0.later
    clear A0
    refine wp_region_later (by kernel_rfl) (by kernel_rfl) ?_
    repeat (go_big_quiet_step ((first | (go_at_call 30; with_reducible exact later_same (most_any _)))))
    refine wpQuiet_nil ?_
    intro _ hw'
    obtain ⟨z, hw''⟩ := hw'
    subst hw''
    have B1 := B0.trans (z.below.mono B0.size)
    go_wp2_with fail
    go_ret
    exact ⟨rfl, B1⟩

theorem rvalid_all (n d : Int) (w : World) (h1 : I64 n) (h2 : I64 d) :
    Calls Tryz.prog 8 #[.agg #[.int .i64 n, .int .i64 d]] w fun o w' => o = .returned (.bool (validB n d)) ∧ Below w.heap.size w w' := by
  unfold I64 at h1 h2
  by_cases h : -9223372036854775808 < n ∧ 1 ≤ d
  · exact rvalid_any n d w ⟨h.1, h1.2⟩ ⟨by omega, h2.2⟩
  · rw [validB_false (by omega)]
    refine rvalid_low n d w ?_
    by_cases hd : 1 ≤ d
    · by_cases hd2 : d ≤ 4611686018427387904
      · exact .inr (.inr ⟨by simpa using hd, by simpa using hd2, by simp; omega⟩)
      · exact .inr (.inl ⟨by simpa using hd, by simpa using hd2⟩)
    · exact .inl (by simpa using hd)

section
variable {A B : Rat} {an ad bn bd : Int}
theorem mt_add (ha : IsF A an ad) (hb : IsF B bn bd) : ∃ N D E : Int, (∀ W : World, Calls Tryz.prog 10 #[.agg #[.int .i64 an, .int .i64 ad], .agg #[.int .i64 bn, .int .i64 bd]] W fun o w' => o = .returned (.agg #[.int .i64 N, .int .i64 D, .int .i64 E]) ∧ Below W.heap.size W w') ∧ (∀ W : World, Calls Tryz.prog 11 #[.agg #[.int .i64 an, .int .i64 ad], .agg #[.int .i64 bn, .int .i64 bd]] W fun o w' => o = .returned (.agg #[.int .i64 N, .int .i64 D, .int .i64 E]) ∧ Below W.heap.size W w') :=
  ⟨rN (A + B), rD (A + B), rE (A + B), ladd_q ha hb, fun W => radd_q ha hb W⟩
theorem mt_sub (ha : IsF A an ad) (hb : IsF B bn bd) : ∃ N D E : Int, (∀ W : World, Calls Tryz.prog 12 #[.agg #[.int .i64 an, .int .i64 ad], .agg #[.int .i64 bn, .int .i64 bd]] W fun o w' => o = .returned (.agg #[.int .i64 N, .int .i64 D, .int .i64 E]) ∧ Below W.heap.size W w') ∧ (∀ W : World, Calls Tryz.prog 13 #[.agg #[.int .i64 an, .int .i64 ad], .agg #[.int .i64 bn, .int .i64 bd]] W fun o w' => o = .returned (.agg #[.int .i64 N, .int .i64 D, .int .i64 E]) ∧ Below W.heap.size W w') :=
  ⟨rN (A - B), rD (A - B), rE (A - B), lsub_q ha hb, fun W => rsub_q ha hb W⟩
theorem mt_mul (ha : IsF A an ad) (hb : IsF B bn bd) : ∃ N D E : Int, (∀ W : World, Calls Tryz.prog 14 #[.agg #[.int .i64 an, .int .i64 ad], .agg #[.int .i64 bn, .int .i64 bd]] W fun o w' => o = .returned (.agg #[.int .i64 N, .int .i64 D, .int .i64 E]) ∧ Below W.heap.size W w') ∧ (∀ W : World, Calls Tryz.prog 15 #[.agg #[.int .i64 an, .int .i64 ad], .agg #[.int .i64 bn, .int .i64 bd]] W fun o w' => o = .returned (.agg #[.int .i64 N, .int .i64 D, .int .i64 E]) ∧ Below W.heap.size W w') :=
  ⟨rN (A * B), rD (A * B), rE (A * B), lmul_q ha hb, fun W => rmul_q ha hb W⟩
theorem mt_div (ha : IsF A an ad) (hb : IsF B bn bd) : ∃ N D E : Int, (∀ W : World, Calls Tryz.prog 16 #[.agg #[.int .i64 an, .int .i64 ad], .agg #[.int .i64 bn, .int .i64 bd]] W fun o w' => o = .returned (.agg #[.int .i64 N, .int .i64 D, .int .i64 E]) ∧ Below W.heap.size W w') ∧ (∀ W : World, Calls Tryz.prog 17 #[.agg #[.int .i64 an, .int .i64 ad], .agg #[.int .i64 bn, .int .i64 bd]] W fun o w' => o = .returned (.agg #[.int .i64 N, .int .i64 D, .int .i64 E]) ∧ Below W.heap.size W w') := by
  by_cases h : bn = 0
  · subst h
    exact ⟨0, 0, 3, ldiv_zero an ad bd, fun W => rdiv_zero an ad bd W⟩
  · exact ⟨rN (A / B), rD (A / B), rE (A / B), ldiv_q ha hb h, fun W => rdiv_q ha hb h W⟩
theorem mt_cmp (ha : IsF A an ad) (hb : IsF B bn bd) : ∃ N : Int, (∀ W : World, Calls Tryz.prog 18 #[.agg #[.int .i64 an, .int .i64 ad], .agg #[.int .i64 bn, .int .i64 bd]] W fun o w' => o = .returned (.int .i64 N) ∧ Below W.heap.size W w') ∧ (∀ W : World, Calls Tryz.prog 19 #[.agg #[.int .i64 an, .int .i64 ad], .agg #[.int .i64 bn, .int .i64 bd]] W fun o w' => o = .returned (.int .i64 N) ∧ Below W.heap.size W w') :=
  ⟨cmpI A B, cmp_q ha hb, rcmp_q ha hb⟩
theorem mt_floor (ha : IsF A an ad) : ∃ N : Int, (∀ W : World, Calls Tryz.prog 20 #[.agg #[.int .i64 an, .int .i64 ad]] W fun o w' => o = .returned (.int .i64 N) ∧ Below W.heap.size W w') ∧ (∀ W : World, Calls Tryz.prog 21 #[.agg #[.int .i64 an, .int .i64 ad]] W fun o w' => o = .returned (.int .i64 N) ∧ Below W.heap.size W w') :=
  ⟨an / ad, fun W => floor_any an ad W ha.n62.i64 ha.pos ha.d62.i64.2 (by have := ha.n62; unfold I62 at this; omega), fun W => rfloor_any an ad W ha.n62.i64 ha.pos ha.d62.i64.2 (by have := ha.n62; unfold I62 at this; omega)⟩
theorem mt_ceil (ha : IsF A an ad) : ∃ N : Int, (∀ W : World, Calls Tryz.prog 22 #[.agg #[.int .i64 an, .int .i64 ad]] W fun o w' => o = .returned (.int .i64 N) ∧ Below W.heap.size W w') ∧ (∀ W : World, Calls Tryz.prog 23 #[.agg #[.int .i64 an, .int .i64 ad]] W fun o w' => o = .returned (.int .i64 N) ∧ Below W.heap.size W w') :=
  ⟨-((-an) / ad), fun W => ceil_any an ad W ha.n62 ha.pos ha.d62.i64.2, fun W => rceil_any an ad W ha.n62 ha.pos ha.d62.i64.2⟩
theorem mt_min (ha : IsF A an ad) (hb : IsF B bn bd) : ∃ N D : Int, (∀ W : World, Calls Tryz.prog 26 #[.agg #[.int .i64 an, .int .i64 ad], .agg #[.int .i64 bn, .int .i64 bd]] W fun o w' => o = .returned (.agg #[.int .i64 N, .int .i64 D]) ∧ Below W.heap.size W w') ∧ (∀ W : World, Calls Tryz.prog 27 #[.agg #[.int .i64 an, .int .i64 ad], .agg #[.int .i64 bn, .int .i64 bd]] W fun o w' => o = .returned (.agg #[.int .i64 N, .int .i64 D]) ∧ Below W.heap.size W w') := by
  by_cases h : B < A
  · exact ⟨bn, bd, min_second ha hb h, rmin_second ha hb h⟩
  · exact ⟨an, ad, min_first ha hb h, rmin_first ha hb h⟩
theorem mt_max (ha : IsF A an ad) (hb : IsF B bn bd) : ∃ N D : Int, (∀ W : World, Calls Tryz.prog 28 #[.agg #[.int .i64 an, .int .i64 ad], .agg #[.int .i64 bn, .int .i64 bd]] W fun o w' => o = .returned (.agg #[.int .i64 N, .int .i64 D]) ∧ Below W.heap.size W w') ∧ (∀ W : World, Calls Tryz.prog 29 #[.agg #[.int .i64 an, .int .i64 ad], .agg #[.int .i64 bn, .int .i64 bd]] W fun o w' => o = .returned (.agg #[.int .i64 N, .int .i64 D]) ∧ Below W.heap.size W w') := by
  by_cases h : A < B
  · exact ⟨bn, bd, max_second ha hb h, rmax_second ha hb h⟩
  · exact ⟨an, ad, max_first ha hb h, rmax_first ha hb h⟩
theorem mt_text (ha : IsF A an ad) : ∃ t : ByteArray, (∀ W : World, Vars W → Calls Tryz.prog 24 #[.agg #[.int .i64 an, .int .i64 ad]] W fun o w' => o = .returned (.string t) ∧ Below W.heap.size W w') ∧ (∀ W : World, Calls Tryz.prog 25 #[.agg #[.int .i64 an, .int .i64 ad]] W fun o w' => o = .returned (.string t) ∧ Below W.heap.size W w') :=
  ⟨⟨(textL an ad).toArray⟩, fun W hW => text_any an ad W ha.n62.i64 ha.d62.i64 hW, fun W => rtext_any an ad W ha.n62 ⟨by have := ha.pos; omega, ha.d62.i64.2⟩⟩
end
theorem mt_make (n d : Int) (h1 : I64 n) (h2 : I64 d) : ∃ N D E : Int, (∀ W : World, Calls Tryz.prog 5 #[.int .i64 n, .int .i64 d] W fun o w' => o = .returned (.agg #[.int .i64 N, .int .i64 D, .int .i64 E]) ∧ Below W.heap.size W w') ∧ (∀ W : World, Calls Tryz.prog 6 #[.int .i64 n, .int .i64 d] W fun o w' => o = .returned (.agg #[.int .i64 N, .int .i64 D, .int .i64 E]) ∧ Below W.heap.size W w') :=
  ⟨mN n d, mD n d, mE n d, fun W => created_any n d W h1 h2, fun W => makeIn_any n d W h1 h2⟩
theorem mt_valid (n d : Int) (h1 : I64 n) (h2 : I64 d) : ∃ b : Bool, (∀ W : World, Calls Tryz.prog 7 #[.agg #[.int .i64 n, .int .i64 d]] W fun o w' => o = .returned (.bool b) ∧ Below W.heap.size W w') ∧ (∀ W : World, Calls Tryz.prog 8 #[.agg #[.int .i64 n, .int .i64 d]] W fun o w' => o = .returned (.bool b) ∧ Below W.heap.size W w') :=
  ⟨validB n d, fun W => valid_any n d W h1 h2, fun W => rvalid_all n d W h1 h2⟩

set_option maxRecDepth 100000 in
set_option maxHeartbeats 4000000 in
theorem matches_walk (x0 x1 y0 y1 : Int) (w : World) (hx0 : I64 x0) (hx1 : I64 x1) (hy0 : I64 y0) (hy1 : I64 y1) (hv : Vars w) :
    Calls Tryz.prog 3 #[.agg #[.int .i64 x0, .int .i64 x1], .agg #[.int .i64 y0, .int .i64 y1]] w fun o w' => o = .returned (.bool true) ∧ Below w.heap.size w w' := by
  have HX := Lib.hid (fun W : World => made_any x0 x1 W hx0 hx1)
  have HY := Lib.hid (fun W : World => made_any y0 y1 W hy0 hy1)
  have HM1 := Lib.hid (mt_make x0 x1 hx0 hx1)
  have HM2 := Lib.hid (mt_make x0 y0 hx0 hy0)
  have HM3 := Lib.hid (mt_valid x0 x1 hx0 hx1)
  clear hx0 hx1 hy0 hy1
  go_enter Tryz.func3, Tryz.ntmps3
  go_wp2_with fail
  have X0 := (Box2.new w (.int .i64 x0) (.int .i64 x1) 22).alloc (.cells #[.int .i64 y0, .int .i64 y1] 22)
  have Y0 := Box2.newAt (W := w.alloc (.cells #[.int .i64 x0, .int .i64 x1] 22)) (B := w.heap.size + 1) (by simp) (.int .i64 y0) (.int .i64 y1) 22
  have B0 := ((Below.refl w.heap.size w).alloc (Nat.le_refl _) (.cells #[.int .i64 x0, .int .i64 x1] 22)).alloc (by simp) (.cells #[.int .i64 y0, .int .i64 y1] 22)
  generalize (w.alloc (.cells #[.int .i64 x0, .int .i64 x1] 22)).alloc (.cells #[.int .i64 y0, .int .i64 y1] 22) = W0 at *
  have hv0 := hv.keep B0
  refine (examples_any _ hv0).mono ?_
  rintro o w1 ⟨rfl, hb⟩
  have X1 := X0.keep hb
  have Y1 := Y0.keep hb
  have B1 := B0.trans (hb.mono B0.size)
  have hv1 := hv.keep B1
  clear X0 Y0 B0 hb hv0
  go_upto_region 4 with fail
  go_cut [49] (fun v wx => v = .bool false ∧ ∃ z : Later w1, wx = z.val)
  case first => as_aux_lemma =>
    obtain ⟨N1, D1, E1, i1, j1⟩ := HM1.out
    obtain ⟨N2, D2, E2, i2, j2⟩ := HM2.out
    obtain ⟨b, i3, j3⟩ := HM3.out
    have I1 := Lib.hid i1
    have J1 := Lib.hid j1
    have I2 := Lib.hid i2
    have J2 := Lib.hid j2
    have I3 := Lib.hid i3
    have J3 := Lib.hid j3
    clear i1 j1 i2 j2 i3 j3 HM1 HM2 HM3 HX HY
    obtain ⟨a0, a1⟩ := X1.later
    obtain ⟨b0, b1⟩ := Y1.later
    clear X1 Y1 B1 hv hv1
    have q1 : (N1 == N1) = true := by simp
    have q2 : (D1 == D1) = true := by simp
    have q3 : (E1 == E1) = true := by simp
    have q4 : (N2 == N2) = true := by simp
    have q5 : (D2 == D2) = true := by simp
    have q6 : (E2 == E2) = true := by simp
    have q7 : (b == b) = true := by simp
    refine wp_region_later (by kernel_rfl) (by kernel_rfl) ?_
    repeat (go_big_quiet_step (((first
      | (go_at_call 5; first | with_reducible exact later_of (I1.out _) | with_reducible exact later_of (I2.out _))
      | (go_at_call 6; first | with_reducible exact later_of (J1.out _) | with_reducible exact later_of (J2.out _))
      | (go_at_call 7; first | with_reducible exact later_of (I3.out _))
      | (go_at_call 8; first | with_reducible exact later_of (J3.out _))))))
    refine wpQuiet_nil ?_
    intro _ hw'
    obtain ⟨z, hw''⟩ := hw'
    subst hw''
    go_wp2_with fail
    go_meet
    case rel => exact ⟨rfl, z, rfl⟩
  case rest => as_aux_lemma =>
    obtain ⟨rfl, z, rfl⟩ := hcut
    have X2 := X1.keep z.below
    have Y2 := Y1.keep z.below
    have B2 := B1.trans (z.below.mono B1.size)
    have hv2 := hv.keep B2
    generalize z.val = w2 at *
    clear X1 Y1 B1 hv1 z HM1 HM2 HM3
    have c0 := X2.c0
    have c1 := X2.c1
    go_wp2_with fail
    refine (HX.out _).mono ?_
    rintro o w3 ⟨A, an, ad, HA0, rfl, hb⟩
    have HA := Lib.hid HA0
    clear HA0
    have A3 := Box2.new w3 (.int .i64 an) (.int .i64 ad) 25
    have Y3 := (Y2.keep hb).alloc (.cells #[.int .i64 an, .int .i64 ad] 25)
    have B3 := (B2.trans (hb.mono B2.size)).alloc (B2.trans (hb.mono B2.size)).size (.cells #[.int .i64 an, .int .i64 ad] 25)
    clear X2 Y2 B2 hb c0 c1 HX hv2
    have c0 := Y3.c0
    have c1 := Y3.c1
    go_wp2_with fail
    refine (HY.out _).mono ?_
    rintro o w4 ⟨B, bn, bd, HB0, rfl, hb⟩
    have HB := Lib.hid HB0
    clear HB0
    have A4 := (A3.keep hb).alloc (.cells #[.int .i64 bn, .int .i64 bd] 25)
    have D4 := Box2.new w4 (.int .i64 bn) (.int .i64 bd) 25
    have B4 := (B3.trans (hb.mono B3.size)).alloc (B3.trans (hb.mono B3.size)).size (.cells #[.int .i64 bn, .int .i64 bd] 25)
    have hv4 := hv.keep B4
    clear A3 Y3 B3 hb c0 c1 HY hv
    go_upto_region 8 with fail
    generalize w4.alloc (.cells #[.int .i64 bn, .int .i64 bd] 25) = W4 at *
    go_cut [116] (fun v wx => v = .bool false ∧ ∃ z : Later W4, wx = z.val)
    case first => as_aux_lemma =>
      obtain ⟨N1, D1, E1, i1, j1⟩ := mt_add HA.out HB.out
      obtain ⟨N2, D2, E2, i2, j2⟩ := mt_sub HA.out HB.out
      obtain ⟨N3, D3, E3, i3, j3⟩ := mt_mul HA.out HB.out
      obtain ⟨N4, D4', E4, i4, j4⟩ := mt_div HA.out HB.out
      obtain ⟨N5, i5, j5⟩ := mt_cmp HA.out HB.out
      obtain ⟨N6, i6, j6⟩ := mt_floor HA.out
      obtain ⟨N7, i7, j7⟩ := mt_ceil HB.out
      have I1 := Lib.hid i1
      have J1 := Lib.hid j1
      have I2 := Lib.hid i2
      have J2 := Lib.hid j2
      have I3 := Lib.hid i3
      have J3 := Lib.hid j3
      have I4 := Lib.hid i4
      have J4 := Lib.hid j4
      have I5 := Lib.hid i5
      have J5 := Lib.hid j5
      have I6 := Lib.hid i6
      have J6 := Lib.hid j6
      have I7 := Lib.hid i7
      have J7 := Lib.hid j7
      clear i1 j1 i2 j2 i3 j3 i4 j4 i5 j5 i6 j6 i7 j7
      obtain ⟨a0, a1⟩ := A4.later
      obtain ⟨b0, b1⟩ := D4.later
      clear A4 D4 B4 hv4 HA HB
      have q0 : (N1 == N1) = true := by simp
      have q1 : (D1 == D1) = true := by simp
      have q2 : (E1 == E1) = true := by simp
      have q3 : (N2 == N2) = true := by simp
      have q4 : (D2 == D2) = true := by simp
      have q5 : (E2 == E2) = true := by simp
      have q6 : (N3 == N3) = true := by simp
      have q7 : (D3 == D3) = true := by simp
      have q8 : (E3 == E3) = true := by simp
      have q9 : (N4 == N4) = true := by simp
      have q10 : (D4' == D4') = true := by simp
      have q11 : (E4 == E4) = true := by simp
      have q12 : (N5 == N5) = true := by simp
      have q13 : (N6 == N6) = true := by simp
      have q14 : (N7 == N7) = true := by simp
      refine wp_region_later (by kernel_rfl) (by kernel_rfl) ?_
      repeat (go_big_quiet_step (((first
        | (go_at_call 10; first | with_reducible exact later_of (I1.out _))
        | (go_at_call 11; first | with_reducible exact later_of (J1.out _))
        | (go_at_call 12; first | with_reducible exact later_of (I2.out _))
        | (go_at_call 13; first | with_reducible exact later_of (J2.out _))
        | (go_at_call 14; first | with_reducible exact later_of (I3.out _))
        | (go_at_call 15; first | with_reducible exact later_of (J3.out _))
        | (go_at_call 16; first | with_reducible exact later_of (I4.out _))
        | (go_at_call 17; first | with_reducible exact later_of (J4.out _))
        | (go_at_call 18; first | with_reducible exact later_of (I5.out _))
        | (go_at_call 19; first | with_reducible exact later_of (J5.out _))
        | (go_at_call 20; first | with_reducible exact later_of (I6.out _))
        | (go_at_call 21; first | with_reducible exact later_of (J6.out _))
        | (go_at_call 22; first | with_reducible exact later_of (I7.out _))
        | (go_at_call 23; first | with_reducible exact later_of (J7.out _))))))
      refine wpQuiet_nil ?_
      intro _ hw'
      obtain ⟨z, hw''⟩ := hw'
      subst hw''
      go_wp2_with fail
      go_meet
      case rel => exact ⟨rfl, z, rfl⟩
    case rest => as_aux_lemma =>
      obtain ⟨rfl, z, rfl⟩ := hcut
      have A5 := A4.keep z.below
      have D5 := D4.keep z.below
      have B5 := B4.trans (z.below.mono B4.size)
      have hv5 := hv4.keep z.below
      generalize z.val = W5 at *
      clear A4 D4 B4 hv4 z
      go_upto_region 10 with fail
      have I1 := Lib.hid (fun W => mt_own HA.out W)
      obtain ⟨t, i2, j2⟩ := mt_text HA.out
      obtain ⟨N3, D3, i3, j3⟩ := mt_min HA.out HB.out
      obtain ⟨N4, D4, i4, j4⟩ := mt_max HA.out HB.out
      have I2 := Lib.hid i2
      have J2 := Lib.hid j2
      have I3 := Lib.hid i3
      have J3 := Lib.hid j3
      have I4 := Lib.hid i4
      have J4 := Lib.hid j4
      clear i2 j2 i3 j3 i4 j4
      obtain ⟨a0, a1⟩ := A5.later
      obtain ⟨b0, b1⟩ := D5.later
      clear A5 D5 HA HB
      have q9 : (t.toList == t.toList) = true := by simp
      have q0 : (N3 == N3) = true := by simp
      have q1 : (D3 == D3) = true := by simp
      have q2 : (N4 == N4) = true := by simp
      have q3 : (D4 == D4) = true := by simp
      refine wp_region_later (by kernel_rfl) (by kernel_rfl) ?_
      repeat (go_big_quiet_step (((first
        | (go_at_call 7; first | with_reducible exact later_of (I1.out _))
        | (go_at_call 24; first | with_reducible exact later_of (I2.out _ (hv5.keep (Later.below _))))
        | (go_at_call 25; first | with_reducible exact later_of (J2.out _))
        | (go_at_call 26; first | with_reducible exact later_of (I3.out _))
        | (go_at_call 27; first | with_reducible exact later_of (J3.out _))
        | (go_at_call 28; first | with_reducible exact later_of (I4.out _))
        | (go_at_call 29; first | with_reducible exact later_of (J4.out _))))))
      refine wpQuiet_nil ?_
      intro _ hw'
      obtain ⟨z, hw''⟩ := hw'
      subst hw''
      have B6 := B5.trans (z.below.mono B5.size)
      go_wp2_with fail
      go_ret
      exact ⟨rfl, B6⟩

end Fr
end Go.Proofs.YtajpklacaaegcaaGreatDoor
