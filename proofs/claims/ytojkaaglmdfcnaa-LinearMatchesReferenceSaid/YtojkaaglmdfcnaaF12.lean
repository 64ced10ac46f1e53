/- Statement FractionOrder: order, sums, products and differences. -/
import Derived.Test.YtojkaaglmdfcnaaF10
namespace Go.Proofs.Ytojkaaglmdfcnaa
open Go.RowKit Go.Shelf
namespace Fr
set_option linter.unusedVariables false

theorem num_pos {q : Rat} : 0 < q ↔ 0 < q.num := by rw [Rat.lt_iff]; simp
theorem num_neg {q : Rat} : q < 0 ↔ q.num < 0 := by rw [Rat.lt_iff]; simp
theorem cmpI_back (q r : Rat) : cmpI r q = -cmpI q r := by
  rcases cmpI_three q r with ⟨h, e⟩ | ⟨h, e⟩ | ⟨h, e⟩
  · rw [e, cmpI_gt h]; rfl
  · rw [h, cmpI_self]; rfl
  · rw [e, cmpI_lt h]
theorem cmpI_add (q r s : Rat) : cmpI (q + s) (r + s) = cmpI q r := by
  rcases cmpI_three q r with ⟨h, e⟩ | ⟨h, e⟩ | ⟨h, e⟩
  · rw [e, cmpI_lt (Rat.add_lt_add_right.2 h)]
  · rw [h, cmpI_self, cmpI_self]
  · rw [e, cmpI_gt (Rat.add_lt_add_right.2 h)]
theorem cmpI_mul (q r : Rat) {s : Rat} (hs : 0 < s) : cmpI (q * s) (r * s) = cmpI q r := by
  rcases cmpI_three q r with ⟨h, e⟩ | ⟨h, e⟩ | ⟨h, e⟩
  · rw [e, cmpI_lt ((Rat.mul_lt_mul_right hs).2 h)]
  · rw [h, cmpI_self, cmpI_self]
  · rw [e, cmpI_gt ((Rat.mul_lt_mul_right hs).2 h)]
theorem cmpI_le {q r : Rat} : cmpI q r ≤ 0 ↔ q ≤ r := by
  rcases cmpI_three q r with ⟨h, e⟩ | ⟨h, e⟩ | ⟨h, e⟩
  · rw [e]; exact ⟨fun _ => Rat.le_of_lt h, fun _ => by decide⟩
  · rw [e, h]; exact ⟨fun _ => Rat.le_refl, fun _ => by decide⟩
  · rw [e]; exact ⟨fun h' => absurd h' (by decide), fun h' => absurd h (Rat.not_lt.2 h')⟩
theorem cmpI_ge {q r : Rat} : 0 ≤ cmpI q r ↔ r ≤ q := by rw [← cmpI_le, cmpI_back]; omega
theorem cmpI_le_trans {q r s : Rat} (h1 : cmpI q r ≤ 0) (h2 : cmpI r s ≤ 0) : decide (0 < cmpI q s) = false := by
  have := cmpI_le.2 (Rat.le_trans (cmpI_le.1 h1) (cmpI_le.1 h2))
  simp; omega
theorem cmpI_ge_trans {q r s : Rat} (h1 : 0 ≤ cmpI q r) (h2 : 0 ≤ cmpI r s) : decide (cmpI q s < 0) = false := by
  have := cmpI_ge.2 (Rat.le_trans (cmpI_ge.1 h2) (cmpI_ge.1 h1))
  simp; omega
theorem sub_lt_zero {q r : Rat} : q - r < 0 ↔ q < r := by rw [Rat.sub_lt_iff, Rat.zero_add]

section
variable {A B C : Rat} {an ad bn bd cn cd : Int}
theorem ord_add {N D M K : Int} (hs : IsF (A + C) N D) (ht : IsF (B + C) M K) (W : World) : Calls Try.prog 50 #[.agg #[.int .i64 N, .int .i64 D], .agg #[.int .i64 M, .int .i64 K]] W fun o w' => o = .returned (.int .i64 (cmpI A B)) ∧ Below W.heap.size W w' := by
  have h := cmp_q hs ht W
  rwa [cmpI_add] at h
theorem ord_mul (hc : 0 < C) {N D M K : Int} (hs : IsF (A * C) N D) (ht : IsF (B * C) M K) (W : World) : Calls Try.prog 50 #[.agg #[.int .i64 N, .int .i64 D], .agg #[.int .i64 M, .int .i64 K]] W fun o w' => o = .returned (.int .i64 (cmpI A B)) ∧ Below W.heap.size W w' := by
  have h := cmp_q hs ht W
  rwa [cmpI_mul A B hc] at h
theorem pos_of {q : Rat} {n d : Int} (h : IsF q n d) (h0 : 0 < n) : 0 < q := num_pos.2 (by rw [h.num]; exact h0)
theorem eq_of {q r : Rat} {n d m k : Int} (ha : IsF q n d) (hb : IsF r m k) (h : q = r) : n = m ∧ d = k := ⟨by rw [← ha.num, ← hb.num, h], by rw [← ha.den, ← hb.den, h]⟩
theorem ne_of {q r : Rat} {n d m k : Int} (ha : IsF q n d) (hb : IsF r m k) (h0 : q ≠ r) : (n == m) = false ∨ (n == m) = true ∧ (d == k) = false := by
  by_cases e1 : n = m
  · right
    refine ⟨by simpa using e1, ?_⟩
    simp only [beq_eq_false_iff_ne, ne_eq]
    intro e2
    exact h0 (isF_unique ha (by rw [e1, e2]; exact hb))
  · left; simpa using e1
end

section
variable {A B C : Rat} {an ad bn bd cn cd : Int}
/-- The lesser and the greater one. -/
theorem ord_minmax (ha : IsF A an ad) (hb : IsF B bn bd) : ∃ ln ld mn md : Int, (∀ W : World, Calls Try.prog 67 #[.agg #[.int .i64 an, .int .i64 ad], .agg #[.int .i64 bn, .int .i64 bd]] W fun o w' => o = .returned (.agg #[.int .i64 ln, .int .i64 ld]) ∧ Below W.heap.size W w') ∧ (∀ W : World, Calls Try.prog 68 #[.agg #[.int .i64 an, .int .i64 ad], .agg #[.int .i64 bn, .int .i64 bd]] W fun o w' => o = .returned (.agg #[.int .i64 mn, .int .i64 md]) ∧ Below W.heap.size W w') ∧ (∀ W : World, Calls Try.prog 67 #[.agg #[.int .i64 bn, .int .i64 bd], .agg #[.int .i64 an, .int .i64 ad]] W fun o w' => o = .returned (.agg #[.int .i64 ln, .int .i64 ld]) ∧ Below W.heap.size W w') ∧ (∀ W : World, Calls Try.prog 68 #[.agg #[.int .i64 bn, .int .i64 bd], .agg #[.int .i64 an, .int .i64 ad]] W fun o w' => o = .returned (.agg #[.int .i64 mn, .int .i64 md]) ∧ Below W.heap.size W w') ∧
    (decide (0 < cmpI A B) = false ∧ ln = an ∧ ld = ad ∧ mn = bn ∧ md = bd ∨ decide (0 < cmpI A B) = true ∧ ln = bn ∧ ld = bd ∧ mn = an ∧ md = ad) := by
  rcases cmpI_three A B with ⟨h1, e⟩ | ⟨h1, e⟩ | ⟨h1, e⟩ <;> rw [e]
  · have h2 : ¬ B < A := Rat.not_lt.2 (Rat.le_of_lt h1)
    exact ⟨an, ad, bn, bd, min_first ha hb h2, max_second ha hb h1, min_second hb ha h1, max_first hb ha h2, .inl ⟨by decide, rfl, rfl, rfl, rfl⟩⟩
  · obtain ⟨e1, e2⟩ := eq_of ha hb h1
    subst e1 e2 h1
    have h2 : ¬ A < A := Rat.not_lt.2 Rat.le_refl
    exact ⟨an, ad, an, ad, min_first ha ha h2, max_first ha ha h2, min_first ha ha h2, max_first ha ha h2, .inl ⟨by decide, rfl, rfl, rfl, rfl⟩⟩
  · have h2 : ¬ A < B := Rat.not_lt.2 (Rat.le_of_lt h1)
    exact ⟨bn, bd, an, ad, min_second ha hb h1, max_first ha hb h2, min_first hb ha h2, max_second hb ha h1, .inr ⟨by decide, rfl, rfl, rfl, rfl⟩⟩
end

/-- Two new blocks of two cells, whichever was made first. -/
def PV (W : World) (a b c d : Value) (u v : Value) (wx : World) : Prop :=
  ∃ m n : Nat, u = .pointer (some ⟨m, 0, none⟩) ∧ v = .pointer (some ⟨n, 0, none⟩) ∧ Box2 wx m a b ∧ Box2 wx n c d ∧ m ≠ n ∧ W.heap.size ≤ m ∧ W.heap.size ≤ n ∧ Below W.heap.size W wx
theorem pv_one (W : World) (a b c d : Value) (T : TypeId) : PV W a b c d (.pointer (some ⟨W.heap.size, 0, none⟩)) (.pointer (some ⟨W.heap.size + 1, 0, none⟩)) (((W.alloc (.cells #[a, b] T)).alloc (.cells #[c, d] T)).drew) :=
  ⟨_, _, rfl, rfl, ((Box2.new W a b T).alloc _).keep (Below.refl _ _).drew, (Box2.newAt (W := W.alloc (.cells #[a, b] T)) (B := W.heap.size + 1) (by simp) c d T).keep (Below.refl _ _).drew, by omega, Nat.le_refl _, by omega, (((Below.refl _ W).alloc (Nat.le_refl _) _).alloc (by simp) _).drew⟩
theorem pv_two (W : World) (a b c d : Value) (T : TypeId) : PV W a b c d (.pointer (some ⟨W.heap.size + 1, 0, none⟩)) (.pointer (some ⟨W.heap.size, 0, none⟩)) (((W.alloc (.cells #[c, d] T)).alloc (.cells #[a, b] T)).drew) :=
  ⟨_, _, rfl, rfl, (Box2.newAt (W := W.alloc (.cells #[c, d] T)) (B := W.heap.size + 1) (by simp) a b T).keep (Below.refl _ _).drew, ((Box2.new W c d T).alloc _).keep (Below.refl _ _).drew, by omega, by omega, Nat.le_refl _, (((Below.refl _ W).alloc (Nat.le_refl _) _).alloc (by simp) _).drew⟩

end Fr
end Go.Proofs.Ytojkaaglmdfcnaa
