/- Statement FractionCanonical: which results are valid; quotients of small integers. -/
import Derived.Test.YtcecdmooojkmoaaDoorF10
namespace Go.Proofs.YtcecdmooojkmoaaDoor
open Go.RowKit Go.Shelf Go.Sort
namespace Fr
set_option linter.unusedVariables false

/-- A result: valid, or zero with an error. -/
def CanF (N D E : Int) : Prop :=
  (E = 0 ∧ ∀ W : World, Calls Tryd.prog 20 #[.agg #[.int .i64 N, .int .i64 D]] W fun o w' => o = .returned (.bool true) ∧ Below W.heap.size W w') ∨
  ((E == 0) = false ∧ (E != 0) = true ∧ N = 0 ∧ D = 0 ∧ ∀ W : World, Calls Tryd.prog 20 #[.agg #[.int .i64 0, .int .i64 0]] W fun o w' => o = .returned (.bool false) ∧ Below W.heap.size W w')

theorem valid_of {q : Rat} {n d : Int} (h : IsF q n d) (W : World) : Calls Tryd.prog 20 #[.agg #[.int .i64 n, .int .i64 d]] W fun o w' => o = .returned (.bool true) ∧ Below W.heap.size W w' := by
  have := valid_any n d W h.n62.i64 h.d62.i64
  rwa [(validB_iff n d).2 ⟨q, h⟩] at this
theorem valid_00 (W : World) : Calls Tryd.prog 20 #[.agg #[.int .i64 0, .int .i64 0]] W fun o w' => o = .returned (.bool false) ∧ Below W.heap.size W w' := by
  have := valid_any 0 0 W (by unfold I64; decide) (by unfold I64; decide)
  rwa [show validB 0 0 = false by decide +kernel] at this
theorem can_q (q : Rat) : CanF (rN q) (rD q) (rE q) := by
  by_cases h : Fit q
  · exact .inl ⟨rE_fit h, valid_of (isF_r h)⟩
  · exact .inr ⟨by rw [rE_big h]; rfl, by rw [rE_big h]; rfl, rN_big h, rD_big h, valid_00⟩
theorem can_m (n d : Int) : CanF (mN n d) (mD n d) (mE n d) := by
  unfold mN mD mE
  by_cases h : d = 0
  · rw [if_pos h, if_pos h, if_pos h]
    exact .inr ⟨rfl, rfl, rfl, rfl, valid_00⟩
  · rw [if_neg h, if_neg h, if_neg h]
    exact can_q _
section
variable {A B C : Rat} {an ad bn bd cn cd : Int}
theorem can_add (ha : IsF A an ad) (hb : IsF B bn bd) : ∃ N D E : Int, (∀ W : World, Calls Tryd.prog 11 #[.agg #[.int .i64 an, .int .i64 ad], .agg #[.int .i64 bn, .int .i64 bd]] W fun o w' => o = .returned (.agg #[.int .i64 N, .int .i64 D, .int .i64 E]) ∧ Below W.heap.size W w') ∧ CanF N D E := ⟨_, _, _, ladd_q ha hb, can_q _⟩
theorem can_sub (ha : IsF A an ad) (hb : IsF B bn bd) : ∃ N D E : Int, (∀ W : World, Calls Tryd.prog 14 #[.agg #[.int .i64 an, .int .i64 ad], .agg #[.int .i64 bn, .int .i64 bd]] W fun o w' => o = .returned (.agg #[.int .i64 N, .int .i64 D, .int .i64 E]) ∧ Below W.heap.size W w') ∧ CanF N D E := ⟨_, _, _, lsub_q ha hb, can_q _⟩
theorem can_mul (ha : IsF A an ad) (hb : IsF B bn bd) : ∃ N D E : Int, (∀ W : World, Calls Tryd.prog 12 #[.agg #[.int .i64 an, .int .i64 ad], .agg #[.int .i64 bn, .int .i64 bd]] W fun o w' => o = .returned (.agg #[.int .i64 N, .int .i64 D, .int .i64 E]) ∧ Below W.heap.size W w') ∧ CanF N D E := ⟨_, _, _, lmul_q ha hb, can_q _⟩
theorem can_div (ha : IsF A an ad) (hb : IsF B bn bd) : ∃ N D E : Int, (∀ W : World, Calls Tryd.prog 15 #[.agg #[.int .i64 an, .int .i64 ad], .agg #[.int .i64 bn, .int .i64 bd]] W fun o w' => o = .returned (.agg #[.int .i64 N, .int .i64 D, .int .i64 E]) ∧ Below W.heap.size W w') ∧ CanF N D E := by
  by_cases h : bn = 0
  · subst h
    exact ⟨_, _, _, ldiv_zero an ad bd, .inr ⟨rfl, rfl, rfl, rfl, valid_00⟩⟩
  · exact ⟨_, _, _, ldiv_q ha hb h, can_q _⟩
end

theorem can_fit {n d : Int} (hd : d ≠ 0) (h1 : n.natAbs ≤ 4611686018427387904) (h2 : d.natAbs ≤ 4611686018427387904) : Fit (Rat.divInt n d) ∧ (Rat.divInt n d).num.natAbs ≤ n.natAbs ∧ (Rat.divInt n d).den ≤ d.natAbs := by
  have e : (Rat.divInt n d).num * d = n * (Rat.divInt n d).den := by
    have := (Rat.num_divInt_den (Rat.divInt n d))
    exact (Rat.divInt_eq_divInt_iff (by have := (Rat.divInt n d).den_nz; omega) hd).1 this
  have hden : (Rat.divInt n d).den ≤ d.natAbs := by
    rw [Rat.den_divInt, if_neg hd]
    exact Nat.div_le_self _ _
  have hnum : (Rat.divInt n d).num.natAbs ≤ n.natAbs := by
    have e2 : (Rat.divInt n d).num.natAbs * d.natAbs = n.natAbs * (Rat.divInt n d).den := by
      have := congrArg Int.natAbs e
      rwa [Int.natAbs_mul, Int.natAbs_mul, Int.natAbs_natCast] at this
    have h3 : n.natAbs * (Rat.divInt n d).den ≤ n.natAbs * d.natAbs := Nat.mul_le_mul_left _ hden
    rw [← e2] at h3
    exact Nat.le_of_mul_le_mul_right h3 (by omega)
  exact ⟨by unfold Fit; omega, hnum, hden⟩

/-- The fraction of two small integers, and that of both times k. -/
theorem can_quot {n d k : Int} (hn : n.natAbs < 1073741824) (hd : d.natAbs < 1073741824) (hk : k.natAbs ≤ 2147483648) (hd0 : d ≠ 0) (hk0 : k ≠ 0) :
    ∃ N D : Int, mN n d = N ∧ mD n d = D ∧ mE n d = 0 ∧ mN (n * k) (d * k) = N ∧ mD (n * k) (d * k) = D ∧ mE (n * k) (d * k) = 0 ∧ N * d = D * n ∧ (N * d).natAbs ≤ 1152921504606846976 ∧ (D * n).natAbs ≤ 1152921504606846976 ∧ I64 (n * k) ∧ I64 (d * k) := by
  obtain ⟨hf, h1, h2⟩ := can_fit (n := n) hd0 (by omega) (by omega)
  have hdk : d * k ≠ 0 := Int.mul_ne_zero hd0 hk0
  have e0 : Rat.divInt (n * k) (d * k) = Rat.divInt n d := by
    rw [Int.mul_comm n, Int.mul_comm d]; exact Rat.divInt_mul_left hk0
  have e1 : (Rat.divInt n d).num * d = (Rat.divInt n d).den * n := by
    have := (Rat.divInt_eq_divInt_iff (by have := (Rat.divInt n d).den_nz; omega) hd0).1 (Rat.num_divInt_den (Rat.divInt n d))
    rw [this, Int.mul_comm]
  have b1 : ((Rat.divInt n d).num * d).natAbs ≤ 1073741824 * 1073741824 := by
    rw [Int.natAbs_mul]; exact Nat.mul_le_mul (by omega) (by omega)
  have b2 : (n * k).natAbs ≤ 1073741824 * 2147483648 := by rw [Int.natAbs_mul]; exact Nat.mul_le_mul (by omega) (by omega)
  have b3 : (d * k).natAbs ≤ 1073741824 * 2147483648 := by rw [Int.natAbs_mul]; exact Nat.mul_le_mul (by omega) (by omega)
  refine ⟨(Rat.divInt n d).num, (Rat.divInt n d).den, ?_, ?_, ?_, ?_, ?_, ?_, e1, by omega, by rw [← e1]; omega, by unfold I64; omega, by unfold I64; omega⟩
  · unfold mN rN; rw [if_neg hd0, if_pos hf]
  · unfold mD rD; rw [if_neg hd0, if_pos hf]
  · unfold mE; rw [if_neg hd0, rE_fit hf]
  · unfold mN rN; rw [if_neg hdk, e0, if_pos hf]
  · unfold mD rD; rw [if_neg hdk, e0, if_pos hf]
  · unfold mE; rw [if_neg hdk, e0, rE_fit hf]

theorem row_cell {W : World} {vs : Array Value} {T : TypeId} (j : Nat) (v : Value) (h : vs[j]? = some v) : ∀ p : Later (W.alloc (.cells vs T)), p.val.cell? ⟨W.heap.size, j, none⟩ = some v := fun p =>
  p.cell ((World.cell?_alloc_at _ T _ j rfl).trans h) (by simp)
theorem tmod_small (x : Int) : (x.tmod 1073741824).natAbs < 1073741824 := by rw [Int.natAbs_tmod]; exact Nat.mod_lt _ (by decide)
end Fr
end Go.Proofs.YtcecdmooojkmoaaDoor
