/- Statement FractionField: what the operations return, as far as the laws of a field speak of it. -/
import Derived.Test.YtcecdmooojkmoaaDoorP5
namespace Go.Proofs.YtcecdmooojkmoaaDoor
open Go.RowKit Go.Shelf Go.Sort
namespace Fr
set_option linter.unusedVariables false

theorem isF_r {q : Rat} (h : Fit q) : IsF q (rN q) (rD q) := ⟨by unfold rN; rw [if_pos h], by unfold rD; rw [if_pos h], h⟩
theorem isF_0 : IsF 0 0 1 := ⟨rfl, rfl, by decide⟩
theorem isF_1 : IsF 1 1 1 := ⟨rfl, rfl, by decide⟩

theorem field_fr (N D E : Int) (w : World) : (Instr.field 29 (.agg #[.int .i64 N, .int .i64 D, .int .i64 E]) 0).run Tryd.prog w = .ok (.agg #[.int .i64 N, .int .i64 D]) w := by kernel_rfl

section
variable {A B C : Rat} {an ad bn bd cn cd : Int}

/-- A sum both ways round; it fits, or it is refused. -/
theorem fld_add (ha : IsF A an ad) (hb : IsF B bn bd) : ∃ N D E : Int, (∀ W : World, Calls Tryd.prog 11 #[.agg #[.int .i64 an, .int .i64 ad], .agg #[.int .i64 bn, .int .i64 bd]] W fun o w' => o = .returned (.agg #[.int .i64 N, .int .i64 D, .int .i64 E]) ∧ Below W.heap.size W w') ∧ (∀ W : World, Calls Tryd.prog 11 #[.agg #[.int .i64 bn, .int .i64 bd], .agg #[.int .i64 an, .int .i64 ad]] W fun o w' => o = .returned (.agg #[.int .i64 N, .int .i64 D, .int .i64 E]) ∧ Below W.heap.size W w') ∧ (E = 0 ∧ IsF (A + B) N D ∨ E = 2) := by
  refine ⟨rN (A + B), rD (A + B), rE (A + B), ladd_q ha hb, ?_, ?_⟩
  · rw [Rat.add_comm]; exact ladd_q hb ha
  · by_cases h : Fit (A + B)
    · exact .inl ⟨rE_fit h, isF_r h⟩
    · exact .inr (rE_big h)
/-- A prod both ways round; it fits, or it is refused. -/
theorem fld_mul (ha : IsF A an ad) (hb : IsF B bn bd) : ∃ N D E : Int, (∀ W : World, Calls Tryd.prog 12 #[.agg #[.int .i64 an, .int .i64 ad], .agg #[.int .i64 bn, .int .i64 bd]] W fun o w' => o = .returned (.agg #[.int .i64 N, .int .i64 D, .int .i64 E]) ∧ Below W.heap.size W w') ∧ (∀ W : World, Calls Tryd.prog 12 #[.agg #[.int .i64 bn, .int .i64 bd], .agg #[.int .i64 an, .int .i64 ad]] W fun o w' => o = .returned (.agg #[.int .i64 N, .int .i64 D, .int .i64 E]) ∧ Below W.heap.size W w') ∧ (E = 0 ∧ IsF (A * B) N D ∨ E = 2) := by
  refine ⟨rN (A * B), rD (A * B), rE (A * B), lmul_q ha hb, ?_, ?_⟩
  · rw [Rat.mul_comm]; exact lmul_q hb ha
  · by_cases h : Fit (A * B)
    · exact .inl ⟨rE_fit h, isF_r h⟩
    · exact .inr (rE_big h)
/-- What neutral elements and inverses return. -/
structure FieldC (an ad : Int) : Prop where
  z : ∀ W : World, Calls Tryd.prog 11 #[.agg #[.int .i64 an, .int .i64 ad], .agg #[.int .i64 0, .int .i64 1]] W fun o w' => o = .returned (.agg #[.int .i64 an, .int .i64 ad, .int .i64 0]) ∧ Below W.heap.size W w'
  o : ∀ W : World, Calls Tryd.prog 12 #[.agg #[.int .i64 an, .int .i64 ad], .agg #[.int .i64 1, .int .i64 1]] W fun o w' => o = .returned (.agg #[.int .i64 an, .int .i64 ad, .int .i64 0]) ∧ Below W.heap.size W w'
  s : ∀ W : World, Calls Tryd.prog 14 #[.agg #[.int .i64 an, .int .i64 ad], .agg #[.int .i64 an, .int .i64 ad]] W fun o w' => o = .returned (.agg #[.int .i64 0, .int .i64 1, .int .i64 0]) ∧ Below W.heap.size W w'
  n : ∀ W : World, Calls Tryd.prog 12 #[.agg #[.int .i64 an, .int .i64 ad], .agg #[.int .i64 0, .int .i64 1]] W fun o w' => o = .returned (.agg #[.int .i64 0, .int .i64 1, .int .i64 0]) ∧ Below W.heap.size W w'
theorem fieldC (ha : IsF A an ad) : FieldC an ad := by
  refine ⟨fun W => ?_, fun W => ?_, fun W => ?_, fun W => ?_⟩
  · have h := ladd_q ha isF_0 W
    rwa [Rat.add_zero, rN_of ha, rD_of ha, rE_fit ha.fit] at h
  · have h := lmul_q ha isF_1 W
    rwa [Rat.mul_one, rN_of ha, rD_of ha, rE_fit ha.fit] at h
  · have h := lsub_q ha ha W
    rwa [Rat.sub_self, rN_of isF_0, rD_of isF_0, rE_fit isF_0.fit] at h
  · have h := lmul_q ha isF_0 W
    rwa [Rat.mul_zero, rN_of isF_0, rD_of isF_0, rE_fit isF_0.fit] at h

theorem sub_back (ha : IsF A an ad) (hb : IsF B bn bd) {N D : Int} (hs : IsF (A + B) N D) (W : World) : Calls Tryd.prog 14 #[.agg #[.int .i64 N, .int .i64 D], .agg #[.int .i64 bn, .int .i64 bd]] W fun o w' => o = .returned (.agg #[.int .i64 an, .int .i64 ad, .int .i64 0]) ∧ Below W.heap.size W w' := by
  have h := lsub_q hs hb W
  rwa [show A + B - B = A by rw [Rat.sub_eq_add_neg, Rat.add_assoc, Rat.add_neg_cancel, Rat.add_zero], rN_of ha, rD_of ha, rE_fit ha.fit] at h
theorem div_back (ha : IsF A an ad) (hb : IsF B bn bd) (h0 : bn ≠ 0) {N D : Int} (hs : IsF (A * B) N D) (W : World) : Calls Tryd.prog 15 #[.agg #[.int .i64 N, .int .i64 D], .agg #[.int .i64 bn, .int .i64 bd]] W fun o w' => o = .returned (.agg #[.int .i64 an, .int .i64 ad, .int .i64 0]) ∧ Below W.heap.size W w' := by
  have h := ldiv_q hs hb h0 W
  have hB : B ≠ 0 := by
    intro h
    have := hb.num
    rw [h] at this
    exact h0 this.symm
  rwa [show A * B / B = A by rw [Rat.div_def, Rat.mul_assoc, Rat.mul_inv_cancel _ hB, Rat.mul_one], rN_of ha, rD_of ha, rE_fit ha.fit] at h

theorem fld_assoc_sum (ha : IsF A an ad) (hc : IsF C cn cd) {N D M K : Int} (hs : IsF (A + B) N D) (ht : IsF (B + C) M K) :
    ∃ x y z : Int, (∀ W : World, Calls Tryd.prog 11 #[.agg #[.int .i64 N, .int .i64 D], .agg #[.int .i64 cn, .int .i64 cd]] W fun o w' => o = .returned (.agg #[.int .i64 x, .int .i64 y, .int .i64 z]) ∧ Below W.heap.size W w') ∧ (∀ W : World, Calls Tryd.prog 11 #[.agg #[.int .i64 an, .int .i64 ad], .agg #[.int .i64 M, .int .i64 K]] W fun o w' => o = .returned (.agg #[.int .i64 x, .int .i64 y, .int .i64 z]) ∧ Below W.heap.size W w') :=
  ⟨_, _, _, ladd_q hs hc, by rw [Rat.add_assoc]; exact ladd_q ha ht⟩
theorem fld_assoc_prod (ha : IsF A an ad) (hc : IsF C cn cd) {N D M K : Int} (hs : IsF (A * B) N D) (ht : IsF (B * C) M K) :
    ∃ x y z : Int, (∀ W : World, Calls Tryd.prog 12 #[.agg #[.int .i64 N, .int .i64 D], .agg #[.int .i64 cn, .int .i64 cd]] W fun o w' => o = .returned (.agg #[.int .i64 x, .int .i64 y, .int .i64 z]) ∧ Below W.heap.size W w') ∧ (∀ W : World, Calls Tryd.prog 12 #[.agg #[.int .i64 an, .int .i64 ad], .agg #[.int .i64 M, .int .i64 K]] W fun o w' => o = .returned (.agg #[.int .i64 x, .int .i64 y, .int .i64 z]) ∧ Below W.heap.size W w') :=
  ⟨_, _, _, lmul_q hs hc, by rw [Rat.mul_assoc]; exact lmul_q ha ht⟩
theorem fld_dist (hc : IsF C cn cd) {N D M K X Y : Int} (hs : IsF (A + B) N D) (hr : IsF (A * C) M K) (hq : IsF (B * C) X Y) :
    ∃ x y z : Int, (z = 0 ∨ z = 2) ∧ (∀ W : World, Calls Tryd.prog 12 #[.agg #[.int .i64 N, .int .i64 D], .agg #[.int .i64 cn, .int .i64 cd]] W fun o w' => o = .returned (.agg #[.int .i64 x, .int .i64 y, .int .i64 z]) ∧ Below W.heap.size W w') ∧ (∀ W : World, Calls Tryd.prog 11 #[.agg #[.int .i64 M, .int .i64 K], .agg #[.int .i64 X, .int .i64 Y]] W fun o w' => o = .returned (.agg #[.int .i64 x, .int .i64 y, .int .i64 z]) ∧ Below W.heap.size W w') := by
  refine ⟨_, _, _, ?_, lmul_q hs hc, by rw [Rat.add_mul]; exact ladd_q hr hq⟩
  by_cases h : Fit ((A + B) * C)
  · exact .inl (rE_fit h)
  · exact .inr (rE_big h)
theorem res_mul {N D : Int} (hs : IsF A N D) (hc : IsF C cn cd) : ∃ x y z : Int, (z = 0 ∨ z = 2) ∧ (∀ W : World, Calls Tryd.prog 12 #[.agg #[.int .i64 N, .int .i64 D], .agg #[.int .i64 cn, .int .i64 cd]] W fun o w' => o = .returned (.agg #[.int .i64 x, .int .i64 y, .int .i64 z]) ∧ Below W.heap.size W w') := by
  refine ⟨_, _, _, ?_, lmul_q hs hc⟩
  by_cases h : Fit (A * C)
  · exact .inl (rE_fit h)
  · exact .inr (rE_big h)
theorem res_add {N D : Int} (hs : IsF A N D) (hc : IsF C cn cd) : ∃ x y z : Int, (z = 0 ∨ z = 2) ∧ (∀ W : World, Calls Tryd.prog 11 #[.agg #[.int .i64 N, .int .i64 D], .agg #[.int .i64 cn, .int .i64 cd]] W fun o w' => o = .returned (.agg #[.int .i64 x, .int .i64 y, .int .i64 z]) ∧ Below W.heap.size W w') := by
  refine ⟨_, _, _, ?_, ladd_q hs hc⟩
  by_cases h : Fit (A + C)
  · exact .inl (rE_fit h)
  · exact .inr (rE_big h)
end
end Fr
end Go.Proofs.YtcecdmooojkmoaaDoor
