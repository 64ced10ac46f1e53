/- What negatives, signs, sizes and products of 128 bits return. -/
import Derived.Test.YtojkaaglmdfcnaaW1
namespace Go.Proofs.Ytojkaaglmdfcnaa
open Go.RowKit Go.Shelf
namespace Fr
set_option linter.unusedVariables false

theorem ret_bool {a b : Bool} (h : a = b) : Ending.returned (.bool a) = .returned (.bool b) := by rw [h]

theorem xor_max (x : Int) (h0 : 0 ≤ x) (h1 : x < 18446744073709551616) : bits .xor .u64 IntKind.u64.max x = 18446744073709551615 - x := by
  obtain ⟨n, rfl⟩ := Int.eq_ofNat_of_zero_le h0
  show IntKind.u64.wrap ((BitVec.ofInt 64 IntKind.u64.max ^^^ BitVec.ofInt 64 (n : Int)).toNat : Int) = _
  have e : BitVec.ofInt 64 IntKind.u64.max = BitVec.allOnes 64 := by decide
  rw [e, BitVec.allOnes_xor, BitVec.toNat_not, BitVec.ofInt_natCast, BitVec.toNat_ofNat, IntKind.wrap_u64]
  omega

theorem plus_neg (x : Int) (w : World) :
    Calls Try.prog 76 #[.agg #[.int .u64 (bits .xor .u64 IntKind.u64.max (hi x)), .int .u64 (bits .xor .u64 IntKind.u64.max (lo x))], .agg #[.int .u64 0, .int .u64 1]] w fun e w' => e = .returned (.agg #[.int .u64 (hi (-x)), .int .u64 (lo (-x))]) ∧ Below w.heap.size w w' := by
  have h := plus_any (-x - 1) 1 w
  rw [show (-x - 1 + 1 : Int) = -x by omega] at h
  rw [xor_max _ (hi_range x).1 (hi_range x).2, xor_max _ (lo_range x).1 (lo_range x).2, hi_neg1, lo_neg1]
  exact h

theorem negated_any (x : Int) (w : World) :
    Calls Try.prog 82 #[.agg #[.int .u64 (hi x), .int .u64 (lo x)]] w fun e w' => e = .returned (.agg #[.int .u64 (hi (-x)), .int .u64 (lo (-x))]) ∧ Below w.heap.size w w' := by
  go_enter Try.func82, Try.ntmps82
  go_wp2_with fail
  refine (plus_neg x _).mono ?_
  rintro e w1 ⟨rfl, hb⟩
  obtain ⟨hc, hf⟩ := bcell hb
  go_wp2
  refine bodyPost_ret (v := .agg #[.int .u64 (hi (-x)), .int .u64 (lo (-x))]) (by simp [results, Try.results82, go_sem, hc]) rfl ⟨rfl, ?_⟩
  exact ((((Below.refl _ w).alloc (Nat.le_refl _) _).alloc (by simp) _).trans (hb.mono (by simp; omega))).setCell (p := ⟨w.heap.size + 1, 0, none⟩) (by simp) _ |>.setCell (p := ⟨w.heap.size + 1, 1, none⟩) (by simp) _

theorem negative_any (x : Int) (w : World) (h : In127 x) :
    Calls Try.prog 83 #[.agg #[.int .u64 (hi x), .int .u64 (lo x)]] w fun e w' => e = .returned (.bool (decide (x < 0))) ∧ Below w.heap.size w w' := by
  have r1 := hi_range x
  have r2 := lo_range x
  have hn : (hi x / 9223372036854775808 == 1) = decide (x < 0) := by
    rw [Bool.eq_iff_iff, beq_iff_eq, decide_eq_true_eq]; exact neg_iff h
  go_enter Try.func83, Try.ntmps83
  go_wp2
  go_ret
  exact ⟨rfl, (Below.refl _ w).alloc (Nat.le_refl _) _⟩

theorem negative_yes (x : Int) (w : World) (h : In127 x) (h0 : x < 0) :
    Calls Try.prog 83 #[.agg #[.int .u64 (hi x), .int .u64 (lo x)]] w fun e w' => e = .returned (.bool true) ∧ Below w.heap.size w w' := by
  have := negative_any x w h
  rwa [decide_eq_true h0] at this
theorem negative_no (x : Int) (w : World) (h : In127 x) (h0 : 0 ≤ x) :
    Calls Try.prog 83 #[.agg #[.int .u64 (hi x), .int .u64 (lo x)]] w fun e w' => e = .returned (.bool false) ∧ Below w.heap.size w w' := by
  have := negative_any x w h
  rwa [decide_eq_false (by omega)] at this

theorem wsize_any (x : Int) (w : World) (h : In127 x) :
    Calls Try.prog 95 #[.agg #[.int .u64 (hi x), .int .u64 (lo x)]] w fun e w' => e = .returned (.agg #[.int .u64 (hi x.natAbs), .int .u64 (lo x.natAbs)]) ∧ Below w.heap.size w w' := by
  by_cases h0 : x < 0
  · have e : (x.natAbs : Int) = -x := by omega
    rw [e]
    go_enter Try.func95, Try.ntmps95
    go_wp2_with fail
    refine (negative_yes x _ h h0).mono ?_
    rintro e w1 ⟨rfl, hb⟩
    obtain ⟨hc, hf⟩ := bcell hb
    go_wp2_with fail
    refine (negated_any x _).mono ?_
    rintro e w2 ⟨rfl, hb2⟩
    have hz := hb.size
    simp at hz
    have h20 := hb2.cell (p := ⟨w.heap.size + 1, 0, none⟩) (by simp; omega)
    have h21 := hb2.cell (p := ⟨w.heap.size + 1, 1, none⟩) (by simp; omega)
    have f20 := hb2.frozen (p := ⟨w.heap.size + 1, 0, none⟩) (by simp; omega)
    have f21 := hb2.frozen (p := ⟨w.heap.size + 1, 1, none⟩) (by simp; omega)
    go_wp2
    refine bodyPost_ret (v := .agg #[.int .u64 (hi (-x)), .int .u64 (lo (-x))]) (by simp [results, Try.results95, go_sem, hc, h20, h21]) rfl ⟨rfl, ?_⟩
    exact (((((Below.refl _ w).alloc (Nat.le_refl _) _).alloc (by simp) _).trans (hb.mono (by simp; omega))).trans (hb2.mono (by omega))).setCell (p := ⟨w.heap.size + 1, 0, none⟩) (by simp) _ |>.setCell (p := ⟨w.heap.size + 1, 1, none⟩) (by simp) _
  · have e : (x.natAbs : Int) = x := by omega
    rw [e]
    go_enter Try.func95, Try.ntmps95
    go_wp2_with fail
    refine (negative_no x _ h (by omega)).mono ?_
    rintro e w1 ⟨rfl, hb⟩
    obtain ⟨hc, hf⟩ := bcell hb
    go_wp2
    refine bodyPost_ret (v := .agg #[.int .u64 (hi x), .int .u64 (lo x)]) (by simp [results, Try.results95, go_sem, hc]) rfl ⟨rfl, ?_⟩
    exact ((((Below.refl _ w).alloc (Nat.le_refl _) _).alloc (by simp) _).trans (hb.mono (by simp; omega))).setCell (p := ⟨w.heap.size + 1, 0, none⟩) (by simp) _ |>.setCell (p := ⟨w.heap.size + 1, 1, none⟩) (by simp) _

/-- The halves of a product of two sizes. -/
theorem mul_halves (n m : Int) : (n.natAbs : Int) * (m.natAbs : Int) = ((n * m).natAbs : Int) := by
  rw [Int.natAbs_mul]; simp
theorem hi_mul {n m : Int} (hn : n.natAbs ≤ 9223372036854775808) (hm : m.natAbs ≤ 9223372036854775808) : (n.natAbs : Int) * (m.natAbs : Int) / 18446744073709551616 = hi ((n * m).natAbs : Int) := by
  rw [mul_halves, hi_nonneg _ (by omega)]
  have := mul_in127 hn hm
  unfold In127 at *
  omega

theorem product_any (n m : Int) (w : World) (h0 : -9223372036854775808 ≤ n) (h1 : n ≤ 9223372036854775807) (h2 : -9223372036854775808 ≤ m) (h3 : m ≤ 9223372036854775807) :
    Calls Try.prog 75 #[.int .i64 n, .int .i64 m] w fun e w' => e = .returned (.agg #[.int .u64 (hi (n * m)), .int .u64 (lo (n * m))]) ∧ Below w.heap.size w w' := by
  have hn : n.natAbs ≤ 9223372036854775808 := by omega
  have hm : m.natAbs ≤ 9223372036854775808 := by omega
  have HM : Hid ((n.natAbs : Int) * (m.natAbs : Int) / 18446744073709551616 = hi ((n * m).natAbs : Int)) := Lib.hid (hi_mul hn hm)
  have HL : Hid ((n.natAbs : Int) * (m.natAbs : Int) % 18446744073709551616 = lo ((n * m).natAbs : Int)) := Lib.hid (by rw [mul_halves]; rfl)
  have mul : ∀ w : World, Calls Try.prog 93 #[.int .u64 (n.natAbs : Int), .int .u64 (m.natAbs : Int)] w fun e w' => e = .returned (.tuple #[.int .u64 (hi ((n * m).natAbs : Int)), .int .u64 (lo ((n * m).natAbs : Int))]) ∧ w = w' := fun w => by
    have := mul64 (n.natAbs : Int) (m.natAbs : Int) (by omega) (by omega) (by omega) (by omega) w
    rwa [HM.out, HL.out] at this
  have HU := Lib.hid mul
  clear mul
  by_cases hs : (n < 0) ↔ (m < 0)
  · have e : ((n * m).natAbs : Int) = n * m := by
      have : 0 ≤ n * m := by
        by_cases h : n < 0
        · exact Int.mul_nonneg_of_nonpos_of_nonpos (by omega) (by have := hs.1 h; omega)
        · exact Int.mul_nonneg (by omega) (by have := mt hs.2 h; omega)
      omega
    rw [e] at HU
    have hb0 : (decide (n < 0) == decide (m < 0)) = true := by simp [hs]
    go_enter Try.func75, Try.ntmps75
    go_wp2_with fail
    refine (size_any n _ h0 h1).mono ?_
    rintro e w' ⟨rfl, rfl⟩
    go_wp2_with fail
    refine (size_any m _ h2 h3).mono ?_
    rintro e w' ⟨rfl, rfl⟩
    go_wp2_with fail
    refine (HU.out _).mono ?_
    rintro e w' ⟨rfl, rfl⟩
    go_wp2_with fail
    refine bodyPost_ret (v := .agg #[.int .u64 (hi (n * m)), .int .u64 (lo (n * m))]) (by simp [results, Try.results75, go_sem]) rfl ⟨rfl, ?_⟩
    exact ((Below.refl _ w).alloc (Nat.le_refl _) _).alloc (by simp) _
  · have e : ((n * m).natAbs : Int) = -(n * m) := by
      have : n * m ≤ 0 := by
        by_cases h : n < 0
        · exact Int.mul_nonpos_of_nonpos_of_nonneg (by omega) (by have := mt (fun h' => ⟨fun _ => h', fun _ => h⟩) hs; omega)
        · exact Int.mul_nonpos_of_nonneg_of_nonpos (by omega) (by
            rcases Int.lt_or_le 0 m with h' | h'
            · exact absurd ⟨fun h'' => absurd h'' h, fun h'' => by omega⟩ hs
            · exact h')
      omega
    rw [e] at HU
    have hb0 : (decide (n < 0) == decide (m < 0)) = false := by
      by_cases h : n < 0 <;> by_cases h' : m < 0 <;> simp [h, h'] <;> simp [h, h'] at hs
    have hneg : ∀ w : World, Calls Try.prog 82 #[.agg #[.int .u64 (hi (-(n * m))), .int .u64 (lo (-(n * m)))]] w fun e w' => e = .returned (.agg #[.int .u64 (hi (n * m)), .int .u64 (lo (n * m))]) ∧ Below w.heap.size w w' := fun w => by
      have := negated_any (-(n * m)) w
      rwa [Int.neg_neg] at this
    have HN := Lib.hid hneg
    clear hneg e
    go_enter Try.func75, Try.ntmps75
    go_wp2_with fail
    refine (size_any n _ h0 h1).mono ?_
    rintro e w' ⟨rfl, rfl⟩
    go_wp2_with fail
    refine (size_any m _ h2 h3).mono ?_
    rintro e w' ⟨rfl, rfl⟩
    go_wp2_with fail
    refine (HU.out _).mono ?_
    rintro e w' ⟨rfl, rfl⟩
    go_wp2_with fail
    refine (HN.out _).mono ?_
    rintro e w1 ⟨rfl, hb⟩
    obtain ⟨hc, hf⟩ := bcell hb
    have c0 := hc w.heap.size 0 (by simp <;> omega)
    have c1 := hc w.heap.size 1 (by simp <;> omega)
    have f0 := hf w.heap.size 0 (by simp <;> omega)
    have f1 := hf w.heap.size 1 (by simp <;> omega)
    clear hc hf
    go_wp2
    refine bodyPost_ret (v := .agg #[.int .u64 (hi (n * m)), .int .u64 (lo (n * m))]) (by simp [results, Try.results75, go_sem, c0, c1]) rfl ⟨rfl, ?_⟩
    exact ((((Below.refl _ w).alloc (Nat.le_refl _) _).alloc (by simp) _).trans (hb.mono (by simp; omega))).setCell (p := ⟨w.heap.size, 0, none⟩) (by simp) _ |>.setCell (p := ⟨w.heap.size, 1, none⟩) (by simp) _

end Fr
end Go.Proofs.Ytojkaaglmdfcnaa
