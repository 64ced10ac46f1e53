/- What the products of fractions return, as rational numbers. -/
import Derived.Test.YtojkaaglmdfcnaaW6
import Derived.Test.YtojkaaglmdfcnaaM2
namespace Go.Proofs.Ytojkaaglmdfcnaa
open Go.RowKit Go.Shelf
namespace Fr
set_option linter.unusedVariables false

/-- The result of a call: a fraction and an error. -/
def res (q : Rat) : Value := .tuple #[.agg #[.int .i64 (rN q), .int .i64 (rD q)], .int .i64 (rE q)]

theorem narrow_any (n d : Int) (w : World) (hn : In127 n) (hd : In127 d) (h0 : d ≠ 0) (hc : Nat.Coprime n.natAbs d.natAbs) :
    Calls Try.prog 79 #[.agg #[.int .u64 (hi n), .int .u64 (lo n)], .agg #[.int .u64 (hi d), .int .u64 (lo d)]] w fun e w' => e = .returned (res (Rat.divInt n d)) ∧ Below w.heap.size w w' := by
  rcases Int.lt_or_gt_of_ne h0 with hneg | hpos
  · have en : (Rat.divInt n d).num = -n := by rw [← divInt_neg_neg]; exact divInt_num (by omega) (by rw [Int.natAbs_neg, Int.natAbs_neg]; exact hc)
    have ed : ((Rat.divInt n d).den : Int) = -d := by rw [← divInt_neg_neg]; exact divInt_den (by omega) (by rw [Int.natAbs_neg, Int.natAbs_neg]; exact hc)
    cases hfn : fitB n with
    | false =>
      have hF : ¬ Fit (Rat.divInt n d) := by unfold fitB at hfn; rw [decide_eq_false_iff_not] at hfn; unfold Fit; rw [en]; omega
      rw [show res (Rat.divInt n d) = .tuple #[.agg #[.int .i64 0, .int .i64 0], .int .i64 2] by unfold res rN rD rE; rw [if_neg hF, if_neg hF, if_neg hF]]
      exact narrow_neg_num n d w hn hd hneg hfn
    | true =>
      cases hfd : fitB d with
      | false =>
        have hF : ¬ Fit (Rat.divInt n d) := by unfold fitB at hfd; rw [decide_eq_false_iff_not] at hfd; unfold Fit; rw [ed]; omega
        rw [show res (Rat.divInt n d) = .tuple #[.agg #[.int .i64 0, .int .i64 0], .int .i64 2] by unfold res rN rD rE; rw [if_neg hF, if_neg hF, if_neg hF]]
        exact narrow_neg_den n d w hn hd hneg hfn hfd
      | true =>
        have hF : Fit (Rat.divInt n d) := by unfold fitB at hfn hfd; rw [decide_eq_true_eq] at hfn hfd; unfold Fit; rw [en, ed]; omega
        rw [show res (Rat.divInt n d) = .tuple #[.agg #[.int .i64 (-n), .int .i64 (-d)], .int .i64 0] by unfold res rN rD rE; rw [if_pos hF, if_pos hF, if_pos hF, en, ed]]
        exact narrow_neg_ok n d w hn hd hneg hfn hfd
  · have en : (Rat.divInt n d).num = n := divInt_num (by omega) hc
    have ed : ((Rat.divInt n d).den : Int) = d := divInt_den (by omega) hc
    cases hfn : fitB n with
    | false =>
      have hF : ¬ Fit (Rat.divInt n d) := by unfold fitB at hfn; rw [decide_eq_false_iff_not] at hfn; unfold Fit; rw [en]; omega
      rw [show res (Rat.divInt n d) = .tuple #[.agg #[.int .i64 0, .int .i64 0], .int .i64 2] by unfold res rN rD rE; rw [if_neg hF, if_neg hF, if_neg hF]]
      exact narrow_pos_num n d w hn hd hpos hfn
    | true =>
      cases hfd : fitB d with
      | false =>
        have hF : ¬ Fit (Rat.divInt n d) := by unfold fitB at hfd; rw [decide_eq_false_iff_not] at hfd; unfold Fit; rw [ed]; omega
        rw [show res (Rat.divInt n d) = .tuple #[.agg #[.int .i64 0, .int .i64 0], .int .i64 2] by unfold res rN rD rE; rw [if_neg hF, if_neg hF, if_neg hF]]
        exact narrow_pos_den n d w hn hd hpos hfn hfd
      | true =>
        have hF : Fit (Rat.divInt n d) := by unfold fitB at hfn hfd; rw [decide_eq_true_eq] at hfn hfd; unfold Fit; rw [en, ed]; omega
        rw [show res (Rat.divInt n d) = .tuple #[.agg #[.int .i64 n, .int .i64 d], .int .i64 0] by unfold res rN rD rE; rw [if_pos hF, if_pos hF, if_pos hF, en, ed]]
        exact narrow_pos_ok n d w hn hd hpos hfn hfd

theorem narrow_out (n d : Int) (w : World) (hn : In127 n) (hd : In127 d) (h0 : d ≠ 0) (hc : Nat.Coprime n.natAbs d.natAbs) (q : Rat) (hq : Rat.divInt n d = q) :
    Calls Try.prog 79 #[.agg #[.int .u64 (hi n), .int .u64 (lo n)], .agg #[.int .u64 (hi d), .int .u64 (lo d)]] w fun e w' => e = .returned (.tuple #[.agg #[.int .i64 (rN q), .int .i64 (rD q)], .int .i64 (rE q)]) ∧ Below w.heap.size w w' := by
  rw [← hq]
  exact narrow_any n d w hn hd h0 hc

/-- The divisor of two numbers of which the second is not 0. -/
theorem gcd_new (x y : Nat) (w : World) (hx : x < 18446744073709551616) (hy : y < 18446744073709551616) (h0 : 0 < x ∨ 0 < y) :
    Calls Try.prog 73 #[.slice (some ⟨w.heap.size, 0, none⟩) 2 2] (w.alloc (.cells #[.int .u64 (x : Int), .int .u64 (y : Int)] 102)) fun e w' => e = .returned (.int .u64 (Nat.gcd x y : Int)) ∧ Below (w.alloc (.cells #[.int .u64 (x : Int), .int .u64 (y : Int)] 102)).heap.size (w.alloc (.cells #[.int .u64 (x : Int), .int .u64 (y : Int)] 102)) w' := by
  have hb := Box2.new w (.int .u64 (x : Int)) (.int .u64 (y : Int)) 102
  refine (gcd_two w.heap.size 0 2 x y _ hx hy hb.c0 hb.c1).mono ?_
  rintro e w' ⟨rfl, n, rfl⟩
  refine ⟨ret_int ?_, drewN_below _ _⟩
  have : 0 < Nat.gcd x y := by
    rcases h0 with h | h
    · exact Nat.gcd_pos_of_pos_left _ h
    · exact Nat.gcd_pos_of_pos_right _ h
  omega

/-- Two boxes of arguments and one for the result, and all that was there. -/
structure Args (w W : World) (a b c d e f : Value) : Prop where
  a : Box2 W w.heap.size a b
  b : Box2 W (w.heap.size + 1) c d
  r : Box2 W (w.heap.size + 1 + 1) e f
  below : Below w.heap.size w W
theorem Args.keep {w W W' : World} {a b c d e f : Value} (h : Args w W a b c d e f) (hb : Below W.heap.size W W') : Args w W' a b c d e f :=
  ⟨h.a.keep hb, h.b.keep hb, h.r.keep hb, h.below.trans (hb.mono h.below.size)⟩
theorem Args.alloc {w W : World} {a b c d e f : Value} (h : Args w W a b c d e f) (o : Obj) : Args w (W.alloc o) a b c d e f := h.keep ((Below.refl _ W).alloc (Nat.le_refl _) o)
theorem Args.far {w W : World} {B : Nat} {a b c d e f : Value} (h : Args w W a b c d e f) (h0 : w.heap.size ≤ B) (h1 : B ≠ w.heap.size) (h2 : B ≠ w.heap.size + 1) (h3 : B ≠ w.heap.size + 1 + 1) (u v : Value) : Args w ((W.setCell ⟨B, 0, none⟩ u).setCell ⟨B, 1, none⟩ v) a b c d e f :=
  ⟨(h.a.far h1 _).far h1 _, (h.b.far h2 _).far h2 _, (h.r.far h3 _).far h3 _, below_set2 h.below h0 u v⟩
theorem Args.start (w : World) (a b c d e f : Value) (T T' T'' : TypeId) : Args w (((w.alloc (.cells #[a, b] T)).alloc (.cells #[c, d] T')).alloc (.cells #[e, f] T'')) a b c d e f :=
  ⟨((Box2.new w a b T).alloc _).alloc _, (Box2.newAt (W := w.alloc (.cells #[a, b] T)) (by simp) c d T').alloc _, Box2.newAt (by simp) e f T'', (((Below.refl _ w).alloc (Nat.le_refl _) _).alloc (by simp) _).alloc (by simp; omega) _⟩

def I64 (n : Int) : Prop := -9223372036854775808 ≤ n ∧ n ≤ 9223372036854775807

theorem ov_in127 {x : Int} {d : Nat} (h : In127 x) : In127 (ov x (d : Int)) := by
  unfold ov In127 at *
  have : ((x.tdiv (d : Int)).natAbs) ≤ x.natAbs := by rw [Int.natAbs_tdiv]; exact Nat.div_le_self _ _
  omega

theorem over_nat (x : Int) (d : Nat) (w : World) (h : In127 x) (hd0 : 0 < d) (hd1 : d < 18446744073709551616) :
    Calls Try.prog 77 #[.agg #[.int .u64 (hi x), .int .u64 (lo x)], .int .u64 (d : Int)] w fun e w' => e = .returned (.agg #[.int .u64 (hi (ov x d)), .int .u64 (lo (ov x d))]) ∧ Below w.heap.size w w' :=
  over_any x d w h (by omega) (by omega)

theorem gcd_small {x y : Nat} (hx : x ≤ 9223372036854775808) (hy : y ≤ 9223372036854775808) (h0 : 0 < x ∨ 0 < y) : 0 < Nat.gcd x y ∧ Nat.gcd x y < 18446744073709551616 := by
  rcases h0 with h | h
  · exact ⟨Nat.gcd_pos_of_pos_left _ h, by have := Nat.gcd_le_left y h; omega⟩
  · exact ⟨Nat.gcd_pos_of_pos_right _ h, by have := Nat.gcd_le_right x h; omega⟩

end Fr
end Go.Proofs.Ytojkaaglmdfcnaa
